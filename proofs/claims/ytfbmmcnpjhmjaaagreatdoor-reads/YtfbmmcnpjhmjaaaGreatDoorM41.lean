import Derived.Test.YtfbmmcnpjhmjaaaGreatDoorM35
import Derived.Lib.Overlaps
import Derived.Laws.Externs
import Derived.Shelf.RegionOpenPlain
import Derived.Laws.Cover1
set_option maxRecDepth 100000
set_option maxHeartbeats 8000000
open Go.IntKind renaming i64 -> Z9
open Go.Value renaming int -> Z8, slice -> Z7, string -> Z4
open Go.Obj renaming cells -> Z6
open Go.Ending renaming returned -> Z5
open Option renaming none -> Z3, some -> Z2
open Bool renaming true -> Z1
open Go renaming World -> Z0, Value -> ZZ, Calls -> ZX
open Go.RowKit renaming Below -> ZY
open List renaming length_append -> Tm, length_drop -> Tn, length_take -> To, append_assoc -> Tp, mem_of_mem_drop -> Tv, take_left -> Tw, getElem?_eq_some_iff -> Tx, getElem?_take_of_lt -> Ty, length_map -> Tz, take_append_of_le_length -> TA, take_take -> TB, getElem?_drop -> TC, eq_nil_of_length_eq_zero -> TE, take_of_length_le -> TG, mem_append -> TH, mem_cons -> TI, mem_of_mem_take -> TJ, map_append -> TK, map_take -> TL, map_drop -> TM
open Nat renaming le_refl -> Tq, zero_add -> Tr, min_eq_left -> Tt, min -> Tu
open ByteArray renaming empty -> Ts
open Array renaming getElem?_eq_some_iff -> TD, toList_append -> TF
open Go.Proofs.Tryz renaming prog -> ZW
namespace Go.Proofs.YtfbmmcnpjhmjaaaGreatDoor
open Go.RowKit Go.Deep
variable {a:Act} {ops:Array Oper} {cur:Array ZZ} {Q:Exit->Act->Z0->Prop} {L:List (Ob×ZZ)} {os:List Ob} {xs:List ZZ} {base g cap i vb n:Nat} {K:Nat->Prop} {x:Ob×ZZ} {o:Oper} {E:Prop} {v u:ZZ} {w:Z0}
theorem oJ (a:gz K w v os) (T:os.length<=10000) :
 ZX ZW 116 #[v] w λe w'=>∃ u L,e=Z5 u/\L.map (·.1)=os/\L9 K w L/\w'.ownsRow w.heap.size 123 3 u L.length (bQ L)/\ZY w.heap.size w w':=by
 obtain ⟨L,i,l,f⟩:=Ma a;obtain ⟨t,c,rfl,R,d⟩:=id a;have G:L.length=os.length:=by rw [<- i,Tz]
 obtain ⟨N,J,C,D,E⟩:=info_parts Tryz.infoObj48;cases t with
 | none=>
  have y:os=[]:=Classical.byContradiction λh=>by obtain ⟨b,off,e,_⟩:=d h;cases e
  subst y;have F:L=[]:=TE G;subst F;have I:=λm=>Lib.run_eql_slice_nil (P:=ZW) m 119 123 Z3 0 c 0 0 Tryz.underlying119;simp only [List.length_nil];clear d a f l;go_enter Tryz.func116,Tryz.ntmps116;go_wp2;go_ret;exact ⟨_,[],rfl,rfl,λx M=>by simp at M,World.ownsRow_nil _ _ _ _,Below.refl _ _⟩
 | some s=>
  have I:=λm=>Lib.run_eql_slice_nil (P:=ZW) m 119 123 (Z2 s) os.length c 0 0 Tryz.underlying119;have g:ZY w.heap.size w (w.alloc (Z6 #[] 123)):=bA _ _;have p:=f _ (eM.of_below g);have r:(w.alloc (Z6 #[] 123)).ownsRow w.heap.size 123 3 (Z7 (Z2 ⟨w.heap.size,0,Z3⟩) 0 0) 0 []:=⟨rfl,.inr ⟨w.heap.size,0,#[],rfl,Tq _,heap_alloc_last w _,Tq _,by unfold maxLen;omega,rfl,rfl⟩⟩;have H:=hide5 i l g p r;have S:L.length<=10000:=by omega
  clear d a f l g p r i;go_enter Tryz.func116,Tryz.ntmps116;go_wp2_with (at_builtin;refine af _ rfl (.tmp 5) (.tmp 6) 119 119 rfl w.heap.size 123 N _ 3 48 Tryz.underlying119 J C D E rfl _ 0 [] (by rfl) (by exact H.out.2.2.2.2) _ (by rfl) L.length (bQ L) (by exact H.out.2.2.2.1) (by unfold maxLen;omega) (by omega) (by exact H.out.2.2.1.size) ?_;intro U V j q B;rw [Tr,List.nil_append] at j;have n:=hide2 j q;clear j q B);go_ret;obtain ⟨z,A,o,O,Q⟩:=H.out;exact ⟨_,L,rfl,z,A,n.out.1,o.grown n.out.2 o.size (λk e=>by cases e;exact Tq _)⟩
theorem oK {K:Act->Z0->Prop} (f:o.guard=Z3) (d x:Operand) (b c:TypeId) (e:o.op=Op.call { callee:=Callee.builtin Builtin.copy,args:=#[d,x],argTypes:=#[b,c] })
 (v u:ZZ) (hd:a.eval d=v) (hx:a.eval x=u) {v':ZZ} {w':Z0} (hr:(Builtin.copy_ #[b,c] o.type #[v,u]).run ZW w=.ok v' w') (hK:K (a.put o.dst v') w'):if Region.wanted o (yielded ops a.tmps)=Z1 then Oper.wp ZW o a w K Q else E:=by
 rw [if_pos (by simp [Region.wanted,f])];unfold Oper.wp;simp [execOp,e,resolve,invoke,builtin,hd,hx,hr,Result.andThen];exact hK
theorem Ki {α:Type} (cur c v:List α) (a m k:Nat) (g:cur.take k=c) (l:c.length=k) (h:v.length=m) (f:a<=k) (n:k+m<=cur.length) :
 ((cur.take (a+m)++c.drop a++cur.drop (a+m+(c.drop a).length)).take a++v++(cur.take (a+m)++c.drop a++cur.drop (a+m+(c.drop a).length)).drop (a+v.length)).take (k+m)=c.take a++(v++c.drop a) /\
 ((cur.take (a+m)++c.drop a++cur.drop (a+m+(c.drop a).length)).take a++v++(cur.take (a+m)++c.drop a++cur.drop (a+m+(c.drop a).length)).drop (a+v.length)).length=cur.length:=by
 have b:(cur.take (a+m)).length=a+m:=by rw [To];omega
 have d:(cur.take (a+m)++c.drop a++cur.drop (a+m+(c.drop a).length)).take a=c.take a:=by
  rw [Tp,TA (by omega),TB,Tt (by omega),<- g,TB,Tt f]
 have e:(cur.take (a+m)++c.drop a++cur.drop (a+m+(c.drop a).length)).drop (a+v.length)=c.drop a++cur.drop (a+m+(c.drop a).length):=by
  rw [h,Tp];exact List.drop_left' b
 have i:(c.take a).length=a:=by rw [To];omega
 have j:(c.drop a).length=k-a:=by rw [Tn];omega
 rw [d,e];constructor
 . rw [Tp,<- Tp v,<- Tp (c.take a)];have:(c.take a++(v++c.drop a)).length=k+m:=by rw [Tm,Tm];omega
   rw [<- this,Tw]
 . simp only [Tm,Tn,To];omega
theorem kJ (b:Nat):∀ (a:List ZZ) (o:Nat) (w:Z0),(w.drew.setCells b o a).heap=(w.setCells b o a).heap
 | [],_,_=>rfl
 | v::r,o,w=>kJ b r (o+1) (w.setCell ⟨b,o,Z3⟩ v)
theorem Ez (L:List (Ob×ZZ)) (x:Ob×ZZ) (i:Nat):(bQ L).take (i*3)++(jw x++(bQ L).drop (i*3))=bQ (L.take i++x::L.drop i):=by
 rw [A0,tw,iK];congr 1
theorem EA:(ZW.info? 123).map (·.size)=Z2 3:=by kernel_rfl
theorem A3 (A:w.heap[g]?=Z2 (Z6 cur 123 (0,0))) (R:base<=g) (C:cur.size=cap*3) (z:cur.toList.take (L.length*3)=bQ L) (O:∀ u∈bQ L,u.oneCell'=Z1) (U:∀ u∈jw x,u.oneCell'=Z1)
 (Y:i<L.length) (X:L.length+1<=cap) (Z:L.length<=10000) (D:w.heap[vb]?=Z2 (Z6 (jw x).toArray 123 (0,0))) (S:vb≠g) :
 ZX ZW 142 #[Z7 (Z2 ⟨g,0,Z3⟩) L.length cap,Z8 Z9 i,Z7 (Z2 ⟨vb,0,Z3⟩) 1 1] w λe w'=>e=Z5 (Z7 (Z2 ⟨g,0,Z3⟩) (L.length+1) cap)/\ZY base w w'/\∃ a,aw w' g 123 a/\a.length=cap*3/\a.take ((L.length+1)*3)=bQ (L.take i++x::L.drop i):=by
 obtain ⟨n,P⟩:=nM (L.length);have m:aw w g 123 cur.toList:=by unfold aw;exact A
 have p:aw w vb 123 (jw x):=D;have h:cur.toList.length=cap*3:=by simpa using C
 have r:((bQ L).drop (i*3)).length=(n-i)*3:=by rw [Tn,cf,P];omega
 have kf:(jw x).length=3:=rfl;have T:∀ lb y ob,(callFunc 165 #[Z7 (Z2 ⟨vb,0,Z3⟩) 1 1,Z7 (Z2 ⟨g,ob,Z3⟩) lb y]).run ZW w=.ok (.value (.bool false)) w:=λlb y ob=>by
  rw [run_callFunc_extern Tryz.func165 (by kernel_rfl) (by kernel_rfl) (by kernel_rfl) (e:=Extern.SlicesOverlaps.overlaps #[118,118] #[4]) (by kernel_rfl),
   Lib.run_overlaps_apart w 118 4 123 Tryz.underlying118 3 (λw=>by obtain ⟨io,ka,kb,hs,kc⟩:=info_parts Tryz.infoObj48;simp [sizeOf,typeInfo,ka,hs]) ⟨vb,0,Z3⟩ ⟨g,ob,Z3⟩ 1 1 lb y S 123 123 3 (cap*3) (by simp [World.shape?,D];rfl) (by simp [World.shape?,A,C]) (by omega) (p.thaw _) (p.thaw _)]
  rfl
 have J:∀ c d l1 b E v F,d=i*3+3->l1=n-i->E=i*3->v=n+1-i->(Builtin.copy_ #[119,119] c #[Z7 (Z2 ⟨g,d,Z3⟩) l1 b,Z7 (Z2 ⟨g,E,Z3⟩) v F]).run ZW w.drew=.ok (goInt (Tu v l1)) (w.drew.setCells g (i*3+3) ((bQ L).drop (i*3))):=by
  rintro c d l1 b E v F rfl rfl rfl rfl;refine fX w.drew _ _ c 123 3 g (i*3+3) _ b g (i*3) _ F 123 cur.toList _ Tryz.underlying119 EA (by rw [r];show _=min _ _*3;rw [Nat.min_eq_right (by omega)]) (λj u l=>?_) m (by rw [r,h];omega) (λu hu=>O u (Tv hu));refine m.cell ?_;rw [TC] at l;have ke:i*3+j<L.length*3:=by obtain ⟨q,_⟩:=Tx.1 l;rwa [cf] at q
  rw [<- z,Ty ke] at l;exact l
 have f:=m.set (i*3+3) ((bQ L).drop (i*3)) (by rw [r,h];omega);have I:aw (w.setCells g (i*3+3) ((bQ L).drop (i*3))) vb 123 (jw x):=p.keep (bC g _ _ _ _ S);obtain ⟨c1,B⟩:=nM (cur.toList.take (i*3+3)++(bQ L).drop (i*3)++cur.toList.drop (i*3+3+((bQ L).drop (i*3)).length));have M:=Ki cur.toList (bQ L) (jw x) (i*3) 3 (L.length*3) z (cf L) rfl (by omega) (by rw [h];omega);rw [B] at f M;obtain ⟨s,t⟩:=M;have o:c1.length=cap*3:=by
  rw [<- B];simp only [Tm,Tn,To,cf,h];omega
 have K:∀ (W:Z0),W.heap=(w.setCells g (i*3+3) ((bQ L).drop (i*3))).heap->∀ c d l1 b,d=i*3->l1=n+1-i->(Builtin.copy_ #[119,118] c #[Z7 (Z2 ⟨g,d,Z3⟩) l1 b,Z7 (Z2 ⟨vb,0,Z3⟩) 1 1]).run ZW W=.ok (goInt (Tu 1 l1)) (W.setCells g (i*3) (jw x)):=by
  rintro W N c d l1 b rfl rfl;have k6:aw W g 123 c1:=by unfold aw;rw [N];exact f
  have hm:aw W vb 123 (jw x):=by unfold aw;rw [N];exact I
  refine fX W _ _ c 123 3 g (i*3) _ b vb 0 1 1 123 c1 _ Tryz.underlying119 EA (by show _=min _ _*3;rw [Tt (by omega)];rfl) (λj u l=>?_) k6 (by rw [o,kf];omega) U;rw [Tr];exact hm.cell l
 have H:=hide3 f s t;have k9:=hide m.lt;have o:=hide o;have hr:=hide h;have G:=hide2 J K;have V:=hide T;rw [P] at Y X Z ⊢;have ks:¬ ((i:Int)=(n:Int)):=by omega
 have kp:IntKind.i64.wrap ((i:Int)+1)=(i:Int)+1:=by rw [IntKind.wrap_i64];omega
 have kr:¬ (cap:Int)<(n:Int)+1:=by omega
 have km:i<=n:=by omega
 have kh:¬ (cap=i+1):=by omega
 have kj:¬ (cap=i):=by omega
 have ko:((i:Int)+1).toNat=i+1:=by omega
 have kg:(0:Int)<=(i:Int)+1:=by omega
 have ki:(i:Int)<=(n:Int)+1:=by omega
 clear m p r T J K f I B s t h C z O U D A;go_enter Tryz.func142,Tryz.ntmps142;go_wp2_with (simp only [V.out]);go_region_law (refine oK rfl _ _ 119 119 rfl _ _ (by simp [Act.eval,Act.put]) (by simp [Act.eval,Act.put]) (G.out.1 _ ((i+1)*3) (n-i) (cap-(i+1)) (i*3) (n+1-i) (cap-i) (by omega) (by omega) (by omega) (by omega)) ?_)
 have k8:∀ c b,(Builtin.copy_ #[119,118] c #[Z7 (Z2 ⟨g,i*3,Z3⟩) (n+1-i) b,Z7 (Z2 ⟨vb,0,Z3⟩) 1 1]).run ZW (w.drew.setCells g (i*3+3) ((bQ L).drop (i*3)))=.ok (goInt (Tu 1 (n+1-i))) ((w.drew.setCells g (i*3+3) ((bQ L).drop (i*3))).setCells g (i*3) (jw x)):=λc b=>G.out.2 _ (kJ _ _ _ _) c (i*3) (n+1-i) b rfl rfl;go_wp2;go_ret;obtain ⟨f,s,t⟩:=H.out;have k7:aw (w.drew.setCells g (i*3+3) ((bQ L).drop (i*3))) g 123 c1:=by unfold aw;rw [kJ];exact f
 have kk:g<w.heap.size:=k9.out;have Q:ZY base w (w.drew.setCells g (i*3+3) ((bQ L).drop (i*3))):=(Below.refl base w).drew.grown (cD _ _ _ _) (by show base<=w.heap.size;omega) (λk e=>by cases e;exact R);refine ⟨rfl,Q.grown (cD _ _ _ _) (Nat.le_trans (by omega) Q.size) (λk e=>by cases e;exact R),_,k7.set (i*3) (jw x) (by have h1:c1.length=cap*3:=o.out;have h2:(jw x).length=3:=rfl;omega),?_,?_⟩
 . rw [t];exact hr.out
 . rw [show (n+1)*3=L.length*3+3 by omega,s,Ez]
theorem A4 (Z:w.heap[g]?=Z2 (Z6 cur 123 (0,0))) (kp:base<=w.heap.size) (kc:cur.size=cap*3) (P:cur.toList.take (L.length*3)=bQ L) (hs:∀ u∈bQ L,u.oneCell'=Z1) (ki:∀ u∈jw x,u.oneCell'=Z1)
 (hi:i<L.length) (ky:L.length<=cap) (hv:cap<L.length+1) (hl:L.length<=10000) (hx:w.heap[vb]?=Z2 (Z6 (jw x).toArray 123 (0,0))) :
 ZX ZW 142 #[Z7 (Z2 ⟨g,0,Z3⟩) L.length cap,Z8 Z9 i,Z7 (Z2 ⟨vb,0,Z3⟩) 1 1] w λe w'=>∃ c,e=Z5 (Z7 (Z2 ⟨w.heap.size,0,Z3⟩) (L.length+1) c)/\ZY base w w'/\L.length+1<=c/\c<=9223372036854775807/\∃ d,aw w' w.heap.size 123 d/\d.length=c*3/\d.take ((L.length+1)*3)=bQ (L.take i++x::L.drop i):=by
 obtain ⟨io,kg,hq,hr,R⟩:=info_parts Tryz.infoObj48;obtain ⟨n,I⟩:=nM (L.length);have v:aw w g 123 cur.toList:=by unfold aw;exact Z
 have S:aw w vb 123 (jw x):=hx;have kr:cur.toList.length=cap*3:=by simpa using kc
 have z:((bQ L).drop (i*3)).length=(n-i)*3:=by rw [Tn,cf,I];omega
 have p:((bQ L).take (i*3)).length=i*3:=by rw [To,cf,I];omega
 have A:(jw x).length=3:=rfl;have X:∀ j u,(bQ L)[j]?=Z2 u->w.cell? ⟨g,j,Z3⟩=Z2 u:=λj u b=>by
  refine v.cell ?_;have U:j<L.length*3:=by obtain ⟨q,_⟩:=Tx.1 b;rwa [cf] at q
  rw [<- P,Ty U] at b;exact b
 have hold:(Builtin.firstCells io.size i (Z7 (Z2 ⟨g,0,Z3⟩) i cap)).run ZW w.drew=.ok ((bQ L).take (i*3)).toArray w.drew:=by
  rw [hr];exact run_firstCells_some w.drew 3 i ⟨g,0,Z3⟩ i cap _ p (λj u b=>by
   rw [Addr.add_mid,Tr];rw [List.getElem?_take] at b;split at b
   . exact X j u b
   . cases b)
 have kf:i+(n+1-i)=n+1:=by omega
 have kh:(n:Int)+1-(i:Int)=((n+1-i:Nat):Int):=by omega
 have r:=λh=>Lib.run_append_grow_zeros w 119 3 h 123 io _ .i64 .i64 Tryz.underlying119 Tryz.underlying3 kg hq (Z2 ⟨g,0,Z3⟩) i cap _ hold (n+1-i) (by omega) (by omega) (by omega) (by omega) (by rw [R];omega) (by rw [R,kf];exact growslice_fits (by omega) (by omega));rw [kf] at r;obtain ⟨C,G⟩:=nM (grownCap w (n+1) cap 123);have km:n+1<=C:=by rw [<- G];exact grownCap_ge w _ _ _
 have ko:C<=9223372036854775807:=by
  have:=grownCap_le_maxLen w (n+1) cap 123 (by unfold maxLen;omega);rw [G] at this;unfold maxLen at this;omega
 rw [G] at r;obtain ⟨a,D⟩:∃ a:Array ZZ,((bQ L).take (i*3)).toArray++Builtin.zeroCells (Value.agg #[Z4 Ts,Z8 Z9 0,Z7 Z3 0 0]).cells (n+1-i)++Builtin.zeroCells (Value.agg #[Z4 Ts,Z8 Z9 0,Z7 Z3 0 0]).cells (C-(n+1))=a:=⟨_,rfl⟩;rw [D] at r;have kk:(Value.agg #[Z4 Ts,Z8 Z9 0,Z7 Z3 0 0]).cells.size=3:=by rfl
 have J:a.toList.length=C*3:=by
  rw [<- D];simp only [Array.length_toList,Array.size_append,size_zeroCells,List.size_toArray,kk,p];omega
 have kb:a.toList.take (i*3)=(bQ L).take (i*3):=by
  rw [<- D,TF,TF,Tp,TA (by simp [p])];rw [TG (by simp [p])]
 obtain ⟨l,M⟩:=nM (w.drew.alloc (Z6 a 123));rw [M] at r;have T:aw l w.heap.size 123 a.toList:=by rw [<- M];exact heap_alloc_new w.drew _
 have s:ZY w.heap.size w l:=by rw [<- M];exact (Below.refl _ w).drew.alloc lR _
 have kj:aw l vb 123 (jw x):=S.keep (s.block _ S.lt);have ke:aw l g 123 cur.toList:=v.keep (s.block _ v.lt);have t:∀ h o,(Builtin.copy_ #[119,118] h #[Z7 (Z2 ⟨w.heap.size,i*3,Z3⟩) (n+1-i) o,Z7 (Z2 ⟨vb,0,Z3⟩) 1 1]).run ZW l=.ok (goInt (Tu 1 (n+1-i))) (l.setCells w.heap.size (i*3) (jw x)):=λh o=>by
  refine fX l _ _ h 123 3 w.heap.size (i*3) _ o vb 0 1 1 123 a.toList _ Tryz.underlying119 EA (by show _=min _ _*3;rw [Tt (by omega)];rfl) (λj u b=>?_) T (by rw [J,A];omega) ki;rw [Tr];exact kj.cell b
 have y:=T.set (i*3) (jw x) (by rw [J,A];omega);obtain ⟨f,N⟩:=nM (l.setCells w.heap.size (i*3) (jw x));have kx:g<w.heap.size:=v.lt;have hp:aw f g 123 cur.toList:=by rw [<- N];exact ke.keep (bC _ _ _ _ _ (by omega))
 have Q:ZY w.heap.size w f:=by rw [<- N];exact s.grown (cD _ _ _ _) s.size (λk e=>by cases e;exact Tq _)
 rw [N] at t y;obtain ⟨m,O⟩:=nM (a.toList.take (i*3)++jw x++a.toList.drop (i*3+(jw x).length));have F:m.length=C*3:=by rw [<- O];simp only [Tm,Tn,To,J,A];omega
 have Y:m.take (i*3+3)=(bQ L).take (i*3)++jw x:=by
  rw [<- O,kb];have:((bQ L).take (i*3)++jw x).length=i*3+3:=by rw [Tm,p,A]
  rw [<- this,Tw]
 rw [O] at y;have hh:∀ h o V,(Builtin.copy_ #[119,119] h #[Z7 (Z2 ⟨w.heap.size,(i+1)*3,Z3⟩) (n-i) o,Z7 (Z2 ⟨g,i*3,Z3⟩) (n-i) V]).run ZW f.drew=.ok (goInt (Tu (n-i) (n-i))) (f.drew.setCells w.heap.size ((i+1)*3) ((bQ L).drop (i*3))):=λh o V=>by
  refine fX f.drew _ _ h 123 3 w.heap.size ((i+1)*3) _ o g (i*3) _ V 123 m _ Tryz.underlying119 EA (by rw [z];show _=min _ _*3;rw [Nat.min_self]) (λj u b=>?_) y (by rw [z,F];omega) (λu hu=>hs u (Tv hu));have h2:f.cell? ⟨g,i*3+j,Z3⟩=Z2 u:=by
   refine hp.cell ?_;rw [TC] at b;have U:i*3+j<L.length*3:=(by obtain ⟨q,_⟩:=Tx.1 b;rwa [cf] at q);rw [<- P,Ty U] at b;exact b
  exact h2
 have K:aw (f.drew.setCells w.heap.size ((i+1)*3) ((bQ L).drop (i*3))) w.heap.size 123 _:=aw.set (w:=f.drew) y ((i+1)*3) ((bQ L).drop (i*3)) (by rw [z,F];omega);have E:ZY w.heap.size w (f.drew.setCells w.heap.size ((i+1)*3) ((bQ L).drop (i*3))):=Q.drew.grown (cD _ _ _ _) Q.size (λk e=>by cases e;exact Tq _);have hm:(m.take ((i+1)*3)++(bQ L).drop (i*3)++m.drop ((i+1)*3+((bQ L).drop (i*3)).length)).length=C*3/\(m.take ((i+1)*3)++(bQ L).drop (i*3)++m.drop ((i+1)*3+((bQ L).drop (i*3)).length)).take ((n+1)*3)=bQ (L.take i++x::L.drop i):=by
  constructor
  . simp only [Tm,Tn,To,cf,F,I];omega
  . rw [show (i+1)*3=i*3+3 by omega,Y];have:((bQ L).take (i*3)++jw x++(bQ L).drop (i*3)).length=(n+1)*3:=by rw [Tm,Tm,p,A,z];omega
    rw [<- this,Tw,Tp,Ez]
 have H:=hide3 K E hm;have B:=hide3 r t hh;have W:=hide2 km ko;rw [I] at hi hv hl ky ⊢;have q8:¬ ((i:Int)=(n:Int)):=by omega
 have q6:IntKind.i64.wrap ((i:Int)+1)=(i:Int)+1:=by rw [IntKind.wrap_i64];omega
 have q7:(cap:Int)<(n:Int)+1:=by omega
 have q4:i<=n:=by omega
 have q0:¬ (C=i+1):=by omega
 have q2:¬ (cap=i):=by omega
 have q3:¬ (C=i):=by omega
 have q5:((i:Int)+1).toNat=i+1:=by omega
 have kz:(0:Int)<=(i:Int)+1:=by omega
 have q1:(i:Int)<=(n:Int)+1:=by omega
 clear v S z p X hold r D J kb M T s kj ke t y N hp Q O F Y hh K E hm G kk kr kc P hs ki hx Z kx kg hq hr R;rw [<- kh] at B;go_enter Tryz.func142,Tryz.ntmps142;clear kh;have t:=B.out.2.1;go_wp2_with (at_builtin;refine Lib.wpList_append_run _ rfl _ _ _ _ rfl _ _ rfl rfl _ _ (B.out.1 _) ?_);clear t;go_region_law (refine oK rfl _ _ 119 119 rfl _ _ (by simp [Act.eval,Act.put]) (by simp [Act.eval,Act.put]) (B.out.2.2 _ (C-(i+1)) (cap-i)) ?_)
 go_wp2;go_ret;obtain ⟨K,E,ks,kv⟩:=H.out;exact ⟨C,rfl,E.mono kp,W.out.1,W.out.2,_,K,ks,kv⟩
theorem Mc (d:w.heap[vb]?=Z2 (Z6 (jw x).toArray 123 (0,0))) (b:∀ u∈jw x,u.oneCell'=Z1):Src ZW 3 118 (Z7 (Z2 ⟨vb,0,Z3⟩) 1 1) 1 (jw x) w:=by
 have a:aw w vb 123 (jw x):=d;exact Src.ofSlice w Tryz.underlying118 ⟨vb,0,Z3⟩ 1 1 (jw x) rfl (λj u c=>by rw [Addr.add_mid,Tr];exact a.cell c) b
theorem DD (ho:w.ownsRow base 123 3 u L.length (bQ L)) (d:base<=w.heap.size) (l:∀ u∈jw x,u.oneCell'=Z1) (v:L.length<=10000) (m:w.heap[vb]?=Z2 (Z6 (jw x).toArray 123 (0,0))) :
 ZX ZW 142 #[u,Z8 Z9 (L.length:Nat),Z7 (Z2 ⟨vb,0,Z3⟩) 1 1] w λe w'=>∃ u',e=Z5 u'/\w'.ownsRow base 123 3 u' (L.length+1) (bQ (L++[x]))/\ZY base w w':=by
 obtain ⟨z,t,p,q,r⟩:=info_parts Tryz.infoObj48;have i:=Mc m l;have h:∀ k,u.ownBlock=Z2 k->base<=k:=λk e=>by
  rcases ho.2 with ⟨rfl,_⟩|⟨g,cap,cur,rfl,s,_⟩
  . cases e
  . cases e;exact s
 have H:=hide3 ho i h;obtain ⟨n,y⟩:=nM (L.length);have j:bQ (L++[x])=bQ L++jw x:=by rw [iK];congr 1
 rw [j];rcases ho.2 with ⟨rfl,o⟩|⟨g,cap,cur,rfl,s,B,C,F,G,A⟩
 . rw [y] at o v H ⊢;subst o;clear ho i h m l j;go_enter Tryz.func142,Tryz.ntmps142;go_wp2_with (at_builtin;refine af _ rfl (.tmp 23) (.tmp 24) 119 118 rfl base 123 z _ 3 48 Tryz.underlying119 t p q r rfl _ 0 (bQ L) (by rfl) (by exact H.out.1) _ (by rfl) 1 (jw x) (by exact H.out.2.1) (by unfold maxLen;omega) (by omega) d ?_;intro D E c b f;have a:=hide2 c b;clear c b f);go_ret;exact ⟨_,rfl,a.out.1,(Below.refl base w).grown a.out.2 d H.out.2.2⟩
 . rw [y] at v H C ⊢;have I:n<=n:=Tq n;clear ho i h m l j A B;go_enter Tryz.func142,Tryz.ntmps142;go_wp2_with (at_builtin;refine af _ rfl (.tmp 23) (.tmp 24) 119 118 rfl base 123 z _ 3 48 Tryz.underlying119 t p q r rfl _ n (bQ L) (by rfl) (by exact H.out.1) _ (by rfl) 1 (jw x) (by exact H.out.2.1) (by unfold maxLen;omega) (by omega) d ?_;intro D E c b f;have a:=hide2 c b;clear c b f);all_goals (go_ret;exact ⟨_,rfl,a.out.1,(Below.refl base w).grown a.out.2 d H.out.2.2⟩)
theorem yQ {cur:List ZZ} (h:aw w g 123 cur) (a:base<=g) (d:n=L.length) (b:n<=cap) (f:cap<=9223372036854775807) (c:cur.length=cap*3) (e:cur.take (n*3)=bQ L):w.ownsRow base 123 3 (Z7 (Z2 ⟨g,0,Z3⟩) n cap) n (bQ L):=
 ⟨by rw [cf,d],.inr ⟨g,cap,cur.toArray,rfl,a,h,b,by unfold maxLen;omega,by simpa using c,by simpa using e⟩⟩
theorem DE (ho:w.ownsRow base 123 3 u L.length (bQ L)) (f:base<=w.heap.size) (q:∀ u∈bQ L,u.oneCell'=Z1) (j:∀ u∈jw x,u.oneCell'=Z1) (k:L.length<=10000) (l:w.heap[vb]?=Z2 (Z6 (jw x).toArray 123 (0,0))) (E:u.ownBlock≠Z2 vb) (B:i<=L.length) :
 ZX ZW 142 #[u,Z8 Z9 (i:Nat),Z7 (Z2 ⟨vb,0,Z3⟩) 1 1] w λe w'=>∃ u',e=Z5 u'/\w'.ownsRow base 123 3 u' (L.length+1) (bQ (L.take i++x::L.drop i))/\ZY base w w':=by
 rcases Nat.eq_or_lt_of_le B with e|v
 . subst e;rw [List.take_length,List.drop_length];exact DD ho f j k l
 . have p:L.length+1=(L.take i++x::L.drop i).length:=(by simp;omega);rcases ho.2 with ⟨rfl,F⟩|⟨g,cap,cur,rfl,r,s,D,C,t,o⟩
   . omega
   . have A:cap<=9223372036854775807:=(by unfold maxLen at C;omega);by_cases n:L.length+1<=cap
     . refine (A3 s r t o q j v n k l (λe=>E (by rw [e];rfl))).mono ?_;rintro e w' ⟨rfl,h,a,b,c,d⟩;exact ⟨_,rfl,yQ b r p n A c d,h⟩
     . refine (A4 s f t o q j v D (by omega) k l).mono ?_;rintro e w' ⟨m,rfl,h,y,z,a,b,c,d⟩;exact ⟨_,rfl,yQ b f p y z c d,h⟩
theorem yR (ho:w.ownsRow base 123 3 u n xs) (d:g<base):u.ownBlock≠Z2 g:=λe=>by
 rcases ho.2 with ⟨rfl,_⟩|⟨a,cap,cur,rfl,c,_⟩
 . cases e
 . have b:a=g:=(by simpa [Value.ownBlock] using e);omega
theorem yS (ho:w.ownsRow base 123 3 u n xs) (d:w.heap.size<=g):u.ownBlock≠Z2 g:=λe=>by
 rcases ho.2 with ⟨rfl,_⟩|⟨a,cap,cur,rfl,c,h,_⟩
 . cases e
 . have b:a=g:=(by simpa [Value.ownBlock] using e);have:=(TD.1 h).1;omega
theorem Gy (ho:w.ownsRow base 123 3 u n xs) (o:Obj):(w.alloc o).ownsRow base 123 3 u n xs:=by
 refine ⟨ho.1,?_⟩;rcases ho.2 with h|⟨g,cap,cur,rfl,a,h,b⟩
 . exact .inl h
 . exact .inr ⟨g,cap,cur,rfl,a,(Below.heap_alloc w o g (TD.1 h).1).trans h,b⟩
def tA (K:Nat->Prop) (w:Z0) (os:List Ob) (e:Ending) (w':Z0):Prop:=∃ u,e=Z5 u/\gz K w' u os/\ZY w.heap.size w w'
theorem A5 (R:gz K w v os) (k8:os.length<=9999) (hK:∀ k,w.heap.size<=k->K k) {i:Nat} (hi:i<=os.length) (o:Ob) (a:ZZ) (E:bK K w a o.stripes) :
 ZX ZW 105 #[v,Z8 Z9 (i:Nat),.agg #[Z4 o.name,Z8 Z9 (o.size:Nat),a]] w (tA K w (os.take i++o::os.drop i)):=by
 obtain ⟨nm,V⟩:=nM (o.name);obtain ⟨b,Y⟩:∃ b:Int,((o.size:Nat):Int)=b:=⟨_,rfl⟩;have Z:∀ u∈jw (o,a),u.oneCell'=Z1:=by
  obtain ⟨ao,c,e,_⟩:=E;exact Ey ⟨ao,_,c,e⟩
 have hs:(jw (o,a)).toArray=#[Z4 nm,Z8 Z9 b,a]:=by rw [<- V,<- Y];rfl
 have T:∀ W,ZY w.heap.size w W->ZX ZW 116 #[v] W λe w'=>∃ u L,e=Z5 u/\L.map (·.1)=os/\L9 K W L/\w'.ownsRow W.heap.size 123 3 u L.length (bQ L)/\ZY W.heap.size W w':=λW z=>oJ (R.keep (eM.of_below z)) (by omega);have U:∀ (W n:Z0) (u:ZZ) (L:List (Ob×ZZ)) (base vb:Nat),ZY w.heap.size w W->ZY W.heap.size W n->L.map (·.1)=os->L9 K W L->n.ownsRow base 123 3 u L.length (bQ L)->w.heap.size<=base->W.heap.size<=base->base<=n.heap.size->n.heap[vb]?=Z2 (Z6 #[Z4 nm,Z8 Z9 b,a] 123 (0,0))->u.ownBlock≠Z2 vb ->
  ZX ZW 142 #[u,Z8 Z9 (i:Nat),Z7 (Z2 ⟨vb,0,Z3⟩) 1 1] n (tA K w (os.take i++o::os.drop i)):=λW n u L base vb z k0 g f ho k9 hv k5 hx k6=>by
  have k7:L.length=os.length:=by rw [<- g,Tz]
  refine (DE ho k5 f.one Z (by omega) (by rw [hs];exact hx) k6 (by omega)).mono ?_;rintro e w' ⟨u',rfl,X,hz⟩;have B:ZY W.heap.size W w':=k0.trans (hz.mono hv);have O:ZY w.heap.size w w':=z.trans (B.mono z.size);have P:L.length+1=(L.take i++(o,a)::L.drop i).length:=by simp;omega
  rw [P] at X;refine ⟨u',rfl,?_,O⟩;have l:=tz (K:=K) (L:=L.take i++(o,a)::L.drop i) X (by rw [<- P];omega) (λk hk=>hK k (by omega)) (λy hy=>by
   rw [TH,TI] at hy;rcases hy with h|h|h
   . exact (f y (TJ h)).keep (eM.of_below B)
   . subst h;exact E.keep (eM.of_below O)
   . exact (f y (Tv h)).keep (eM.of_below B))
  have e:(L.take i++(o,a)::L.drop i).map (·.1)=os.take i++o::os.drop i:=by rw [TK,List.map_cons,TL,TM,g]
  rwa [e] at l
 rw [V,Y];have F:=hide T;have G:=hide U;clear T U R E Z hs hK;go_enter Tryz.func105,Tryz.ntmps105;have x:ZY w.heap.size w (w.alloc (Z6 #[Z4 nm,Z8 Z9 b,a] 123)).drew:=(bA w _).drew;have S:ZY w.heap.size w ((w.alloc (Z6 #[Z4 nm,Z8 Z9 b,a] 123)).drew.alloc (Z6 #[Z4 nm,Z8 Z9 b,a] 123)):=x.alloc x.size _;have m:=hide2 x S;have N:=heap_alloc_last w (Z6 #[Z4 nm,Z8 Z9 b,a] 123);have s:aw (w.alloc (Z6 #[Z4 nm,Z8 Z9 b,a] 123)).drew w.heap.size 123 [Z4 nm,Z8 Z9 b,a]:=N;have H:=s.cell (j:=0) (u:=Z4 nm) rfl;have I:=s.cell (j:=1) (u:=Z8 Z9 b) rfl;have J:=s.cell (j:=2) (u:=a) rfl;have M:=s.lt;have Q:(w.alloc (Z6 #[Z4 nm,Z8 Z9 b,a] 123)).drew.heap.size=w.heap.size+1:=by show (w.alloc _).heap.size=_;exact nblk_alloc _ _
 have D:((w.alloc (Z6 #[Z4 nm,Z8 Z9 b,a] 123)).drew.alloc (Z6 #[Z4 nm,Z8 Z9 b,a] 123)).heap[w.heap.size+1]?=Z2 (Z6 #[Z4 nm,Z8 Z9 b,a] 123):=by rw [<- Q];exact heap_alloc_last _ _
 have C:=hide2 D (show w.heap.size+1<((w.alloc (Z6 #[Z4 nm,Z8 Z9 b,a] 123)).drew.alloc (Z6 #[Z4 nm,Z8 Z9 b,a] 123)).heap.size from (TD.1 D).1);have t:=hide4 M H I J;clear x S M H I J N s D Q;go_wp2_with fail;go_region_with (first
  | (go_at_call 116;first
   | (refine (F.out (w.alloc (Z6 #[Z4 nm,Z8 Z9 b,a] 123)).drew m.out.1).mono ?_;rintro e w1 ⟨u,L,rfl,g,f,ho,q⟩;have b0:=λj=>q.cell (p:=⟨w.heap.size,j,Z3⟩) (t.out.1);have c0:w1.cell? ⟨w.heap.size,0,Z3⟩=Z2 (Z4 nm):=(b0 0).trans t.out.2.1;have c1:w1.cell? ⟨w.heap.size,1,Z3⟩=Z2 (Z8 Z9 b):=(b0 1).trans t.out.2.2.1;have c2:w1.cell? ⟨w.heap.size,2,Z3⟩=Z2 a:=(b0 2).trans t.out.2.2.2;clear b0;have d:=hide4 g f ho q;clear g f ho q)
   | (refine (F.out ((w.alloc (Z6 #[Z4 nm,Z8 Z9 b,a] 123)).drew.alloc (Z6 #[Z4 nm,Z8 Z9 b,a] 123)) m.out.2).mono ?_;rintro e w1 ⟨u,L,rfl,g,f,ho,q⟩;have d:=hide4 g f ho q;clear g f ho q))
  | (go_at_call 142;first
   | (refine (G.out (w.alloc (Z6 #[Z4 nm,Z8 Z9 b,a] 123)).drew (w1.alloc (Z6 #[Z4 nm,Z8 Z9 b,a] 123)) u L (w.alloc (Z6 #[Z4 nm,Z8 Z9 b,a] 123)).drew.heap.size w1.heap.size m.out.1 (d.out.2.2.2.alloc d.out.2.2.2.size _) d.out.1 d.out.2.1 (Gy d.out.2.2.1 _) m.out.1.size lR (d.out.2.2.2.alloc d.out.2.2.2.size _).size (heap_alloc_last w1 _) (yS d.out.2.2.1 lR)).mono ?_;rintro e w2 ⟨u2,rfl,l,r⟩;have A:=hide2 l r;clear l r)
   | (refine (G.out ((w.alloc (Z6 #[Z4 nm,Z8 Z9 b,a] 123)).drew.alloc (Z6 #[Z4 nm,Z8 Z9 b,a] 123)) w1 u L ((w.alloc (Z6 #[Z4 nm,Z8 Z9 b,a] 123)).drew.alloc (Z6 #[Z4 nm,Z8 Z9 b,a] 123)).heap.size (w.heap.size+1) m.out.2 d.out.2.2.2 d.out.1 d.out.2.1 d.out.2.2.1 m.out.2.size lR d.out.2.2.2.size ((d.out.2.2.2.block _ C.out.2).trans C.out.1) (yR d.out.2.2.1 C.out.2)).mono ?_;rintro e w2 ⟨u2,rfl,l,r⟩;have A:=hide2 l r;clear l r)))
 all_goals (go_wp2;go_ret;exact ⟨_,rfl,A.out.1,A.out.2⟩)
theorem qE {K:Act->Z0->Prop} (f:o.guard=Z3) (d x:Operand) (b c:TypeId) (e:o.op=Op.call { callee:=Callee.builtin Builtin.append,args:=#[d,x],argTypes:=#[b,c] })
 (v u:ZZ) (hd:a.eval d=v) (hx:a.eval x=u) {v':ZZ} {w':Z0} (hr:(Builtin.append_ #[b,c] o.type #[v,u]).run ZW w=.ok v' w') (hK:K (a.put o.dst v') w'):if Region.wanted o (yielded ops a.tmps)=Z1 then Oper.wp ZW o a w K Q else E:=by
 rw [if_pos (by simp [Region.wanted,f])];unfold Oper.wp;simp [execOp,e,resolve,invoke,builtin,hd,hx,hr,Result.andThen];exact hK
theorem Kj (cur:List ZZ) (L:List (Ob×ZZ)) (i N:Nat) (c:L.length=N+1) (j:i<=N) (e:cur.take (L.length*3)=bQ L) (k:(N+1)*3<=cur.length) (a:List ZZ) (h:a.length=3) :
 ((cur.take (i*3)++(bQ L).drop ((i+1)*3)++cur.drop (i*3+((bQ L).drop ((i+1)*3)).length)).take (N*3)++a++(cur.take (i*3)++(bQ L).drop ((i+1)*3)++cur.drop (i*3+((bQ L).drop ((i+1)*3)).length)).drop (N*3+a.length)).take (N*3)=bQ (L.take i++L.drop (i+1)) /\
 ((cur.take (i*3)++(bQ L).drop ((i+1)*3)++cur.drop (i*3+((bQ L).drop ((i+1)*3)).length)).take (N*3)++a++(cur.take (i*3)++(bQ L).drop ((i+1)*3)++cur.drop (i*3+((bQ L).drop ((i+1)*3)).length)).drop (N*3+a.length)).length=cur.length:=by
 have g:((bQ L).drop ((i+1)*3)).length=(N-i)*3:=by rw [Tn,cf,c];omega
 have d:cur.take (i*3)=bQ (L.take i):=by
  rw [<- A0,<- e,TB,Tt (by omega)]
 have f:(cur.take (i*3)++(bQ L).drop ((i+1)*3)).length=N*3:=by rw [Tm,To,g];omega
 have b:(cur.take (i*3)++(bQ L).drop ((i+1)*3)++cur.drop (i*3+((bQ L).drop ((i+1)*3)).length)).take (N*3)=cur.take (i*3)++(bQ L).drop ((i+1)*3):=by
  conv=>lhs;rw [<- f]
  exact Tw
 constructor
 . rw [b,Tp,TA (by omega),TG (by omega),d,tw,iK]
 . rw [b];simp only [Tm,Tn,To,cf,h,c];omega
theorem DF {N:Nat} (T:w.heap[g]?=Z2 (Z6 cur 123 (0,0))) (X:base<=g) (Y:cur.size=cap*3) (C:cur.toList.take (L.length*3)=bQ L) (R:∀ u∈bQ L,u.oneCell'=Z1) (F:L.length=N+1) (U:i<=N) (k0:L.length<=cap) (kb:cap<=9223372036854775807) (hl:L.length<=10000) :
 ZX ZW 115 #[Z7 (Z2 ⟨g,0,Z3⟩) L.length cap,Z8 Z9 (i:Nat),Z8 Z9 ((i:Int)+1)] w λe w'=>e=Z5 (Z7 (Z2 ⟨g,0,Z3⟩) N cap)/\ZY base w w'/\∃ a,aw w' g 123 a/\a.length=cap*3/\a.take (N*3)=bQ (L.take i++L.drop (i+1)):=by
 obtain ⟨Z,K,Q,t,hr⟩:=info_parts Tryz.infoObj48;have l:aw w g 123 cur.toList:=by unfold aw;exact T
 have n:cur.toList.length=cap*3:=by simpa using Y
 have s:((bQ L).drop ((i+1)*3)).length=(N-i)*3:=by rw [Tn,cf,F];omega
 have O:∀ u∈(bQ L).drop ((i+1)*3),u.oneCell'=Z1:=λu A=>R u (Tv A);have M:∀ j u,(bQ L)[j]?=Z2 u->w.drew.cell? ⟨g,j,Z3⟩=Z2 u:=λj u b=>by
  have h2:w.cell? ⟨g,j,Z3⟩=Z2 u:=by
   refine l.cell ?_;have ka:j<L.length*3:=(by obtain ⟨q,_⟩:=Tx.1 b;rwa [cf] at q);rw [<- C,Ty ka] at b;exact b
  exact h2
 have S:∀ d,Src ZW 3 119 (Z7 (Z2 ⟨g,if cap=i+1 then 0 else (i+1)*3,Z3⟩) (N-i) d) (N-i) ((bQ L).drop ((i+1)*3)) w.drew:=λd=>by
  refine Src.ofSlice w.drew Tryz.underlying119 _ (N-i) d _ s (λj u b=>?_) O;rw [Addr.add_mid];split
  . rename_i v
    have:N-i=0:=by omega
    rw [this] at s;have:=TE (by omega:((bQ L).drop ((i+1)*3)).length=0);rw [this] at b;simp at b
  . rw [TC] at b;exact M _ _ b
 have D:∀ m d,(Builtin.append_ #[119,119] m #[Z7 (Z2 ⟨g,0,Z3⟩) i cap,Z7 (Z2 ⟨g,if cap=i+1 then 0 else (i+1)*3,Z3⟩) (N-i) d]).run ZW w.drew=.ok (Z7 (Z2 ⟨g,0,Z3⟩) N cap) (w.drew.setCells g (i*3) ((bQ L).drop ((i+1)*3))):=λm d=>by
  have hs:Src ZW Z.size 119 (Z7 (Z2 ⟨g,if cap=i+1 then 0 else (i+1)*3,Z3⟩) (N-i) d) (N-i) ((bQ L).drop ((i+1)*3)) w.drew:=by rw [t];exact S d
  have h:=run_append_room_src (P:=ZW) (w:=w.drew) 119 119 m 123 Z Tryz.underlying119 K g 0 i cap _ (N-i) _ hs (by omega) (λj b=>by
   rw [t];have:=l.cell (List.getElem?_eq_getElem (by rw [n];rw [s] at b;omega:0+i*3+j<cur.toList.length));show (w.cell? _).isSome=Z1;rw [this];rfl) (λj b=>l.thaw _)
  rw [t,Tr,show i+(N-i)=N by omega] at h;exact h
 have r:aw (w.drew.setCells g (i*3) ((bQ L).drop ((i+1)*3))) g 123 _:=aw.set (w:=w.drew) l (i*3) ((bQ L).drop ((i+1)*3)) (by rw [s,n];omega);obtain ⟨p,G⟩:=nM (w.drew.setCells g (i*3) ((bQ L).drop ((i+1)*3)));have I:ZY base w p:=by rw [<- G];exact (Below.refl base w).drew.grown (cD _ _ _ _) (by show base<=w.heap.size;have:=l.lt;omega) (λk e=>by cases e;exact X)
 rw [G] at D r;obtain ⟨c1,J⟩:=nM (cur.toList.take (i*3)++(bQ L).drop ((i+1)*3)++cur.toList.drop (i*3+((bQ L).drop ((i+1)*3)).length));obtain ⟨f,y,x,k8⟩:∃ f,(Builtin.zeroCells (Value.agg #[Z4 Ts,Z8 Z9 0,Z7 Z3 0 0]).cells 1).toList=f/\f.length=3/\∀ u∈f,u.oneCell'=Z1:=by
  refine ⟨[Z4 Ts,Z8 Z9 0,Z7 Z3 0 0],by kernel_rfl,rfl,?_⟩;intro u A;simp only [TI,List.not_mem_nil,or_false] at A;rcases A with rfl|rfl|rfl<;>rfl
 have B:=Kj cur.toList L i N F U C (by rw [n];omega) f x;rw [J] at r B;have E:c1.length=cap*3:=by rw [<- J];simp only [Tm,Tn,To,cf,n];omega
 have k9:∀ m c,(Builtin.clear_ #[119] m #[Z7 (Z2 ⟨g,N*3,Z3⟩) 1 c]).run ZW p=.ok (.tuple #[]) (p.setCells g (N*3) f):=λm c=>by
  have h:=tu (P:=ZW) p 119 123 m g (N*3) 1 c 123 c1 Tryz.underlying119 (z:=.agg #[Z4 Ts,Z8 Z9 0,Z7 Z3 0 0]) (λw=>by simp [zeroValue,typeInfo,K,Q]) (by omega) r (by rw [y,x,E];omega) (by rw [y];exact k8);rw [y] at h;exact h
 have V:=r.set (N*3) f (by rw [x,E];omega);have W:ZY base w (p.setCells g (N*3) f):=I.grown (cD _ _ _ _) (Nat.le_trans (by have:=l.lt;omega) I.size) (λk e=>by cases e;exact X);have H:=hide4 V W B n;have o:=hide D;rw [F] at k0 hl ⊢;have kc:¬ (i:Int)=(i:Int)+1:=by omega
 have k1:(0:Int)<=(i:Int)+1:=by omega
 have k2:((i:Int)+1).toNat=i+1:=by omega
 have k3:¬ cap=N:=by omega
 have k4:i<=N+1:=by omega
 have k5:(i:Int)<=(N:Int)+1:=by omega
 clear l n s O M S D r G I J y x k8 B E V W T Y C R K Q t hr;by_cases v:cap=i+1
 . rw [if_pos v] at o;obtain rfl:i=N:=(by omega);subst v;rw [Nat.sub_self] at o;clear k0 U k3;go_enter Tryz.func115,Tryz.ntmps115;go_wp2;go_region_law (refine qE rfl _ _ 119 119 rfl _ _ (by simp [Act.eval,Act.put]) (by simp [Act.eval,Act.put]) (o.out _ 0) ?_)
   go_wp2;go_ret;exact ⟨rfl,H.out.2.1,_,H.out.1,H.out.2.2.1.2.trans H.out.2.2.2,H.out.2.2.1.1⟩
 . rw [if_neg v] at o;have k6:i<=cap:=(by omega);have k7:(i:Int)<=(cap:Int):=(by omega);go_enter Tryz.func115,Tryz.ntmps115;go_wp2;go_region_law (refine qE rfl _ _ 119 119 rfl _ _ (by simp [Act.eval,Act.put]) (by simp [Act.eval,Act.put]) (o.out _ (cap-(i+1))) ?_)
   go_wp2;go_ret;exact ⟨rfl,H.out.2.1,_,H.out.1,H.out.2.2.1.2.trans H.out.2.2.2,H.out.2.2.1.1⟩
theorem tB (o:gz K w v os) (S:os.length<=9999) (hK:∀ k,w.heap.size<=k->K k) {i:Nat} (Q:i<os.length) :
 ZX ZW 81 #[v,Z8 Z9 (i:Nat)] w (tA K w (os.take i++os.drop (i+1))):=by
 have s:=oJ o (by omega);have t:∀ (W:Z0) (u:ZZ) (L:List (Ob×ZZ)),L.map (·.1)=os->L9 K w L->W.ownsRow w.heap.size 123 3 u L.length (bQ L)->ZY w.heap.size w W->ZX ZW 115 #[u,Z8 Z9 (i:Nat),Z8 Z9 ((i:Int)+1)] W (tA K w (os.take i++os.drop (i+1))):=λW u L b a ho c=>by
  have R:L.length=os.length:=by rw [<- b,Tz]
  rcases ho.2 with ⟨rfl,P⟩|⟨g,cap,cur,rfl,q,H,O,J,M,F⟩
  . omega
  . have n:cap<=9223372036854775807:=(by unfold maxLen at J;omega);obtain ⟨N,G⟩:∃ N,L.length=N+1:=⟨L.length-1,by omega⟩;refine (DF H q M F a.one G (by omega) O n (by omega)).mono ?_;rintro e w' ⟨rfl,I,l,C,D,E⟩;have d:ZY w.heap.size w w':=c.trans I;have f:N=(L.take i++L.drop (i+1)).length:=(by simp;omega);refine ⟨_,rfl,?_,d⟩;have x:=yQ C q f (by omega) n D E;have B:(L.take i++L.drop (i+1)).map (·.1)=os.take i++os.drop (i+1):=(by rw [TK,TL,TM,b]);rw [<- B,f];rw [f] at x;refine tz x (by omega) hK (λy z=>?_);rw [TH] at z;rcases z with h|h
    . exact (a y (TJ h)).keep (eM.of_below d)
    . exact (a y (Tv h)).keep (eM.of_below d)
 have A:=hide t;clear t o hK;go_enter Tryz.func81,Tryz.ntmps81;go_wp2_with fail;refine s.mono ?_;rintro e w1 ⟨u,L,rfl,b,a,ho,c⟩;have r:=A.out w1 u L b a ho c;clear s b a ho c;go_wp2_with fail;refine r.mono ?_;rintro e w2 ⟨u2,rfl,m,p⟩;have j:=hide2 m p;clear m p r;go_wp2;go_ret;exact ⟨_,rfl,j.out.1,j.out.2⟩
end Go.Proofs.YtfbmmcnpjhmjaaaGreatDoor
