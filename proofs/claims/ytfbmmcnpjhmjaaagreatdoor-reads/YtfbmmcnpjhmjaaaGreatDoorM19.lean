import Derived.Test.YtfbmmcnpjhmjaaaGreatDoorM10
import Derived.Test.YtfbmmcnpjhmjaaaGreatDoorM14
set_option maxRecDepth 100000
set_option maxHeartbeats 8000000
open Go.IntKind renaming i64 -> Z9
open Go.Value renaming int -> Z8, pointer -> Z7, slice -> Z6, tuple -> Z4
open Go.Ending renaming returned -> Z5
open Option renaming none -> Z3, some -> Z2
open Go renaming World -> Z1, Value -> Z0, Calls -> ZZ
open Nat renaming zero_le -> Tm, div_le_self -> Tp
open Array renaming replicate -> Tn, getElem?_eq_getElem -> Tt, all_eq_true -> Ty
open List renaming length_map -> To, range -> Tq, getElem?_append_right -> Tr, getElem?_eq_some_iff -> Tu, getElem?_append_left -> Tv, getD_eq_getElem?_getD -> Tw, getElem?_eq_none -> Tx, getElem_mem -> Tz
open Int renaming tdiv_eq_ediv_of_nonneg -> Ts
open Go.Proofs.Tryz renaming prog -> ZY
namespace Go.Proofs.YtfbmmcnpjhmjaaaGreatDoor
open Go.RowKit Go.Deep
variable {L:List (ByteArray×Z0)} {b t n r base:Nat} {f:Nat->Z0} {v:Z0} {w:Z1}
section
open Gf
def Nr (D:List (List Nat)) (w:Z1) (e:Ending) (w':Z1):Prop:=(ur D->e=Z5 (.bool true))/\(¬ ur D->e=Z5 (.bool false))/\w'=w
def Rz (D:List (List Nat)) (i:Z0):Prop:=∃ k:Nat,k<=D.length/\i=Z8 Z9 (k:Nat)/\∀ j (hj:j<D.length),j<k->(D[j]).length<=64
theorem zK (s:Z0) (D:List (List Nat)) (w:Z1) (m:Rd w s D) :
 ZZ ZY 63 #[s] w λe w'=>Nr D w e w':=by
 by_cases G:64<D.length
 . obtain ⟨y,c,rfl,B,_⟩:=m;go_enter Tryz.func63,Tryz.ntmps63;go_wp2;go_ret;exact ⟨λh=>absurd h.1 (by omega),λ_=>rfl,rfl⟩
 rcases m.cases with ⟨rfl,y,c,rfl⟩|⟨b,off,c,rfl,B,l⟩
 . go_enter Tryz.func63,Tryz.ntmps63;go_wp2;refine wp_loop_rounds 1 ?_;rw [rounds_succ];go_wp2;go_ret;exact ⟨λ_=>rfl,λh=>absurd ⟨by simp,λi d=>by simp at d⟩ h,rfl⟩
 have t:=hide l;clear l;go_enter Tryz.func63,Tryz.ntmps63;go_wp2;go_loop [10] (λi=>Rz D i) (λi=>D.length-(intOf i).toNat)
 case atStart=>exact ⟨0,Tm _,rfl,λj _ h=>absurd h (by omega)⟩
 case round=>
  obtain ⟨k,J,rfl,a⟩:=hrel;by_cases g:k<D.length
  . obtain ⟨u,K,A⟩:=t.out k g;obtain ⟨F,E,rfl,o,p,q,r⟩:=A;by_cases f:(D[k]).length<=64
    . have z:Hid (∀ j (n:j<D.length),j<k+1->(D[j]).length<=64):=by
       intro j n H;by_cases e:j=k
       . subst e;exact f
       . exact a j n (by omega)
      clear a o p q r;generalize (D[k]).length=C at *;go_wp2;go_round
      case rel=>exact ⟨k+1,by omega,by go_num,z.out⟩
      case measure=>simp [intOf];omega
    . have x:Hid (¬ ur D):=λh=>f (h.2 k g);have I:(D[k]).length<=140737488355328:=(by omega);clear a o p q r;generalize (D[k]).length=C at *;go_wp2;go_ret;exact ⟨λh=>absurd h x.out,λ_=>rfl,rfl⟩
  . have v:Hid (ur D):=⟨by omega,λi d=>a i d (by omega)⟩;clear a;go_wp2;go_ret;exact ⟨λ_=>rfl,λh=>absurd v.out h,rfl⟩
def wk (G:Nat->Nat) (top c iv k x:Nat):Nat:=if top<x/64/\x/64<k/\c<=x%64 then G x^^^gm (gm (G (x/64*64+c)) iv) (G (top*64+x%64)) else G x
theorem IH (G:Nat->Nat) (top c a:Nat):wk G top c a (top+1)=G:=by
 funext x;unfold wk;rw [if_neg (by omega)]
theorem MM {G:Nat->Nat} (h:∀ x,G x<256) {iv:Nat} (top c k x:Nat):wk G top c iv k x<256:=by
 unfold wk;split
 . exact jU (h x) (aU _ (aU _ (h _)))
 . exact h x
theorem Ns (G:Nat->Nat) (top c a k j:Nat) (b:j<64):wk G top c a k (top*64+j)=G (top*64+j):=by
 unfold wk;rw [if_neg (by omega)]
theorem Lp (G:Nat->Nat) (top c a k j:Nat) (b:j<64):wk G top c a k (k*64+j)=G (k*64+j):=by
 unfold wk;rw [if_neg (by omega)]
theorem Lq (G:Nat->Nat) (top c a k:Nat) (g:top<k) (f:c<64):gH (wk G top c a k) (λi=>G (top*64+c+i)) (gm (G (k*64+c)) a) (k*64+c) (64-c)=wk G top c a (k+1):=by
 funext x;unfold gH;by_cases h:k*64+c<=x/\x<k*64+c+(64-c)
 . have d:x/64=k:=(by omega);have e:top*64+c+(x-(k*64+c))=top*64+x%64:=(by omega);rw [if_pos h];unfold wk;rw [if_neg (by omega),if_pos (by omega),d];show _^^^gm _ (G (top*64+c+(x-(k*64+c))))=_;rw [e]
 . rw [if_neg h];unfold wk;by_cases b:top<x/64/\x/64<k/\c<=x%64
   . rw [if_pos b,if_pos (by omega)]
   . rw [if_neg b,if_neg (by omega)]
theorem rP (w:Z1) (b o c:Nat) (g:c<64):(Instr.sliceAt 134 (Z7 (Z2 ⟨b,o,Z3⟩)) (Z2 (Z8 Z9 (c:Int))) Z3 Z3).run ZY w=.ok (Z6 (Z2 ⟨b,o+c,Z3⟩) (64-c) (64-c)) w:=by
 have a:ZY.arrayLen 134=64:=by kernel_rfl
 have f:ZY.underlying 134=Z2 (.array (ZY.arrayLen 134) (ZY.elem 134)):=by kernel_rfl
 have e:∀ w,(sizeOf (ZY.elem 134)).run ZY w=.ok 1 w:=by
  have d:ZY.elem 134=5:=by kernel_rfl
  rw [d];intro w;go_simp
 rw [run_sliceAt_array_l w 134 _ f .i64 (c:Int) (by omega) (by rw [a];omega),e,a];simp [slicedAt,Result.andThen];rw [if_neg (by omega)];simp [Addr.add]
def RA (w:Z1) (b t top c iv n:Nat) (G:Nat->Nat) (i:Z0) (wr:Z1):Prop:=
 ∃ k:Nat,top<k/\k<=max n (top+1)/\i=Z8 Z9 (k:Nat)/\wr.rowIs b t 4096 (tv (wk G top c iv k))/\w.grownBy wr (Z2 b)
theorem zL (b top c n:Nat) (G:Nat->Nat) (w:Z1) (f:∀ x,G x<256) (h:w.rowIs b 136 4096 (tv G)) (O:top<64) (g:c<64) (L:n<=64) :
 ZZ ZY 65 #[Z7 (Z2 ⟨b,0,Z3⟩),Z8 Z9 top,Z8 Z9 c,Z8 Z9 n] w λe w'=>e=Z5 (Z4 #[])/\w'.rowIs b 136 4096 (tv (wk G top c (gi (G (top*64+c))) (max n (top+1))))/\w.grownBy w' (Z2 b):=by
 have E:w.cell? ⟨b,top*64+c,Z3⟩=Z2 (Z8 .u8 ((G (top*64+c):Nat):Int)):=h.cell (by omega);have z:=f (top*64+c);generalize hv:G (top*64+c)=y at *;go_enter Tryz.func65,Tryz.ntmps65;go_wp2_with (go_at_call 90;refine (qU y z _).mono ?_;rintro e l ⟨rfl,rfl⟩);have t:l.rowIs b 136 4096 (tv (wk G top c (gi y) (top+1))):=by rw [IH];exact h
 go_loopw [9] (λi wr=>RA l b 136 top c (gi y) n G i wr) (λi _=>n-(intOf i).toNat)
 case atStart=>exact ⟨top+1,by omega,by omega,by go_num,t,World.grownBy.refl _ _⟩
 case round=>
  clear t h E;rename Z1=>wo;obtain ⟨k,J,M,rfl,d,p⟩:=hrel;by_cases N:k<n
  . have F:wo.cell? ⟨b,k*64+c,Z3⟩=Z2 (Z8 .u8 ((wk G top c (gi y) k (k*64+c):Nat):Int)):=d.cell (by omega);rw [Lp _ _ _ _ _ _ g] at F;have v:=f (k*64+c);have o:∀ i,i<64-c->wo.cell? ⟨b,top*64+c+i,Z3⟩=Z2 (Z8 .u8 ((G (top*64+c+i):Nat):Int)):=by
     intro i K;have m:wo.cell? ⟨b,top*64+c+i,Z3⟩=Z2 (Z8 .u8 ((wk G top c (gi y) k (top*64+c+i):Nat):Int)):=d.cell (by omega);rw [Nat.add_assoc,Ns _ _ _ _ _ _ (by omega),<- Nat.add_assoc] at m;exact m
    have u:=Lq G top c (gi y) k J g;have H:gm (G (k*64+c)) (gi y)<256:=aU _ v;have C:=hide o;have D:=hide u;clear o u;generalize G (k*64+c)=x at *;have A:=λw=>rP w b (k*64) c g;have B:=λw=>rP w b (top*64) c g;go_wp2;go_region_with (first
     | (go_at_call 92;refine (lW x (gi y) v (cY z) _).mono ?_;rintro e w' ⟨rfl,rfl⟩)
     | (go_at_call 91;refine (jm b 136 4096 (k*64+c) (64-c) (64-c) b (top*64+c) (64-c) (gm x (gi y)) (wk G top c (gi y) k) (λi=>G (top*64+c+i)) _ H (by exact d) (MM f top c k) (λj=>f _) (by omega) (by omega) (by exact C.out) (.inr (.inl (by omega)))).mono ?_;rintro e w' ⟨rfl,r,a⟩))
    all_goals
     have s:=r;rw [D.out] at s;have I:l.grownBy w' (Z2 b):=gd p ⟨a.os,a.tape,a.output,a.size,a.block⟩;clear r a A B;go_wp2;go_roundw
     case rel=>exact ⟨k+1,by omega,by omega,by go_num,s,I⟩
     case measure=>simp [intOf];omega
  . have q:k=max n (top+1):=(by omega);rw [q] at d;clear q;go_wp2;go_end0
    exact ⟨rfl,d,p⟩
end
section
open Gf
def fL (D:List (List Nat)) (x:Nat):Nat:=(D.getD (x/64) []).getD (x%64) 0
def lq (D:List (List Nat)) (k x:Nat):Nat:=if x/64<k then fL D x else 0
theorem Tryz.infoGrid:(ZY.info? 136).map (λi=>(i.zero,i.size,i.bytes))=Z2 (Z2 (.agg (Tn 4096 (Z8 .u8 0))),4096,4096):=by kernel_rfl
theorem Tryz.sizeGrid:(ZY.info? 136).map (λi=>i.size)=Z2 4096:=by kernel_rfl
theorem zM (w:Z1):(zeroValue 136).run ZY w=.ok (.agg (Tn 4096 (Z8 .u8 0))) w:=by
 obtain ⟨c,a,b,_,_⟩:=info_parts Tryz.infoGrid;simp [zeroValue,typeInfo,Sem.run_bind,a,b]
theorem zN (w:Z1):(w.alloc (.cells (Tn 4096 (Z8 .u8 0)) 136)).rowIs w.heap.size 136 4096 (λ_=>Z8 .u8 0):=by
 have h:=World.rowIs_alloc w (Tn 4096 (Z8 .u8 0)) 136 (λ_=>Z8 .u8 0) (λi a=>by simp at a;simp [a]);simpa using h
theorem II (h:w.rowIs b t n f):w.heap[b]?=Z2 (.cells ((Tq n).map f).toArray t (0,0)):=by
 obtain ⟨c,d,g,e⟩:=h;have:c=((Tq n).map f).toArray:=by
  apply Array.ext
  . simp [g]
  . intro i a j;have:=e i (by omega);rw [Tt a] at this;simp at this;simp [this]
 rw [<- this];exact d
theorem Ct {ops:Array Oper} {rest:List Oper} {o:Oper} {a:Act} {Q:Exit->Act->Z1->Prop} (D:o.guard=Z3) (d s:Operand)
 (ho:o.op=.call { callee:=.builtin .copy,args:=#[d,s],argTypes:=#[34,34] }) (g off n cap N t:Nat) (v:Z0) (hd:a.eval d=Z6 (Z2 ⟨g,off,Z3⟩) n cap) (hs:a.eval s=v)
 (F:Nat->Nat) (src:List Nat) (hB:w.rowIs g t N (tv F)) (hS:Bs w v src) (h8:src.length<=n) (hn:off+n<=N)
 (h:∀ w',w'.rowIs g t N (tv (λx=>if off<=x/\x<off+src.length then src.getD (x-off) 0 else F x))->Below g w w'->wpList ZY ops Q rest (a.put o.dst (goInt src.length)) w'):wpList ZY ops Q (o::rest) a w:=by
 obtain ⟨y,c,rfl,L,M,O,B⟩:=hS;refine wpList_copy_splice D d s 34 34 ho 5 Tryz.underlying34 (by kernel_rfl) (Z2 ⟨g,off,Z3⟩) y n cap src.length c hd hs g off _ t (II hB) (src.map (λx=>Value.int .u8 ((x:Nat):Int))) ?_ ?_ ?_ ?_ g w (Below.refl _ _) lR ?_
 . rw [To];show src.length=min src.length n;omega
 . intro l;rw [To] at l;obtain ⟨b,off,rfl,G⟩:=B (by intro e;rw [e] at l;simp at l);refine ⟨rfl,_,rfl,λj u k=>?_⟩;have f:j<src.length:=by
    have:=Tu.1 k;obtain ⟨q,_⟩:=this;simpa using q
   rw [Addr.add_mid,G j f];simp [f] at k;simp [f,k]
 . simp;omega
 . intro u H;obtain ⟨x,_,rfl⟩:=List.mem_map.1 H;rfl
 . intro w' E C;have I:=E.out;rw [To];refine h w' ⟨_,I,?_,λi m=>?_⟩ C
   . rw [List.size_toArray,length_splice _ _ _ (by simp;omega)];simp
   . unfold splice;rw [List.getElem?_toArray];by_cases p:i<off
     . rw [Tv (by simp;omega)];have J:¬ (off<=i/\i<off+src.length):=(by omega);simp only [tv,if_neg J];simp [p,m,tv]
     . rw [Tr (by simp;omega)];have z:(((Tq N).map (tv F)).take off).length=off:=(by simp;omega);rw [z];by_cases r:i<off+src.length
       . rw [Tv (by simp;omega)];have K:i-off<src.length:=(by omega);simp [K,tv,r,Nat.not_lt.1 p]
       . rw [Tr (by simp;omega)];simp only [To];rw [List.getElem?_drop];have A:off+src.length+(i-off-src.length)=i:=(by omega);rw [A];simp [m,tv,r]
def RB (w:Z1) (B:Nat) (D:List (List Nat)) (i:Z0) (wr:Z1):Prop:=
 ∃ k:Nat,k<=D.length/\i=Z8 Z9 (k:Nat)/\wr.rowIs (B+1) 136 4096 (tv (lq D k))/\wr.rowIs B 136 4096 (λ_=>Z8 .u8 0)/\Below B w wr
theorem zO (D:List (List Nat)) (k:Nat) (f:k<D.length) (g:(D[k]).length<=64):(λx=>if k*64<=x/\x<k*64+(D[k]).length then (D[k]).getD (x-k*64) 0 else lq D k x)=lq D (k+1):=by
 have b:D.getD k []=D[k]:=by simp [f]
 funext x;unfold lq fL;by_cases h:k*64<=x/\x<k*64+(D[k]).length
 . rw [if_pos h,if_pos (by omega)];have c:x/64=k:=(by omega);have d:x%64=x-k*64:=(by omega);rw [c,b,d]
 . rw [if_neg h];by_cases a:x/64<k
   . rw [if_pos a,if_pos (by omega)]
   . rw [if_neg a];by_cases e:x/64=k
     . rw [if_pos (by omega),e,b,Tw,Tx (by omega)];rfl
     . rw [if_neg (by omega)]
theorem Cu (D:List (List Nat)) (x:Nat):lq D D.length x=fL D x:=by
 unfold lq;by_cases h:x/64<D.length
 . rw [if_pos h]
 . rw [if_neg h];unfold fL;simp [Tx (Nat.not_lt.1 h)]
theorem rQ {cs:Array Z0} {N:Nat} {f:Nat->Nat} (b:cs.size=N) (h:∀ j,j<N->cs[j]?=Z2 (tv f j)):cs.all (λv=>v.oneCell')=true:=by
 rw [Ty];intro i a;have:=h i (by omega);rw [Tt a] at this;simp at this;rw [this];rfl
theorem Lr (K:Z0) (D:List (List Nat)) (w:Z1) (G:Rd w K D) (q:ur D) :
 ZZ ZY 64 #[K] w λe w'=>∃ cs:Array Z0,e=Z5 (.agg cs)/\cs.size=4096/\(∀ j,j<4096->cs[j]?=Z2 (tv (fL D) j))/\Below w.heap.size w w':=by
 have M:=hide q;have Z:=q.1;have U:=G;obtain ⟨W,c,rfl,Y,F⟩:=G;have s:=hide F;clear F q U;have V:=zM;go_enter Tryz.func64,Tryz.ntmps64;go_wp2;clear V;go_loopw [8] (λi wr=>RB w w.heap.size D i wr) (λi _=>D.length-(intOf i).toNat)
 case atStart=>
  refine ⟨0,Tm _,rfl,?_,?_,?_⟩
  . have h:=zN (w.alloc (.cells (Tn 4096 (Z8 .u8 0)) 136));rw [nblk_alloc] at h;exact h.congr λj Q=>by unfold tv lq;simp
  . exact (zN w).alloc _
  . exact (bA _ _).alloc (by rw [nblk_alloc];omega) _
 case round=>
  rename Z1=>wo;obtain ⟨k,X,rfl,f,C,m⟩:=hrel;by_cases a:k<D.length
  . obtain ⟨b,off,rfl,z⟩:=s.out (by intro e;rw [e] at a;simp at a);obtain ⟨u,r,x⟩:=z k a;have S:=x.mono m;have E:=M.out.2 k a;have H:=zO D k a E;have hv:wo.cell? ⟨b,off+k,Z3⟩=Z2 u:=(by rw [m.cell (block_lt_of_cell r)];exact r);have R:=hide H;clear z H r x s;generalize D[k]=l at *;go_wp2_with (refine Ct rfl (.tmp 15) (.tmp 16) rfl (w.heap.size+1) (k*64) 64 64 4096 136 u rfl rfl (lq D k) l f S E (by omega) ?_;intro w2 d y);rw [R.out] at d;have T:=World.rowIs.of_block C (y.block w.heap.size (by omega));go_wp2;go_roundw
    case rel=>exact ⟨k+1,by omega,by go_num,d,T,m.trans (y.mono (by omega))⟩
    case measure=>simp [intOf];omega
  . have B:k=D.length:=(by omega);rw [B] at f;clear B;have d:=f.congr (g:=tv (fL D)) (λj Q=>by unfold tv;rw [Cu]);obtain ⟨cs,A,p,o⟩:=d;obtain ⟨L,I,hx,_⟩:=C;have O:=rQ p o;have N:=hide o;have J:(ZY.info? 136).map (λi=>i.size)=Z2 cs.size:=(by rw [Tryz.sizeGrid,p]);have n:=hide J;have P:=hide A;have t:=hide I;clear o f J A I;go_wp2_with (first
     | refine wpList_load_row rfl 136 (.tmp 3) rfl (w.heap.size+1) rfl 136 cs (0,0) _ P.out Tryz.underlying136 rfl n.out ?_
     | refine wpList_store_row rfl 136 (.tmp 2) (.tmp 19) rfl w.heap.size cs rfl rfl 136 L t.out n.out (by omega) O ?_)
    exact bodyPost_ret (v:=.agg cs) (results_cell_row Tryz.results64 _ _ w.heap.size 136 cs (0,0) _ rfl (setRow_heap _ _ L cs _ _ t.out) Tryz.underlying136 rfl n.out) rfl ⟨cs,rfl,p,N.out,below_setRow m lR cs⟩
end
section
open Gf
def mid (f:Nat->Z0) (g F:Nat->Nat) (c off k j:Nat):Z0:=if off<=j/\j<off+k then Z8 .u8 ((g j^^^gm c (F (j-off)):Nat):Int) else f j
def RF (w:Z1) (b t N off k c tb fb foff:Nat) (f:Nat->Z0) (g F:Nat->Nat) (i:Z0) (wr:Z1):Prop:=
 ∃ j:Nat,j<=k/\i=Z8 Z9 j/\wr.rowIs b t N (mid f g F c off j)/\lY wr tb c/\(∀ i,i<k->wr.cell? ⟨fb,foff+i,Z3⟩=Z2 (Z8 .u8 ((F i:Nat):Int)))/\w.grownBy wr (Z2 b)
theorem IW (f:Nat->Z0) (g F:Nat->Nat) (c off j x:Nat):mid f g F c off (j+1) x=if x=off+j then Z8 .u8 ((g (off+j)^^^gm c (F j):Nat):Int) else mid f g F c off j x:=by
 unfold mid;by_cases h:x=off+j
 . subst h;rw [if_pos rfl,if_pos (by omega),Nat.add_sub_cancel_left]
 . rw [if_neg h];by_cases a:off<=x/\x<off+j
   . rw [if_pos a,if_pos (by omega)]
   . rw [if_neg a,if_neg (by omega)]
theorem IX (f:Nat->Z0) (g F:Nat->Nat) (c off:Nat):mid f g F c off 0=f:=by
 funext j;unfold mid;rw [if_neg (by omega)]
theorem IY {g F:Nat->Nat} {off:Nat} (a:∀ j,off<=j->j<off+n->f j=Z8 .u8 ((g j:Nat):Int)) (j:Nat):mid f g F 0 off n j=f j:=by
 unfold mid;split
 . rename_i h;rw [Si,Nat.xor_zero,a j h.1 h.2]
 . rfl
theorem xD (b t N off n cap o d r c:Nat) (f:Nat->Z0) (g F:Nat->Nat) (w:Z1) (D:c<256) (A:w.rowIs b t N f) (B:∀ j,off<=j->j<off+n->f j=Z8 .u8 ((g j:Nat):Int)) (O:∀ j,g j<256) (K:∀ j,F j<256) (hn:off+n<=N) (k6:n<=140737488355328)
 (U:∀ i,i<n->w.cell? ⟨o,d+i,Z3⟩=Z2 (Z8 .u8 ((F i:Nat):Int))) (k7:o≠b\/d+n<=off\/off+n<=d) :
 ZZ ZY 91 #[Z6 (Z2 ⟨b,off,Z3⟩) n cap,Z6 (Z2 ⟨o,d,Z3⟩) n r,Z8 .u8 c] w λe w'=>e=Z5 (Z4 #[])/\w'.rowIs b t N (mid f g F c off n)/\w.grownBy w' (Z2 b):=by
 by_cases I:c=0
 . subst I;go_enter Tryz.func91,Tryz.ntmps91;go_wp2;exact bodyPost_ret (v:=Z4 #[]) (by simp [results,Tryz.results91]) rfl ⟨rfl,A.congr (λj _=>(IY B j).symm),World.grownBy.refl _ _⟩
 . have ke:((c:Int)==0)=false:=(by rw [beq_eq_false_iff_ne];omega);clear I;go_enter Tryz.func91,Tryz.ntmps91;go_wp2_with fail;refine (ln c D _).mono ?_;rintro e w1 ⟨cs,rfl,kb,J,p⟩;have ka:=p.size;go_wp2_with (refine mZ _ rfl (.tmp 6) (.tmp 11) rfl w1.heap.size c cs _ rfl rfl (heap_alloc_last w1 _) rfl kb J ?_;intro w2 P q);have R:b<w.heap.size:=A.lt;have l:w.grownBy w2 Z3:=by
    refine ⟨q.os.trans p.os,q.tape.trans p.tape,q.output.trans p.output,?_,λk G _=>?_⟩
    . have:=q.size;rw [nblk_alloc] at this;omega
    . rw [q.block k (by rw [nblk_alloc];omega) (by intro e;simp at e;omega),blk_alloc_lt _ _ _ (by omega),p.block k G]
   have X:w2.rowIs b t N f:=A.of_block (l.block b R (by simp));have S:∀ i,i<n->w2.cell? ⟨o,d+i,Z3⟩=Z2 (Z8 .u8 ((F i:Nat):Int)):=λi E=>by
    have:=U i E;exact l.cell this (by simp)
   have Z:w.grownBy w2 (Z2 b):=⟨l.os,l.tape,l.output,l.size,λk G _=>l.block k G (by simp)⟩;have kc:w1.heap.size≠b:=(by omega);clear q l A U J p ka R;go_loopw [17] (λi wr=>RF w b t N off n c w1.heap.size o d f g F i wr) (λi _=>n-(intOf i).toNat)
   case atStart=>exact ⟨0,Tm _,rfl,by rw [IX];exact X,P,S,Z⟩
   case round=>
    clear P S Z X;obtain ⟨j,Q,rfl,s,u,z,C⟩:=hrel;by_cases k9:j<n
    . have c1:=s.cell (i:=off+j) (by omega);have f1:=s.frozen (off+j);have c2:=z j k9;have H:mid f g F c off j (off+j)=Z8 .u8 ((g (off+j):Nat):Int):=(by unfold mid;rw [if_neg (by omega)];exact B _ (by omega) (by omega));rw [H] at c1;have W:=mT (g (off+j)) (gm c (F j)) (O _) (aU _ D);have Y:=(s.set (off+j) (Z8 .u8 ((g (off+j)^^^gm c (F j):Nat):Int))).congr (λx _=>(IW f g F c off j x).symm);have M:=pU u (a:=⟨b,off+j,Z3⟩) kc (Z8 .u8 ((g (off+j)^^^gm c (F j):Nat):Int));have V:=eX C (off+j) (Z8 .u8 ((g (off+j)^^^gm c (F j):Nat):Int));have T:∀ i,i<n->(wr.setCell ⟨b,off+j,Z3⟩ (Z8 .u8 ((g (off+j)^^^gm c (F j):Nat):Int))).cell? ⟨o,d+i,Z3⟩=Z2 (Z8 .u8 ((F i:Nat):Int)):=λi E=>by
       rw [<- z i E];by_cases k5:o=b
       . exact World.cell?_setCell_other _ _ _ _ (by intro e;have h1:off+j=d+i:=congrArg Addr.off e;omega)
       . exact World.cell?_of_block (blk_setCell_other _ _ _ _ k5)
      have L:=K j;have h:=hide4 Y M T V;have HT:=hide u;generalize F j=y at c2 W L h;generalize g (off+j)=x at c1 W h;clear H Y M V T s u z C O K B;go_wp2;go_region_with ((go_at_call 134;refine (uT w1.heap.size c y D L _ (by exact λj Q=>HT.out j Q)).mono ?_;rintro e w' ⟨rfl,m,rfl⟩));all_goals
       go_wp2;go_roundw
       case rel=>exact ⟨j+1,by omega,by go_num,h.out.1,h.out.2.1,h.out.2.2.1,⟨h.out.2.2.2.os,h.out.2.2.2.tape,h.out.2.2.2.output,h.out.2.2.2.size,h.out.2.2.2.block⟩⟩
       case measure=>simp [intOf];omega
    . have k8:j=n:=(by omega);subst k8;clear u z;go_wp2;go_end0
      exact ⟨rfl,s,C⟩
end
section
open Gf
def nE (C:Ck) (k:Nat):Z0:=if k<128 then Z8 .u8 ((C.m (k/16) (k%16):Nat):Int) else if k=128 then Z8 Z9 (C.told:Int) else Z8 Z9 (C.count:Int)
def aD (w:Z1) (b:Nat) (C:Ck):Prop:=w.rowIs b 319 130 (nE C)
structure dU (C:Ck):Prop where
 byt:uX C
 le:C.told<=C.count
 most:C.count<=8
theorem aD.at {C:Ck} (h:aD w b C) (r i:Nat) (c:r<8) (a:i<16):w.cell? ⟨b,r*16+i,Z3⟩=Z2 (Z8 .u8 ((C.m r i:Nat):Int)):=by
 have:=h.cell (i:=r*16+i) (by omega);rw [this];unfold nE;rw [if_pos (by omega),show (r*16+i)/16=r by omega,show (r*16+i)%16=i by omega]
theorem aD.toldC {C:Ck} (h:aD w b C):w.cell? ⟨b,128,Z3⟩=Z2 (Z8 Z9 (C.told:Int)):=h.cell (i:=128) (by decide)
theorem aD.countC {C:Ck} (h:aD w b C):w.cell? ⟨b,129,Z3⟩=Z2 (Z8 Z9 (C.count:Int)):=h.cell (i:=129) (by decide)
def Qn (C:Ck) (i:Nat) (wo:Z1) (v:Z0) (wr:Z1):Prop:=∃ r:Nat,v=Z8 Z9 r/\C.told<=r/\r<=C.count/\(∀ k,C.told<=k->k<r->C.m k i=0)/\wr=wo
def Pg:Option Nat->Z0
 | some r=>Z4 #[Z8 Z9 (r:Int),.bool true]
 | none=>Z4 #[Z8 Z9 0,.bool false]
theorem vk (b i:Nat) (C:Ck) (w:Z1) (h:aD w b C) (j:dU C) (q:i<16) :
 ZZ ZY 203 #[Z7 (Z2 ⟨b,0,Z3⟩),Z8 Z9 i] w λe w'=>e=Z5 (Pg (dk C i))/\w'=w:=by
 have u:=h.toldC;have t:=h.countC;have n:=j.le;have x:=j.most;have y:(i:Int)<16:=by omega
 go_enter Tryz.func203,Tryz.ntmps203;go_wp2;go_loopw [6] (λv wr=>Qn C i w v wr) (λv _=>C.count-(intOf v).toNat)
 case atStart=>exact ⟨C.told,rfl,Nat.le_refl _,n,λk a b=>absurd b (by omega),rfl⟩
 case round=>
  obtain ⟨r,rfl,s,D,f,rfl⟩:=hrel;by_cases p:r<C.count
  . have c1:=h.at r i (by omega) q;have B:=j.byt r i;have l:=hide f;clear f;have o:(r:Int)<C.count:=(by omega);have A:(r:Int)<8:=(by omega);by_cases d:C.m r i=0
    . rw [d] at c1;go_wp2;go_roundw
      case rel=>exact ⟨r+1,by go_num,by omega,by omega,λk a b=>by
       by_cases e:k=r
       . rw [e];exact d
       . exact l.out k a (by omega),rfl⟩
      case measure=>simp [intOf];omega
    . have z:((C.m r i:Nat):Int)≠0:=(by omega);have c:=uv s p d l.out;have g:=hide c;clear c d;go_wp2;refine bodyPost_ret (v:=Z4 #[Z8 Z9 (r:Int),.bool true]) (by simp [results,Tryz.results203]) rfl ?_;rw [g.out];exact ⟨rfl,rfl⟩
  . have o:¬ (r:Int)<C.count:=(by omega);have c:=uw (C:=C) (i:=i) (λk a b=>f k a (by omega));have g:=hide c;clear c f;go_wp2;refine bodyPost_ret (v:=Z4 #[Z8 Z9 0,.bool false]) (by simp [results,Tryz.results203]) rfl ?_;rw [g.out];exact ⟨rfl,rfl⟩
def RG (C:Ck) (i:Nat) (wo:Z1) (v:Z0) (wr:Z1):Prop:=∃ r:Nat,v=Z8 Z9 r/\r<=C.told/\(∀ k,k<r->C.m k i=0)/\wr=wo
theorem vl (b i:Nat) (C:Ck) (w:Z1) (l:aD w b C) (j:dU C) (q:i<16) :
 ZZ ZY 207 #[Z7 (Z2 ⟨b,0,Z3⟩),Z8 Z9 i] w λe w'=>e=Z5 (.bool (cJ C i))/\w'=w:=by
 have s:=l.toldC;have t:=j.le;have u:=j.most;have x:(i:Int)<16:=by omega
 go_enter Tryz.func207,Tryz.ntmps207;go_wp2;go_loopw [10] (λv wr=>RG C i w v wr) (λv _=>C.told-(intOf v).toNat)
 case atStart=>exact ⟨0,rfl,Tm _,λk h=>absurd h (by omega),rfl⟩
 case round=>
  obtain ⟨r,rfl,B,f,rfl⟩:=hrel;by_cases p:r<C.told
  . have c1:=l.at r i (by omega) q;have A:=j.byt r i;have n:=hide f;clear f;have o:(r:Int)<C.told:=(by omega);have z:(r:Int)<8:=(by omega);by_cases d:C.m r i=0
    . rw [d] at c1;go_wp2;go_roundw
      case rel=>exact ⟨r+1,by go_num,by omega,λk b=>by
       by_cases e:k=r
       . rw [e];exact d
       . exact n.out k (by omega),rfl⟩
      case measure=>simp [intOf];omega
    . have y:((C.m r i:Nat):Int)≠0:=(by omega);have c:=pV p d;have g:=hide c;clear c d;go_wp2;go_ret;rw [g.out];exact ⟨rfl,rfl⟩
  . have o:¬ (r:Int)<C.told:=(by omega);have c:=(gM (C:=C) (i:=i)).2 (λk a=>f k (by omega));have g:=hide c;clear c f;go_wp2;go_ret;rw [g.out];exact ⟨rfl,rfl⟩
end
section
open Gf
def ly (C:Ck) (k r i:Nat):Ck:=⟨cF C.m k r i,C.told,C.count⟩
theorem Fs (m:Nat->Nat->Nat) (r i:Nat):cF m 0 r i=m:=by funext k j;unfold cF;rw [if_neg (by omega)]
theorem Ft (m:Nat->Nat->Nat) (k r i:Nat):cF m k r i r=m r:=l8 (by omega)
theorem vq (m:Nat->Nat->Nat) (k r i:Nat):cF m k r i k=m k:=l8 (by omega)
theorem Fu (m:Nat->Nat->Nat) (r i:Nat):cF m (r+1) r i=cF m r r i:=by
 funext k j;unfold cF;by_cases h:k<r/\k≠r
 . rw [if_pos h,if_pos (by omega)]
 . rw [if_neg h,if_neg (by omega)]
theorem IZ (C:Ck) (k r i:Nat) (e:k≠r) (f:k<8) (x:Nat) :
 mid (nE (ly C k r i)) (λx=>cF C.m k r i (x/16) (x%16)) (λj=>C.m r j) (gm (C.m k i) (gi (C.m r i))) (k*16) 16 x=nE (ly C (k+1) r i) x:=by
 unfold mid;by_cases h:k*16<=x/\x<k*16+16
 . rw [if_pos h];have c:x/16=k:=(by omega);have d:x-k*16=x%16:=(by omega);unfold nE;rw [if_pos (by omega)];show Value.int .u8 ((cF C.m k r i (x/16) (x%16)^^^gm _ (C.m r (x-k*16)):Nat):Int)=Z8 .u8 ((cF C.m (k+1) r i (x/16) (x%16):Nat):Int);rw [c,d,vq];have:cF C.m (k+1) r i k (x%16)=C.m k (x%16)^^^gm (gm (C.m k i) (gi (C.m r i))) (C.m r (x%16)):=by unfold cF;rw [if_pos ⟨by omega,e⟩]
   rw [this]
 . rw [if_neg h];unfold nE;by_cases a:x<128
   . rw [if_pos a,if_pos a];have:cF C.m k r i (x/16) (x%16)=cF C.m (k+1) r i (x/16) (x%16):=by
      unfold cF;by_cases b:x/16<k/\x/16≠r
      . rw [if_pos b,if_pos (by omega)]
      . rw [if_neg b,if_neg (by omega)]
     show Value.int .u8 ((cF C.m k r i (x/16) (x%16):Nat):Int)=Z8 .u8 ((cF C.m (k+1) r i (x/16) (x%16):Nat):Int);rw [this]
   . rw [if_neg a,if_neg a];rfl
def RH (w:Z1) (b r i:Nat) (C:Ck) (v:Z0) (wr:Z1):Prop:=
 ∃ k:Nat,v=Z8 Z9 k/\k<=C.count/\aD wr b (ly C k r i)/\w.grownBy wr (Z2 b)
theorem oZ (w:Z1) (b o:Nat):(Instr.sliceAt 221 (Z7 (Z2 ⟨b,o,Z3⟩)) Z3 Z3 Z3).run ZY w=.ok (Z6 (Z2 ⟨b,o,Z3⟩) 16 16) w:=by
 go_simp
theorem vt (b r i:Nat) (C:Ck) (w:Z1) (g:aD w b C) (d:dU C) (u:r<8) (t:i<16) :
 ZZ ZY 205 #[Z7 (Z2 ⟨b,0,Z3⟩),Z8 Z9 r,Z8 Z9 i] w λe w'=>e=Z5 (Z4 #[])/\aD w' b (ly C C.count r i)/\w.grownBy w' (Z2 b):=by
 have D:=g.countC;have B:=g.at r i u t;have F:=d.most;have z:=d.byt r i;have X:(i:Int)<16:=by omega
 have k7:(r:Int)<8:=by omega
 have l:=hide (show aD w b (ly C 0 r i) by unfold ly;rw [Fs];exact g);clear g;go_enter Tryz.func205,Tryz.ntmps205;go_wp2_with fail;refine (qU (C.m r i) z _).mono ?_;rintro e w1 ⟨rfl,S⟩;have T:=S.symm;subst T;go_wp2;go_loopw [21] (λv wr=>RH w b r i C v wr) (λv _=>C.count-(intOf v).toNat)
 case atStart=>exact ⟨0,rfl,Tm _,l.out,World.grownBy.refl _ _⟩
 case round=>
  clear D B l;rename Z1=>wo;obtain ⟨k,rfl,W,a,h⟩:=hrel;by_cases Z:k<C.count
  . have H:(k:Int)<C.count:=(by omega);by_cases f:k=r
    . have G:(k:Int)=(r:Int):=(by omega);have U:=hide f;have A:Hid (aD wo b (ly C (k+1) r i)):=hide (by unfold ly at *;rw [f] at a ⊢;rw [Fu];exact a);clear f a;go_wp2;go_roundw
      case rel=>exact ⟨k+1,by go_num,by omega,A.out,h⟩
      case measure=>simp [intOf];omega
    . have G:(k:Int)≠(r:Int):=(by omega);have Y:(k:Int)<8:=(by omega);have c1:=a.at k i (by omega) t;have n:(ly C k r i).m k i=C.m k i:=(by show cF C.m k r i k i=_;rw [vq]);rw [n] at c1;have y:=d.byt k i;have o:∀ j,j<16->wo.cell? ⟨b,r*16+j,Z3⟩=Z2 (Z8 .u8 ((C.m r j:Nat):Int)):=λj L=>by
       have:=a.at r j u L;have E:(ly C k r i).m r j=C.m r j:=(by show cF C.m k r i r j=_;rw [Ft]);rwa [E] at this
      have P:gm (C.m k i) (gi (C.m r i))<256:=aU _ y;have s:=IZ C k r i f (by omega);have O:∀ x,cF C.m k r i (x/16) (x%16)<256:=λx=>nQ d.byt _ _;have K:=hide o;have N:=hide s;have M:=hide a;clear o s n a;have I:=λw=>oZ w b (k*16);have J:=λw=>oZ w b (r*16);go_wp2;go_region_with (first
       | (go_at_call 92;refine (lW (C.m k i) (gi (C.m r i)) y (cY z) _).mono ?_;rintro e w' ⟨rfl,rfl⟩)
       | (go_at_call 91;refine (xD b 319 130 (k*16) 16 16 b (r*16) 16 (gm (C.m k i) (gi (C.m r i))) (nE (ly C k r i)) (λx=>cF C.m k r i (x/16) (x%16)) (λj=>C.m r j) _ P (by exact M.out) (λj V F=>by unfold nE;rw [if_pos (by omega)];rfl) O (λj=>d.byt r j) (by omega) (by omega) (by exact K.out) (.inr (by omega))).mono ?_;rintro e w' ⟨rfl,q,c⟩))
      all_goals
       have R:aD w' b (ly C (k+1) r i):=q.congr (λx _=>N.out x);have Q:w.grownBy w' (Z2 b):=gd h ⟨c.os,c.tape,c.output,c.size,c.block⟩;clear q c I J;go_wp2;go_roundw
       case rel=>exact ⟨k+1,by go_num,by omega,R,Q⟩
       case measure=>simp [intOf];omega
  . have p:k=C.count:=(by omega);rw [p] at a;have H:¬ (k:Int)<C.count:=(by omega);clear p;go_wp2;go_end0
    exact ⟨rfl,a,h⟩
def pd (m:Nat->Nat->Nat) (r i j:Nat):Nat->Nat->Nat:=λk x=>if k=r/\x<j then gm (m r x) (gi (m r i)) else m k x
def MN (C:Ck) (r i j:Nat):Ck:=⟨pd C.m r i j,C.told,C.count⟩
theorem Fv (m:Nat->Nat->Nat) (r i:Nat):pd m r i 0=m:=by funext k x;unfold pd;rw [if_neg (by omega)]
theorem Lv (C:Ck) (r i j:Nat) (d:r<8) (c:j<16) (x:Nat):nE (MN C r i (j+1)) x=if x=r*16+j then Z8 .u8 ((gm (C.m r j) (gi (C.m r i)):Nat):Int) else nE (MN C r i j) x:=by
 unfold nE;by_cases h:x=r*16+j
 . rw [if_pos h,if_pos (by omega)];show Value.int .u8 ((pd C.m r i (j+1) (x/16) (x%16):Nat):Int)=_;unfold pd;rw [if_pos (by omega),show x%16=j by omega]
 . rw [if_neg h];by_cases a:x<128
   . rw [if_pos a,if_pos a];have:pd C.m r i (j+1) (x/16) (x%16)=pd C.m r i j (x/16) (x%16):=by
      unfold pd;by_cases b:x/16=r/\x%16<j
      . rw [if_pos b,if_pos (by omega)]
      . rw [if_neg b,if_neg (by omega)]
     show Value.int .u8 ((pd C.m r i (j+1) (x/16) (x%16):Nat):Int)=Z8 .u8 ((pd C.m r i j (x/16) (x%16):Nat):Int);rw [this]
   . rw [if_neg a,if_neg a];rfl
theorem Nx (C:Ck) (r i x:Nat):nE (MN C r i 16) x=nE ⟨dP C.m r i,C.told,C.count⟩ x:=by
 unfold nE;by_cases a:x<128
 . rw [if_pos a,if_pos a];have:pd C.m r i 16 (x/16) (x%16)=dP C.m r i (x/16) (x%16):=by
    unfold pd dP;by_cases b:x/16=r
    . rw [if_pos b,if_pos (by omega)]
    . rw [if_neg b,if_neg (by omega)]
   show Value.int .u8 ((pd C.m r i 16 (x/16) (x%16):Nat):Int)=Z8 .u8 ((dP C.m r i (x/16) (x%16):Nat):Int);rw [this]
 . rw [if_neg a,if_neg a];rfl
theorem Fw (cs:List Z0) (k:Nat) (v:Z0) (a:k<16) (b:cs[k]?=Z2 v) (w:Z1):(Instr.index 221 (.agg cs.toArray) (Z8 Z9 (k:Int))).run ZY w=.ok v w:=by
 simp [Instr.index,run_underlying Tryz.underlying221,asIntOf,go_sem,part];rw [if_pos a,b];rfl
def cG (f:Nat->Nat):List Z0:=(Tq 16).map (λj=>Value.int .u8 ((f j:Nat):Int))
theorem jH (f:Nat->Nat):(cG f).length=16:=by unfold cG;rw [To,List.length_range]
theorem qX (f:Nat->Nat) (j:Nat) (a:j<16):(cG f)[j]?=Z2 (Z8 .u8 ((f j:Nat):Int)):=by
 unfold cG;rw [List.getElem?_map,List.getElem?_range a];rfl
theorem j3 {C:Ck} (h:aD w b C) (r:Nat) (d:r<8):w.rangeAt b (r*16) (cG (C.m r)):=λj v a=>by
 have c:j<16:=by
  have:=(Tu.1 a).1;rwa [jH] at this
 rw [qX _ _ c] at a;rw [<- a];exact h.at r j d c
theorem Tryz.sizeArr16 (f:Nat->Nat):(ZY.info? 221).map (λi=>i.size)=Z2 (cG f).length:=by rw [jH];exact Tryz.infoArr16
def RI (w:Z1) (b r i:Nat) (C:Ck) (v:Z0) (wr:Z1):Prop:=
 ∃ k:Nat,v=Z8 Z9 k/\k<=16/\aD wr b (MN C r i k)/\w.grownBy wr (Z2 b)
theorem zX (b r i:Nat) (C:Ck) (w:Z1) (f:aD w b C) (t:dU C) (g:r<8) (H:i<16) :
 ZZ ZY 204 #[Z7 (Z2 ⟨b,0,Z3⟩),Z8 Z9 r,Z8 Z9 i] w λe w'=>e=Z5 (Z4 #[])/\aD w' b ⟨dP C.m r i,C.told,C.count⟩/\w.grownBy w' (Z2 b):=by
 have D:=f.at r i g H;have u:=t.byt r i;have M:(i:Int)<16:=by omega
 have N:(r:Int)<8:=by omega
 have l:=hide (show aD w b (MN C r i 0) by unfold MN;rw [Fv];exact f);have n:=hide (j3 f r g);have y:Hid (∀ j,j<16->(cG (C.m r))[j]?=Z2 (Z8 .u8 ((C.m r j:Nat):Int))):=hide (qX (C.m r));have A:=hide (jH (C.m r));have B:=hide (Tryz.sizeArr16 (C.m r));generalize cG (C.m r)=cs at *;clear f;go_enter Tryz.func204,Tryz.ntmps204;go_wp2_with fail;refine (qU (C.m r i) u _).mono ?_;rintro e w1 ⟨rfl,J⟩;have G:=J.symm;subst G;go_wp2_with (refine wpList_load_mid rfl 221 (.tmp 22) rfl b (r*16) rfl cs _ n.out Tryz.underlying221 rfl B.out ?_);go_loopw [24] (λv wr=>RI w b r i C v wr) (λv _=>16-(intOf v).toNat)
 case atStart=>exact ⟨0,rfl,Tm _,l.out,World.grownBy.refl _ _⟩
 case round=>
  clear D l n;rename Z1=>wo;obtain ⟨k,rfl,O,c,h⟩:=hrel;by_cases d:k<16
  . have F:(k:Int)<16:=(by omega);have s:=y.out k d;have I:=A.out;have c1:=c.at r k g d;have L:=c.frozen (r*16+k);have K:=t.byt r k;have q:aD (wo.setCell ⟨b,r*16+k,Z3⟩ (Z8 .u8 ((gm (C.m r k) (gi (C.m r i)):Nat):Int))) b (MN C r i (k+1)):=
     (c.set (r*16+k) (Z8 .u8 ((gm (C.m r k) (gi (C.m r i)):Nat):Int))).congr (λx _=>(Lv C r i k g d x).symm)
    have o:=eX h (r*16+k) (Z8 .u8 ((gm (C.m r k) (gi (C.m r i)):Nat):Int));have a:=hide2 q o;clear q o c h;generalize (MN C r i k).m r k=z at c1;have E:=Fw cs k _ d s;clear s I;go_wp2;go_region_with ((go_at_call 92;refine (lW (C.m r k) (gi (C.m r i)) K (cY u) _).mono ?_;rintro e w' ⟨rfl,rfl⟩));all_goals
     clear E;go_wp2;go_roundw
     case rel=>exact ⟨k+1,by go_num,by omega,a.out.1,⟨a.out.2.os,a.out.2.tape,a.out.2.output,a.out.2.size,a.out.2.block⟩⟩
     case measure=>simp [intOf];omega
  . have p:k=16:=(by omega);rw [p] at c;have F:¬ (k:Int)<16:=(by omega);clear p;go_wp2;go_end0
    exact ⟨rfl,c.congr (λx _=>Nx C r i x),h⟩
end
section
open Gf
theorem pX:∀ (a:List Z0) (o:Nat) (w:Z1) (f:Nat->Z0),w.rowIs b t n f->(w.setCells b o a).rowIs b t n (λx=>if o<=x/\x<o+a.length then a.getD (x-o) undef else f x)
 | [],o,w,f,h=>h.congr (λi _=>by rw [if_neg (by simp)])
 | v::a,o,w,f,h=>(pX a (o+1) _ _ (h.set o v)).congr (λi _=>by
  by_cases c:i=o
  . subst c;rw [if_neg (by omega),if_pos rfl,if_pos (by simp)];simp
  . by_cases d:o+1<=i/\i<o+1+a.length
    . rw [if_pos d,if_pos (by simp;omega),show i-o=(i-(o+1))+1 by omega];simp
    . rw [if_neg d,if_neg c,if_neg (by simp;omega)])
theorem nV:∀ (a:List Z0) (o:Nat) (w w':Z1),w.grownBy w' (Z2 b)->w.grownBy (w'.setCells b o a) (Z2 b)
 | [],_,_,_,h=>h
 | v::a,o,w,_,h=>nV a (o+1) w _ (eX h o v)
def ux (m:Nat->Nat->Nat) (q:Nat) (f:Nat->Nat):Nat->Nat->Nat:=λk=>if k=q then f else m k
theorem xE {C:Ck} (h:aD w b C) (q:Nat) (d:q<8) (f:Nat->Nat):aD (w.setCells b (q*16) (cG f)) b ⟨ux C.m q f,C.told,C.count⟩:=by
 refine (pX (cG f) (q*16) w (nE C) h).congr (λx _=>?_);rw [jH];unfold nE;by_cases c:q*16<=x/\x<q*16+16
 . rw [if_pos c,if_pos (by omega)];show (cG f).getD (x-q*16) undef=Z8 .u8 ((ux C.m q f (x/16) (x%16):Nat):Int);have e:x/16=q:=(by omega);unfold ux;rw [if_pos e,Tw,qX _ _ (by omega),show x-q*16=x%16 by omega];rfl
 . rw [if_neg c];by_cases a:x<128
   . rw [if_pos a,if_pos a];show _=Value.int .u8 ((ux C.m q f (x/16) (x%16):Nat):Int);unfold ux;rw [if_neg (by omega)]
   . rw [if_neg a,if_neg a]
theorem I0 (f:Nat->Nat):(cG f).toArray.all (λv=>v.oneCell')=true:=by
 rw [Ty];intro i a;have b:i<16:=by simpa [jH] using a
 have:=qX f i b;have e:(cG f).toArray[i]?=Z2 (Z8 .u8 ((f i:Nat):Int)):=by simpa using this
 rw [Tt a] at e;simp only [Option.some.injEq] at e;rw [e];rfl
theorem rY {C:Ck} (h:aD w b C) (q:Nat) (c:q<8):w.there b (q*16) 16:=λj a=>⟨by rw [h.at q j c a];rfl,h.frozen _⟩
theorem vu {C:Ck} (h:aD w b C) (n:Nat):aD (w.setCell ⟨b,129,Z3⟩ (Z8 Z9 (n:Int))) b ⟨C.m,C.told,n⟩:=
 (h.set 129 (Z8 Z9 (n:Int))).congr (λx d=>by
  unfold nE;by_cases e:x=129
  . subst e;rw [if_pos rfl,if_neg (by decide),if_neg (by decide)]
  . rw [if_neg e];by_cases a:x<128
    . rw [if_pos a,if_pos a]
    . rw [if_neg a,if_neg a];by_cases c:x=128
      . rw [if_pos c,if_pos c]
      . omega)
theorem I1 {C:Ck} (h:aD w b C) (n:Nat):aD (w.setCell ⟨b,128,Z3⟩ (Z8 Z9 (n:Int))) b ⟨C.m,n,C.count⟩:=
 (h.set 128 (Z8 Z9 (n:Int))).congr (λx c=>by
  unfold nE;by_cases e:x=128
  . subst e;rw [if_pos rfl,if_neg (by decide),if_pos rfl]
  . rw [if_neg e];by_cases a:x<128
    . rw [if_pos a,if_pos a]
    . rw [if_neg a,if_neg a,if_neg e,if_neg e])
end
def aP (L:List (ByteArray×Z0)):List Z0:=L.flatMap λq=>[.string q.1,q.2]
theorem kK (L:List (ByteArray×Z0)):(aP L).length=L.length*2:=by
 induction L with
 | nil=>rfl
 | cons q L ih=>simp only [aP,List.flatMap_cons,List.length_append,List.length_cons] at ih ⊢;rw [ih];simp;omega
theorem tH (L:List (ByteArray×Z0)) (k:Nat) (a:k<L.length):(aP L)[k*2]?=Z2 (.string L[k].1)/\(aP L)[k*2+1]?=Z2 L[k].2:=by
 induction L generalizing k with
 | nil=>simp at a
 | cons q L ih=>
  have e:aP (q::L)=[.string q.1,q.2]++aP L:=by simp [aP]
  rw [e];cases k with
  | zero=>exact ⟨rfl,rfl⟩
  | succ k=>
   simp at a;obtain ⟨b,c⟩:=ih k a;refine ⟨?_,?_⟩
   . rw [Tr (by simp;omega),show (k+1)*2-[Value.string q.1,q.2].length=k*2 by simp;omega];exact b
   . rw [Tr (by simp;omega),show (k+1)*2+1-[Value.string q.1,q.2].length=k*2+1 by simp;omega];exact c
theorem jy (L M:List (ByteArray×Z0)):aP (L++M)=aP L++aP M:=by simp [aP]
structure oN (w:Z1) (r base:Nat) (v:Z0) (L:List (ByteArray×Z0)):Prop where
 top:w.heap[r]?=Z2 (.cells #[v] 53 (0,0))
 own:w.ownsRow base 80 2 v L.length (aP L)
theorem oN.shape (h:oN w r base v L):(v=Z6 Z3 0 0/\L=[])\/∃ g cap,v=Z6 (Z2 ⟨g,0,Z3⟩) L.length cap/\base<=g/\L.length<=cap /\
 ∀ k (d:k<L.length),w.cell? ⟨g,k*2,Z3⟩=Z2 (.string L[k].1)/\w.cell? ⟨g,k*2+1,Z3⟩=Z2 L[k].2:=by
 rcases h.own.2 with ⟨i,j⟩|⟨g,cap,cur,c,e,n,f,o,p,q⟩
 . exact .inl ⟨i,List.eq_nil_of_length_eq_zero j⟩
 . refine .inr ⟨g,cap,c,e,f,λk d=>?_⟩;obtain ⟨l,m⟩:=tH L k d;have:=h.own.cells (g:=g) (by rw [c];rfl);have a:=this _ _ l;have b:=this _ _ m;rw [mw] at a b;exact ⟨a,b⟩
theorem oN.cell (h:oN w r base v L):w.cell? ⟨r,0,Z3⟩=Z2 v/\w.frozen? ⟨r,0,Z3⟩=false:=by simp [World.cell?,World.frozen?,h.top]
def R3 (w:Z1) (L:List (ByteArray×Z0)) (name:ByteArray) (i:Z0) (wr:Z1):Prop:=∃ k:Nat,k<=L.length/\i=Z8 Z9 k/\wr=w/\∀ j (hj:j<L.length),j<k->¬ L[j].1.toList=name.toList
theorem jT (h:oN w r base v L) (A:L.length<=1000000) (name:ByteArray) :
 ZZ ZY 28 #[Z7 (Z2 ⟨r,0,Z3⟩),.string name] w λe w'=>w'=w/\((∃ k,∃ m:k<L.length,e=Z5 (Z8 Z9 (k:Nat))/\L[k].1.toList=name.toList/\∀ j (a:j<L.length),j<k->¬ L[j].1.toList=name.toList)\/(e=Z5 (Z8 Z9 (-1))/\∀ j (a:j<L.length),¬ L[j].1.toList=name.toList)):=by
 obtain ⟨t,_⟩:=h.cell;have s:=h.shape;go_enter Tryz.func28,Tryz.ntmps28;go_wp2;go_loopw [5] (λi wr=>R3 w L name i wr) (λi _=>L.length-(intOf i).toNat)
 case atStart=>exact ⟨0,Tm _,rfl,rfl,λj _ a=>absurd a (by omega)⟩
 case round=>
  obtain ⟨k,m,rfl,rfl,c⟩:=hrel;rcases s with ⟨rfl,rfl⟩|⟨g,cap,rfl,y,x,n⟩
  . have p:k=0:=(by simpa using m);subst p;clear c;go_wp2;go_ret;exact ⟨rfl,.inr ⟨rfl,λj a=>absurd a (by simp)⟩⟩
  . by_cases l:k<L.length
    . obtain ⟨c1,u⟩:=n k l;have d:=hide c;clear c;by_cases b:L[k].1.toList=name.toList
      . have o:(L[k].1.toList==name.toList)=true:=(by rw [b];exact beq_self_eq_true _);have f:=hide b;clear b;go_wp2;go_ret;exact ⟨rfl,.inl ⟨k,l,rfl,f.out,d.out⟩⟩
      . have o:(L[k].1.toList==name.toList)=false:=(by rw [beq_eq_false_iff_ne];exact b);have f:=hide b;clear b;go_wp2;refine ⟨⟨k+1,by omega,by go_num,rfl,λj a z=>?_⟩,by simp [intOf];omega⟩;by_cases e:j=k
        . subst e;exact f.out
        . exact d.out j a (by omega)
    . have q:k=L.length:=(by omega);subst q;have d:=hide c;clear c;go_wp2;go_ret;exact ⟨rfl,.inr ⟨rfl,λj a=>d.out j a a⟩⟩
def bX (n:ByteArray):Prop:=1<=n.size/\n.size<=16
def Mh (L:List (ByteArray×Z0)) (name:ByteArray) (k:Nat):Prop:=∃ hk:k<L.length,L[k].1.toList=name.toList/\∀ j (hj:j<L.length),j<k->¬ L[j].1.toList=name.toList
def pI (L:List (ByteArray×Z0)) (name:ByteArray):Prop:=∀ j (hj:j<L.length),¬ L[j].1.toList=name.toList
def Oy (L:List (ByteArray×Z0)) (name:ByteArray) (e:Ending):Prop:=
 (¬ bX name/\e=Z5 (Z4 #[Z6 Z3 0 0,Z8 Z9 6]))\/(bX name/\pI L name/\e=Z5 (Z4 #[Z6 Z3 0 0,Z8 Z9 9]))\/(bX name/\∃ k,Mh L name k/\e=Z5 (Z4 #[(L.getD k (ByteArray.empty,undef)).2,Z8 Z9 0]))
theorem tI (h:oN w r base v L) (o:L.length<=1000000) (name:ByteArray) :
 ZZ ZY 12 #[Z7 (Z2 ⟨r,0,Z3⟩),.string name] w λe w'=>w'=w/\Oy L name e:=by
 obtain ⟨s,_⟩:=h.cell;have j:=h.shape;have l:=jT h o name;by_cases u:name.size=0
 . have n0:(name.size:Int)=0:=(by omega);go_enter Tryz.func12,Tryz.ntmps12;go_wp2;go_ret2;exact ⟨rfl,.inl ⟨λq=>by have:=q.1;omega,rfl⟩⟩
 . have n0:¬ (name.size:Int)=0:=(by omega);by_cases y:16<name.size
   . have p:(16:Int)<(name.size:Int):=(by omega);go_enter Tryz.func12,Tryz.ntmps12;go_wp2;go_ret2;exact ⟨rfl,.inl ⟨λq=>by have:=q.2;omega,rfl⟩⟩
   . have p:¬ (16:Int)<(name.size:Int):=(by omega);have i:bX name:=⟨by omega,by omega⟩;go_enter Tryz.func12,Tryz.ntmps12;go_wp2_with fail;refine l.mono ?_;rintro e w' ⟨rfl,n⟩;clear l;rcases n with ⟨k,b,rfl,m,c⟩|⟨rfl,f⟩
     . rcases j with ⟨rfl,rfl⟩|⟨g,cap,rfl,z,x,d⟩
       . exact absurd b (by simp)
       . obtain ⟨c1,t⟩:=d k b;have a:=hide2 m c;clear m c d;go_wp2;go_ret2;exact ⟨rfl,.inr (.inr ⟨i,k,⟨b,a.out.1,a.out.2⟩,by simp [b]⟩)⟩
     . have a:=hide f;clear f j;go_wp2;go_ret2;exact ⟨rfl,.inr (.inl ⟨i,a.out,rfl⟩)⟩
def Be:Z0->Nat
 | .slice _ n _=>n
 | _=>0
def ld (v:Z0):Prop:=∃ ao n c,v=.slice ao n c/\n<=1000000
def bN (L:List (ByteArray×Z0)) (q k:Nat):Nat:=((L.take k).map λo=>Be o.2/q+1).sum
theorem Sj (L:List (ByteArray×Z0)) (q k:Nat) (a:k<L.length):bN L q (k+1)=bN L q k+(Be L[k].2/q+1):=by
 unfold bN;rw [List.take_add_one,List.getElem?_eq_getElem a];simp only [List.map_append,List.sum_append,Option.toList_some,List.map_cons,List.map_nil,List.sum_cons,List.sum_nil,Nat.add_zero]
theorem oO (L:List (ByteArray×Z0)) (q k:Nat) (h:∀ o∈L,Be o.2<=1000000) (c:k<=L.length):bN L q k<=k*1000001:=by
 induction k with
 | zero=>simp [bN]
 | succ k ih=>
  rw [Sj L q k (by omega)];have:=ih (by omega);have a:=h L[k] (Tz _);have b:Be L[k].2/q<=Be L[k].2:=Tp _ _;omega
def jz (L:List (ByteArray×Z0)) (data:Nat) (more:Int):Nat:=
 let q:=data*44
 if 0<=more then bN L q L.length+(more.toNat/q+1)+2*((L.length+1)*200/q+1) else bN L q L.length+2*(L.length*200/q+1)
def Ro (w:Z1) (L:List (ByteArray×Z0)) (q:Nat) (n i:Z0) (wr:Z1):Prop:=∃ k:Nat,k<=L.length/\n=Z8 Z9 (bN L q k:Nat)/\i=Z8 Z9 k/\wr=w
theorem DI (h:oN w r base v L) (hl:L.length<=1000) (F:∀ o∈L,ld o.2) (data:Nat) (hf:1<=data) (Z:data<=1000) (more:Int) (hh:-1<=more) (hi:more<=1000000) :
 ZZ ZY 24 #[Z7 (Z2 ⟨r,0,Z3⟩),Z8 Z9 data,Z8 Z9 more] w λe w'=>w'=w/\e=Z5 (Z8 Z9 (jz L data more:Nat)):=by
 obtain ⟨J,_⟩:=h.cell;have s:=h.shape;have B:∀ o∈L,Be o.2<=1000000:=λo ho=>by obtain ⟨j,n,c,e,D⟩:=F o ho;rw [e];exact D
 obtain ⟨q,E⟩:∃ q,q=data*44:=⟨_,rfl⟩;have hj:1<=q:=by omega
 have hp:q<=44000:=by omega
 have hx:(data:Int)*44=(q:Int):=by omega
 have hr:¬ (q:Int)=0:=by omega
 have y:=hide E;clear E;have C:v=Z6 Z3 0 0/\L.length=0\/∃ g cap,v=Z6 (Z2 ⟨g,0,Z3⟩) L.length cap:=by
  rcases s with ⟨a,l⟩|⟨g,cap,a,_⟩
  . exact .inl ⟨a,by rw [l];rfl⟩
  . exact .inr ⟨g,cap,a⟩
 obtain ⟨j,cap,G⟩:∃ j cap,v=.slice j L.length cap:=by
  rcases C with ⟨a,l⟩|⟨g,cap,a⟩
  . exact ⟨Z3,0,by rw [a,l]⟩
  . exact ⟨_,_,a⟩
 rw [G] at J;go_enter Tryz.func24,Tryz.ntmps24;go_wp2;go_loopw [8,10] (λn i wr=>Ro w L q n i wr) (λ_ i _=>L.length-(intOf i).toNat)
 case atStart=>exact ⟨0,Tm _,rfl,rfl,rfl⟩
 case round=>
  obtain ⟨k,R,rfl,rfl,rfl⟩:=hrel;by_cases p:k<L.length
  . rcases s with ⟨_,rfl⟩|⟨g,z,u,he,Y,A⟩
    . exact absurd p (by simp)
    . rw [G] at u;simp at u;obtain ⟨rfl,rfl⟩:=u;obtain ⟨c1,K⟩:=A k p;obtain ⟨U,n,V,e,D⟩:=F L[k] (Tz _);have t:=Sj L q k p;have Q:=oO L q k B R;rw [e] at K t;have N:(n:Int)/(q:Int)=((n/q:Nat):Int):=(by omega);have W:(n:Int).tdiv (q:Int)=((n/q:Nat):Int):=(by rw [Ts (by omega)];exact N);have hg:n/q<=n:=Tp _ _;have ho:Ro wr L q (Z8 Z9 ((bN L q k+(n/q+1):Nat):Int)) (Z8 Z9 ((k:Int)+1)) wr:=⟨k+1,by omega,by rw [t];rfl,rfl,rfl⟩;have H:=hide ho;clear ho t A;generalize bN L q k=S at *;generalize n/q=d at *;go_wp2;have:=H.out;rw [show ((S+(d+1):Nat):Int)=(S:Int)+(d:Int)+1 by omega] at this;exact ⟨this,by simp [intOf];omega⟩
  . have P:k=L.length:=(by omega);subst P;have Q:=oO L q L.length B lR;clear s C;by_cases x:0<=more
    . obtain ⟨m,rfl⟩:=Int.eq_ofNat_of_zero_le x;have b:jz L data (m:Int)=bN L q L.length+(m/q+1)+2*((L.length+1)*200/q+1):=by
       unfold jz;rw [if_pos x,<- y.out,Int.toNat_natCast]
      have X:(m:Int).tdiv (q:Int)=((m/q:Nat):Int):=(by rw [Ts (by omega)];omega);have O:(((L.length:Int)+1)*200).tdiv (q:Int)=(((L.length+1)*200/q:Nat):Int):=by
       rw [Ts (by omega),show ((L.length:Int)+1)*200=(((L.length+1)*200:Nat):Int) by omega];omega
      have T:m/q<=m:=Tp _ _;have I:(L.length+1)*200/q<=(L.length+1)*200:=Tp _ _;have f:=hide b;clear b;generalize bN L q L.length=S at *;generalize m/q=d at *;generalize (L.length+1)*200/q=M at *;go_wp2;go_ret;exact ⟨rfl,by rw [f.out];congr 2⟩
    . have b:jz L data more=bN L q L.length+2*(L.length*200/q+1):=by
       unfold jz;rw [if_neg x,<- y.out]
      have O:((L.length:Int)*200).tdiv (q:Int)=((L.length*200/q:Nat):Int):=by
       rw [Ts (by omega),show (L.length:Int)*200=((L.length*200:Nat):Int) by omega];omega
      have I:L.length*200/q<=L.length*200:=Tp _ _;have f:=hide b;clear b;generalize bN L q L.length=S at *;generalize L.length*200/q=M at *;go_wp2;go_ret;exact ⟨rfl,by rw [f.out];congr 2⟩
end Go.Proofs.YtfbmmcnpjhmjaaaGreatDoor
