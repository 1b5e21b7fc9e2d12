import Derived.Test.YtfbmmcnpjhmjaaaGreatDoorM03
import Derived.Laws.Tables
import Derived.Deep.WholeRow
import Derived.Test.YtfbmmcnpjhmjaaaGreatDoorM13
import Derived.Lib.TrailingZeros
import Derived.Laws.Bits64b
import Derived.Laws.BitsAllLaws
set_option maxRecDepth 100000
set_option maxHeartbeats 8000000
open Go.Value renaming int -> Z9
open Go.Ending renaming returned -> Z8
open Option renaming none -> Z7, some -> Z6
open Go renaming World -> Z5, Value -> Z4, Calls -> Z3
open Array renaming replicate -> Tm, getElem?_eq_getElem -> Ts
open List renaming range -> Tn, size_toArray -> Tt, map_cons -> TD
open Nat renaming two_pow_pos -> To, and_le_left -> Tp, testBit_two_pow_mul_add -> Tq, lt_of_lt_of_le -> Tr, add_sub_cancel_left -> Tu, eq_of_testBit_eq -> Tv, testBit_and -> Tw, testBit_two_pow -> Tx, testBit_two_pow_sub_one -> Ty, testBit_lt_two_pow -> Tz, pow_le_pow_right -> TA, div_mul_le_self -> TB, div_eq_of_lt -> TE
open Bool renaming and_eq_true_iff -> TC
open Go.Proofs.Tryz renaming prog -> Z2
namespace Go.Proofs.YtfbmmcnpjhmjaaaGreatDoor
open Go.RowKit Gf
variable {cs:Array Z4} {x q c k n B:Nat} {f:Nat->Nat} {w:Z5}
section
open Go.Deep
def qL (c j:Nat):Nat:=if j<16 then gm c j else gm c ((j-16)*16)
def tv (f:Nat->Nat) (j:Nat):Z4:=Z9 .u8 ((f j:Nat):Int)
theorem Nk {x y:Int} (a b:Nat) (f:x=(a:Int)) (g:y=(b:Int)) (c:a<256) (d:b<256) (w:Z5) :
 Z3 Z2 92 #[Z9 .u8 x,Z9 .u8 y] w λe w'=>e=Z8 (Z9 .u8 ((gm a b:Nat):Int))/\w'=w:=by
 subst f g;exact lW a b c d w
def fF (c n j:Nat):Nat:=if j<n then gm c j else 0
def K6 (q:Nat):Prop:=q=1\/q=2\/q=4\/q=8\/q=16
def Qm (w:Z5) (B c:Nat) (i d:Z4) (wr:Z5):Prop:=
 ∃ q:Nat,K6 q/\i=Z9 .i64 q/\d=Z9 .u8 ((gm c q:Nat):Int)/\wr.rowIs (B+1) 221 16 (tv (fF c q))/\wr.rowIs B 221 16 (λ_=>Z9 .u8 0)/\Below B w wr
def ML (w:Z5) (B c q:Nat) (i:Z4) (wr:Z5):Prop:=
 ∃ k:Nat,k<=q/\i=Z9 .i64 k/\wr.rowIs (B+1) 221 16 (tv (fF c (q+k)))/\wr.rowIs B 221 16 (λ_=>Z9 .u8 0)/\Below B w wr
theorem Iz (w:Z5):(w.alloc (.cells (Tm 16 (Z9 .u8 0)) 221)).rowIs w.heap.size 221 16 (λ_=>Z9 .u8 0):=by
 have h:=World.rowIs_alloc w (Tm 16 (Z9 .u8 0)) 221 (λ_=>Z9 .u8 0) (λi a=>by simp at a;simp [a]);simpa using h
theorem Nl (w:Z5):(w.alloc (.cells (Tm 32 (Z9 .u8 0)) 223)).rowIs w.heap.size 223 32 (λ_=>Z9 .u8 0):=by
 have h:=World.rowIs_alloc w (Tm 32 (Z9 .u8 0)) 223 (λ_=>Z9 .u8 0) (λi a=>by simp at a;simp [a]);simpa using h
theorem IA:∀ i,i<1->i^^^1=1+i:=by decide
theorem IB:∀ i,i<2->i^^^2=2+i:=by decide
theorem IC:∀ i,i<4->i^^^4=4+i:=by decide
theorem ID:∀ i,i<8->i^^^8=8+i:=by decide
theorem Ln {i:Nat} (a:K6 q) (b:q<16) (h:i<q):i^^^q=q+i:=by
 rcases a with rfl|rfl|rfl|rfl|rfl
 . exact IA i h
 . exact IB i h
 . exact IC i h
 . exact ID i h
 . omega
theorem Nm:∀ c,c<256->tx (gm c 1)=gm c 2:=by decide +kernel
theorem Nn:∀ c,c<256->tx (gm c 2)=gm c 4:=by decide +kernel
theorem No:∀ c,c<256->tx (gm c 4)=gm c 8:=by decide +kernel
theorem Np:∀ c,c<256->tx (gm c 8)=gm c 16:=by decide +kernel
theorem Pd (b:K6 q) (d:q<16) (a:c<256):tx (gm c q)=gm c (q*2):=by
 rcases b with rfl|rfl|rfl|rfl|rfl
 . exact Nm c a
 . exact Nn c a
 . exact No c a
 . exact Np c a
 . omega
theorem IE (b:K6 q) (a:q<16):K6 (q*2):=by unfold K6 at *;omega
theorem Co (f:K6 q) (d:q<16) (e:k<q) (j:Nat):tv (fF c (q+(k+1))) j=if j=q+k then Z9 .u8 ((fF c (q+k) k^^^gm c q:Nat):Int) else tv (fF c (q+k)) j:=by
 unfold tv fF;by_cases a:j=q+k
 . rw [if_pos a,if_pos (by omega),if_pos (by omega),<- dX,Ln f d e,a]
 . rw [if_neg a];by_cases b:j<q+k
   . rw [if_pos b,if_pos (by omega)]
   . rw [if_neg b,if_neg (by omega)]
theorem oW (b:cs.size=n) (h:∀ j,j<n->cs[j]?=Z6 (tv f j)):cs.all (λv=>v.oneCell')=true:=by
 rw [Array.all_eq_true];intro i a;have:=h i (by omega);rw [Ts a] at this;simp at this;rw [this];rfl
theorem Fi {x:Int} (a:Nat) (b:x=(a:Int)) (h:a<256) (w:Z5):Z3 Z2 135 #[Z9 .u8 x] w λe w'=>e=Z8 (Z9 .u8 (tx a:Int))/\w'=w:=by
 subst b;exact mV a h w
theorem IF (c n j:Nat) (a:c<256):fF c n j<256:=by
 unfold fF;split
 . exact aU _ a
 . decide
theorem Tryz.infoArr16:(Z2.info? 221).map (λi=>i.size)=Z6 16:=by kernel_rfl
theorem mG (c:Nat) (m:c<256) (w:Z5) :
 Z3 Z2 158 #[Z9 .u8 c] w λe w'=>∃ cs:Array Z4,e=Z8 (.agg cs)/\cs.size=16/\(∀ j,j<16->cs[j]?=Z6 (tv (fF c 16) j))/\Below w.heap.size w w':=by
 go_enter Tryz.func158,Tryz.ntmps158;go_wp2;go_loopw [4,0] (λi d wr=>Qm w w.heap.size c i d wr) (λi _ _=>16-(intOf i).toNat)
 case atStart=>
  refine ⟨1,.inl rfl,rfl,by rw [cj c m],?_,?_,?_⟩
  . have h:=Iz (w.alloc (.cells (Tm 16 (Z9 .u8 0)) 221));rw [nblk_alloc] at h;refine h.congr λj Q=>?_;unfold tv fF;by_cases e:j<1
    . rw [if_pos e,show j=0 by omega,bk];rfl
    . rw [if_neg e];rfl
  . exact (Iz w).alloc _
  . exact (bA _ _).alloc (by rw [nblk_alloc];omega) _
 case round=>
  obtain ⟨q,n,rfl,rfl,b,f,g⟩:=hrel;have z:q<=16:=by unfold K6 at n;omega
  have E:gm c q<256:=aU _ m;by_cases u:q<16
  . have W:q<=8:=(by unfold K6 at n;omega);have l:=hide n;have I:=hide (show ML w w.heap.size c q (Z9 .i64 (0:Nat)) wr from ⟨0,Nat.zero_le _,rfl,b,f,g⟩);clear b f g n;have X:(q:Int)<16:=(by omega);rename Z5=>wo;go_wp2;go_loopw [11] (λi wr=>ML w w.heap.size c q i wr) (λi _=>q-(intOf i).toNat)
    case atStart=>exact I.out
    case round=>
     obtain ⟨k,V,rfl,b,f,g⟩:=hrel;by_cases R:k<q
     . have c1:=b.cell (i:=k) (by omega);have L:=b.cell (i:=q+k) (by omega);have T:=b.frozen (q+k);have S:=IF c (q+k) k m;have hy:=mT _ _ S E;have A:=(b.set (q+k) (Z9 .u8 ((fF c (q+k) k^^^gm c q:Nat):Int))).congr (λj Q=>(Co l.out u R j).symm);have B:=f.setOther (a:=⟨w.heap.size+1,q+k,Z7⟩) (by simp) (Z9 .u8 ((fF c (q+k) k^^^gm c q:Nat):Int));have C:=g.setCell (p:=⟨w.heap.size+1,q+k,Z7⟩) (by simp) (Z9 .u8 ((fF c (q+k) k^^^gm c q:Nat):Int));have o:=hide3 A B C;clear A B C b f g;unfold tv at c1 L;have N:(k:Int)<q:=(by omega);have U:(k:Int)<16:=(by omega);have Y:(q:Int)+(k:Int)<16:=(by omega);have hx:IntKind.i64.wrap ((q:Int)+(k:Int))=((q+k:Nat):Int):=(by rw [IntKind.wrap_i64];omega);have Z:wrap64 ((q:Int)+(k:Int))=((q+k:Nat):Int):=(by unfold wrap64;omega);go_wp2;go_roundw
       case rel=>exact ⟨k+1,by omega,by go_num,o.out.1,o.out.2.1,o.out.2.2⟩
       case measure=>simp [intOf];omega
     . have O:k=q:=(by omega);have s:=hide3 b f g;clear b f g;have N:¬ ((k:Int)<q):=(by omega);go_wp2_with fail;refine (Fi (gm c q) rfl E _).mono ?_;rintro e w' ⟨rfl,rfl⟩;go_wp2;go_roundw
       case rel=>exact ⟨q*2,IE l.out u,by go_num,by rw [Pd l.out u m],by have:=s.out.1;rwa [O,show q+q=q*2 by omega] at this,s.out.2.1,s.out.2.2⟩
       case measure=>have P:=l.out;unfold K6 at P;simp only [intOf];omega
  . have z:q=16:=(by omega);subst z;obtain ⟨cs,D,x,t⟩:=b;obtain ⟨H,F,hz,_⟩:=f;have M:=oW x t;have K:=hide t;have G:(Z2.info? 221).map (λi=>i.size)=Z6 cs.size:=(by rw [Tryz.infoArr16,x]);have r:=hide G;have J:=hide D;have y:=hide F;clear t G D F;go_wp2_with (first
     | refine wpList_load_row rfl 221 (.tmp 3) rfl (w.heap.size+1) rfl 221 cs (0,0) _ J.out Tryz.underlying221 rfl r.out ?_
     | refine wpList_store_row rfl 221 (.tmp 2) (.tmp 26) rfl w.heap.size cs rfl rfl 221 H y.out r.out (by omega) M ?_)
    exact bodyPost_ret (v:=.agg cs) (results_cell_row Tryz.results158 _ _ w.heap.size 221 cs (0,0) _ rfl (setRow_heap _ _ H cs _ _ y.out) Tryz.underlying221 rfl r.out) rfl ⟨cs,rfl,x,K.out,below_setRow g lR cs⟩
theorem Tryz.infoTable:(Z2.info? 223).map (λi=>i.size)=Z6 32:=by kernel_rfl
theorem Fj (c j:Nat) (a:c<256) (b:j<32):(if j<16 then fF c 16 j else fF (gm c 16) 16 (j-16))=qL c j:=by
 unfold fF qL;by_cases h:j<16
 . rw [if_pos h,if_pos h,if_pos h]
 . rw [if_neg h,if_neg h,if_pos (by omega),aX a (by decide) (by omega)];congr 1;have:∀ x,x<16->gm 16 x=x*16:=by decide +kernel
   exact this _ (by omega)
def pT (c:Nat):Array Z4:=((Tn 32).map (λj=>Value.int .u8 ((if j<16 then fF c 16 j else fF (gm c 16) 16 (j-16):Nat):Int))).toArray
theorem j0 (c:Nat):(pT c).size=32:=by unfold pT;rw [Tt,List.length_map,List.length_range]
theorem uS (c j:Nat) (b:c<256) (a:j<32):(pT c)[j]?=Z6 (tv (qL c) j):=by
 unfold pT tv;simp only [List.getElem?_toArray,List.getElem?_map,List.getElem?_range a,Option.map_some,Fj c j b a]
theorem Cp (c:Nat):(Z2.info? 223).map (λi=>i.size)=Z6 (pT c).size:=by rw [j0,Tryz.infoTable]
theorem zJ (b:cs.size=16) (h:∀ j,j<16->cs[j]?=Z6 (tv f j)) :
 cs=#[tv f 0,tv f 1,tv f 2,tv f 3,tv f 4,tv f 5,tv f 6,tv f 7,tv f 8,tv f 9,tv f 10,tv f 11,tv f 12,tv f 13,tv f 14,tv f 15]:=by
 have e:cs=((Tn 16).map (tv f)).toArray:=by
  refine Array.ext (by simp [b]) λi a c=>?_;have:=h i (by omega);rw [Ts a] at this;simp at this ⊢;exact this
 exact e
theorem ln (c:Nat) (b:c<256) (w:Z5) :
 Z3 Z2 133 #[Z9 .u8 c] w λe w'=>∃ cs:Array Z4,e=Z8 (.agg cs)/\cs.size=32/\(∀ j,j<32->cs[j]?=Z6 (tv (qL c) j))/\Below w.heap.size w w':=by
 have B:=Nl w;have D:gm c 16<256:=aU _ b;go_enter Tryz.func133,Tryz.ntmps133;go_wp2_with fail;refine (mG c b _).mono ?_;rintro e w1 ⟨z,rfl,r,p,a⟩;obtain rfl:=zJ r p;clear r p;simp only [tv];go_wp2_with fail;refine (Nk c 16 rfl rfl b (by decide) _).mono ?_;rintro e w' ⟨rfl,rfl⟩;go_wp2_with fail;refine (mG (gm c 16) D _).mono ?_;rintro e w2 ⟨A,rfl,s,q,g⟩;obtain rfl:=zJ s q;clear s q;simp only [tv];obtain ⟨d,u,C,_⟩:=B;have t:w2.heap[w.heap.size]?=Z6 (.cells d 223 (0,0)):=(g.block _ (by have:=a.size;rw [nblk_alloc] at this;omega)).trans ((a.block _ (by rw [nblk_alloc];omega)).trans u);have n:=hide t;have x:Hid (Below w.heap.size w w2):=hide (((bA w _).trans (a.mono (by rw [nblk_alloc];omega))).trans (g.mono (by have:=a.size;rw [nblk_alloc] at this;omega)));clear a g u t;have f:=hide (Cp c);have m:Hid (d.size=(pT c).size):=hide (by rw [C,j0]);have k:=hide (oW (j0 c) (λj i=>uS c j b i));have l:Hid (∀ j,j<32->(pT c)[j]?=Z6 (tv (qL c) j)):=hide (λj i=>uS c j b i);have o:=hide (j0 c);obtain ⟨cs,h⟩:=nM (pT c);rw [h] at f m k l o;have y:=hide h;clear h;go_wp2_with (refine wpList_store_row rfl 223 (.tmp 2) (.tmp 8) rfl w.heap.size cs rfl (by rw [<- y.out];rfl) 223 d n.out f.out m.out k.out ?_);refine bodyPost_ret (v:=.agg cs) (results_cell_row Tryz.results133 _ _ w.heap.size 223 cs (0,0) _ rfl (setRow_heap _ _ d cs _ _ n.out) Tryz.underlying223 rfl f.out) rfl ?_;exact ⟨cs,rfl,o.out,l.out,below_setRow x.out lR _⟩
def lY (w:Z5) (t c:Nat):Prop:=∀ j,j<32->w.cell? ⟨t,j,Z7⟩=Z6 (tv (qL c) j)
theorem Lo:∀ b,b<256->b=(b%16)^^^(b/16*16):=by decide +kernel
theorem IG (c b:Nat) (a:b<256):qL c (b%16)^^^qL c (16+b/16)=gm c b:=by
 unfold qL;rw [if_pos (by omega),if_neg (by omega),Tu,<- dX,<- Lo b a]
theorem D8 (c j:Nat) (a:c<256):qL c j<256:=by
 unfold qL;split<;>exact aU _ a
theorem Pe (b:Nat) (a:b<256):bits .and .u8 (b:Int) 15=((b%16:Nat):Int):=by
 rw [u8_and15 _ (by omega) (by omega)];rfl
theorem uT (t c b:Nat) (g:c<256) (f:b<256) (w:Z5) (a:lY w t c) :
 Z3 Z2 134 #[.pointer (Z6 ⟨t,0,Z7⟩),Z9 .u8 b] w λe w'=>e=Z8 (Z9 .u8 ((gm c b:Nat):Int))/\∃ m,w'=w.drewN m:=by
 have c1:=a (b%16) (by omega);have h:=a (16+b/16) (by omega);have j:=D8 c (b%16) g;have k:=D8 c (16+b/16) g;have d:=IG c b f;have l:=Pe b f;have i:=mT _ _ j k;unfold tv at c1 h;rw [d] at i;have n:(b:Int)<256:=by omega
 clear a d;go_enter Tryz.func134,Tryz.ntmps134;go_wp2;go_quiet (fail);go_wp2;go_ret;exact ⟨rfl,_,rfl⟩
end
section
open Go.Deep
def gH (g F:Nat->Nat) (c off k j:Nat):Nat:=if off<=j/\j<off+k then g j^^^gm c (F (j-off)) else g j
def Ry (w:Z5) (b t N off k c tb fb foff:Nat) (g F:Nat->Nat) (i:Z4) (wr:Z5):Prop:=
 ∃ j:Nat,j<=k/\i=Z9 .i64 j/\wr.rowIs b t N (tv (gH g F c off j))/\lY wr tb c/\(∀ i,i<k->wr.cell? ⟨fb,foff+i,Z7⟩=Z6 (Z9 .u8 ((F i:Nat):Int)))/\w.grownBy wr (Z6 b)
theorem Cq (g F:Nat->Nat) (c off j x:Nat):tv (gH g F c off (j+1)) x=if x=off+j then Z9 .u8 ((g (off+j)^^^gm c (F j):Nat):Int) else tv (gH g F c off j) x:=by
 unfold tv gH;by_cases h:x=off+j
 . subst h;rw [if_pos rfl,if_pos (by omega),Tu]
 . rw [if_neg h];by_cases a:off<=x/\x<off+j
   . rw [if_pos a,if_pos (by omega)]
   . rw [if_neg a,if_neg (by omega)]
theorem Cr (g F:Nat->Nat) (c off:Nat):gH g F c off 0=g:=by
 funext j;unfold gH;rw [if_neg (by omega)]
theorem Cs (g F:Nat->Nat) (off k:Nat):gH g F 0 off k=g:=by
 funext j;unfold gH;rw [Si,Nat.xor_zero];split<;>rfl
theorem pU {t:Nat} (h:lY w t c) {a:Addr} (b:t≠a.block) (v:Z4):lY (w.setCell a v) t c:=λj d=>by
 rw [<- h j d];exact World.cell?_of_block (blk_setCell_other _ _ _ _ b)
theorem mZ (w:Z5) {ops:Array Oper} {rest:List Oper} {o:Oper} {a:Act} {Q:Exit->Act->Z5->Prop} (h:o.guard=Z7) (x y:Operand) (ho:o.op=.store 223 x y)
 (g c:Nat) (cs old:Array Z4) (m:a.eval x=.pointer (Z6 ⟨g,0,Z7⟩)) (n:a.eval y=.agg cs) (f:w.heap[g]?=Z6 (.cells old 223 (0,0))) (hold:old.size=32) (d:cs.size=32) (b:∀ j,j<32->cs[j]?=Z6 (tv (qL c) j))
 (hK:∀ w2,lY w2 g c->w.grownBy w2 (Z6 g)->wpList Z2 ops Q rest (a.put o.dst undef) w2):wpList Z2 ops Q (o::rest) a w:=by
 refine wpList_store_row h 223 x y ho g cs m n 223 old f (by rw [Tryz.infoTable,d]) (by omega) (oW d b) (hK _ ?_ ?_)
 . intro j l;rw [cell_of_row _ g j cs 223 (0,0) (setRow_heap w g old cs _ _ f)];exact b j l
 . refine ⟨rfl,rfl,rfl,by simp,λk p i=>?_⟩;have:g≠k:=λe=>i (by rw [e]);simp [World.setRow,Array.getElem?_modify,this]
theorem jm (b t N off n cap l d q c:Nat) (g F:Nat->Nat) (w:Z5) (B:c<256) (z:w.rowIs b t N (tv g)) (M:∀ j,g j<256) (I:∀ j,F j<256) (hn:off+n<=N) (k5:n<=140737488355328)
 (S:∀ i,i<n->w.cell? ⟨l,d+i,Z7⟩=Z6 (Z9 .u8 ((F i:Nat):Int))) (k6:l≠b\/d+n<=off\/off+n<=d) :
 Z3 Z2 91 #[.slice (Z6 ⟨b,off,Z7⟩) n cap,.slice (Z6 ⟨l,d,Z7⟩) n q,Z9 .u8 c] w λe w'=>e=Z8 (.tuple #[])/\w'.rowIs b t N (tv (gH g F c off n))/\w.grownBy w' (Z6 b):=by
 by_cases G:c=0
 . subst G;go_enter Tryz.func91,Tryz.ntmps91;go_wp2;exact bodyPost_ret (v:=.tuple #[]) (by simp [results,Tryz.results91]) rfl ⟨rfl,by rw [Cs];exact z,World.grownBy.refl _ _⟩
 . have kc:((c:Int)==0)=false:=(by rw [beq_eq_false_iff_ne];omega);clear G;go_enter Tryz.func91,Tryz.ntmps91;go_wp2_with fail;refine (ln c B _).mono ?_;rintro e w1 ⟨cs,rfl,ka,H,o⟩;have k9:=o.size;go_wp2_with (refine mZ _ rfl (.tmp 6) (.tmp 11) rfl w1.heap.size c cs _ rfl rfl (heap_alloc_last w1 _) rfl ka H ?_;intro w2 L p);have O:b<w.heap.size:=z.lt;have h:w.grownBy w2 Z7:=by
    refine ⟨p.os.trans o.os,p.tape.trans o.tape,p.output.trans o.output,?_,λk D _=>?_⟩
    . have:=p.size;rw [nblk_alloc] at this;omega
    . rw [p.block k (by rw [nblk_alloc];omega) (by intro e;simp at e;omega),blk_alloc_lt _ _ _ (by omega),o.block k D]
   have U:w2.rowIs b t N (tv g):=z.of_block (h.block b O (by simp));have Q:∀ i,i<n->w2.cell? ⟨l,d+i,Z7⟩=Z6 (Z9 .u8 ((F i:Nat):Int)):=λi C=>by
    have:=S i C;exact h.cell this (by simp)
   have X:w.grownBy w2 (Z6 b):=⟨h.os,h.tape,h.output,h.size,λk D _=>h.block k D (by simp)⟩;have kb:w1.heap.size≠b:=(by omega);clear p h z S H o k9 O;go_loopw [17] (λi wr=>Ry w b t N off n c w1.heap.size l d g F i wr) (λi _=>n-(intOf i).toNat)
   case atStart=>exact ⟨0,Nat.zero_le _,rfl,by rw [Cr];exact U,L,Q,X⟩
   case round=>
    clear L Q X U;obtain ⟨j,P,rfl,r,s,u,A⟩:=hrel;by_cases k8:j<n
    . have c1:=r.cell (i:=off+j) (by omega);have f1:=r.frozen (off+j);have Z:=u j k8;have E:tv (gH g F c off j) (off+j)=Z9 .u8 ((g (off+j):Nat):Int):=(by unfold tv gH;rw [if_neg (by omega)]);rw [E] at c1;have V:=mT (g (off+j)) (gm c (F j)) (M _) (aU _ B);have W:=(r.set (off+j) (Z9 .u8 ((g (off+j)^^^gm c (F j):Nat):Int))).congr (λx _=>(Cq g F c off j x).symm);have K:=pU s (a:=⟨b,off+j,Z7⟩) kb (Z9 .u8 ((g (off+j)^^^gm c (F j):Nat):Int));have T:=eX A (off+j) (Z9 .u8 ((g (off+j)^^^gm c (F j):Nat):Int));have R:∀ i,i<n->(wr.setCell ⟨b,off+j,Z7⟩ (Z9 .u8 ((g (off+j)^^^gm c (F j):Nat):Int))).cell? ⟨l,d+i,Z7⟩=Z6 (Z9 .u8 ((F i:Nat):Int)):=λi C=>by
       rw [<- u i C];by_cases k0:l=b
       . exact World.cell?_setCell_other _ _ _ _ (by intro e;have h1:off+j=d+i:=congrArg Addr.off e;omega)
       . exact World.cell?_of_block (blk_setCell_other _ _ _ _ k0)
      have J:=I j;have f:=hide4 W K R T;have Y:=hide s;generalize F j=y at Z V J f;generalize g (off+j)=x at c1 V f;clear E W K T R r s u A M I;go_wp2;go_region_with ((go_at_call 134;refine (uT w1.heap.size c y B J _ (by exact λj P=>Y.out j P)).mono ?_;rintro e w' ⟨rfl,m,rfl⟩));all_goals
       go_wp2;go_roundw
       case rel=>exact ⟨j+1,by omega,by go_num,f.out.1,f.out.2.1,f.out.2.2.1,⟨f.out.2.2.2.os,f.out.2.2.2.tape,f.out.2.2.2.output,f.out.2.2.2.size,f.out.2.2.2.block⟩⟩
       case measure=>simp [intOf];omega
    . have k7:j=n:=(by omega);subst k7;clear s u;go_wp2;go_end0
      exact ⟨rfl,r,A⟩
end
def aJ (w:Z5):Prop:=∀ j,j<64->w.cell? ⟨1,j,Z7⟩=Z6 (Z9 .u8 ((Lib.deBruijn64tab.getD j 0:Nat):Int))
theorem aJ.mono {w':Z5} (h:aJ w) (a:1<B) (b:Below B w w'):aJ w':=λj c=>(b.cell (p:=⟨1,j,Z7⟩) a).trans (h j c)
theorem Ny (x a:Nat) (d:x<18446744073709551616) (e:x≠0) (c:x &&& (18446744073709551616-x)=a) :
 IntKind.u64.wrap (bits BinOp.and IntKind.u64 (x:Int) (IntKind.u64.wrap (-(x:Int)))*285870213051353865)/288230376151711744=((a*285870213051353865%18446744073709551616/288230376151711744:Nat):Int):=by
 have b:IntKind.u64.wrap (-(x:Int))=((18446744073709551616-x:Nat):Int):=by rw [IntKind.wrap_u64];omega
 rw [b,bits_and_u64_nat x _ d (by omega),c,IntKind.wrap_u64];omega
def nW (x:Nat):Nat:=Lib.ctzFrom 64 x
theorem rZ (a:x≠0) (b:x<65536):∃ m,x=2^nW x*(2*m+1)/\nW x<64:=Lib.ctzFrom_spec 64 x (by omega) (by omega)
theorem Lw (x k idx:Nat) (w:Z5) (b:((x:Int)==0)=false)
 (key:IntKind.u64.wrap (bits BinOp.and IntKind.u64 (x:Int) (IntKind.u64.wrap (-(x:Int)))*285870213051353865)/288230376151711744=(idx:Int))
 (c:idx<64) (d:k<64) (a:w.cell? ⟨1,idx,Z7⟩=Z6 (Z9 .u8 k)) :
 Z3 Z2 154 #[Z9 .u64 x] w λe w'=>e=Z8 (Z9 .i64 k)/\w'=w:=by
 go_enter Tryz.func154,Tryz.ntmps154;go_wp2_with (simp only [key]);go_ret;exact ⟨rfl,rfl⟩
theorem I2 (x:Nat) (a:x≠0) (j:x<65536) (w:Z5) (i:aJ w) :
 Z3 Z2 154 #[Z9 .u64 x] w λe w'=>e=Z8 (Z9 .i64 (nW x))/\w'=w:=by
 obtain ⟨m,f,d⟩:=rZ a j;have g:x &&& (18446744073709551616-x)=2^nW x:=by
  have:=Lib.and_neg 64 (nW x) m (by rw [<- f];omega);rw [<- f] at this;exact this
 obtain ⟨c,h⟩:=Lib.deBruijn64_at _ d;have b:=i _ c;rw [h] at b;exact Lw x _ _ w (by simp;omega) (Ny x _ (by omega) a g) c d b
theorem Ed (n:x≠0) (p:x<65536):x &&& (x-1)=bL x (nW x):=by
 obtain ⟨m,d,_⟩:=rZ n p;generalize nW x=k at d;have q:0<2^k:=To k;have o:2^(k+1)=2*2^k:=by rw [Nat.pow_succ];omega
 have f:x=2^(k+1)*m+2^k:=by rw [d,o,Nat.mul_add,Nat.mul_one,Nat.mul_comm 2 (2^k),Nat.mul_assoc]
 have g:x-1=2^(k+1)*m+(2^k-1):=by omega
 apply Tv;intro j;rw [Tw,g,lx];have h:=Tq m (i:=k+1) (b:=2^k) (by omega) j;have l:=Tq m (i:=k+1) (b:=2^k-1) (by omega) j;rw [l,f,h];by_cases a:j<k+1
 . rw [if_pos a,if_pos a,Tx,Ty];have c:decide (k<j)=false:=(by simp;omega);rw [c,Bool.false_and];by_cases e:k=j
   . simp [e]
   . simp [e]
 . rw [if_neg a,if_neg a];have c:decide (k<j)=true:=(by simp;omega);rw [c,Bool.true_and,Bool.and_self]
theorem qY (e:x≠0) (g:x<65536):x.testBit (nW x)=true/\∀ j,j<nW x->x.testBit j=false:=by
 obtain ⟨m,d,_⟩:=rZ e g;generalize nW x=k at d;have l:0<2^k:=To k;have f:2^(k+1)=2*2^k:=by rw [Nat.pow_succ];omega
 have a:x=2^(k+1)*m+2^k:=by rw [d,f,Nat.mul_add,Nat.mul_one,Nat.mul_comm 2 (2^k),Nat.mul_assoc]
 have c:=λj=>Tq m (i:=k+1) (b:=2^k) (by omega) j;constructor
 . rw [a,c,if_pos (by omega),Nat.testBit_two_pow_self]
 . intro j h;rw [a,c,if_pos (by omega),Tx];simp;omega
theorem CE (b:x≠0) (a:x<65536):nW x<16:=by
 refine Nat.lt_of_not_le λh=>?_;have:=Tz (x:=x) (i:=nW x) (Tr a (TA (n:=2) (by decide) h));rw [(qY b a).1] at this;cases this
theorem iw (b:x≠0) (c:x<65536):ae x=nW x::ae (bL x (nW x)):=by
 have h:nW x∈ae x:=bM.2 ⟨CE b c,(qY b c).1⟩;obtain ⟨pre,R,e⟩:=List.append_of_mem h;rw [zT e];have f:=pW x;rw [e] at f;cases pre with
 | nil=>exact e
 | cons a pre=>
  have g:=(List.pairwise_append.1 f).2.2 a (by simp) (nW x) (by simp);have d:=(bM.1 (show a∈ae x by rw [e];simp)).2;rw [(qY b c).2 a g] at d;cases d
theorem pe (x k:Nat) (a:x<65536):bL x k<65536:=by
 unfold bL;exact Nat.lt_of_le_of_lt (TB _ _) a
theorem vz:ae 0=[]:=by decide
def Ph (x:Nat):Nat:=(x/2 &&& 6148914691236517205)+(x &&& 6148914691236517205)
def Pi (x:Nat):Nat:=(x/4 &&& 3689348814741910323)+(x &&& 3689348814741910323)
def Qo (x:Nat):Nat:=(x/16+x) &&& 1085102592571150095
def sw (x:Nat):Nat:=Qo (Pi (Ph x))
def pb (b:Nat):Nat:=b%2+b/2%2+b/4%2+b/8%2+b/16%2+b/32%2+b/64%2+b/128%2
def P0 (n:Nat):Nat->Bool
 | 0=>true
 | k+1=>(sw (n*256+k)==pb n*256+pb k)&&P0 n k
def Nz:Nat->Bool
 | 0=>true
 | n+1=>P0 n 256&&Nz n
theorem Qp:Nz 256=true:=by decide +kernel
theorem I3:∀ {k},P0 n k=true->∀ j,j<k->sw (n*256+j)=pb n*256+pb j
 | 0,_,j,h=>absurd h (by omega)
 | k+1,h,j,hj=>by
  obtain ⟨a,b⟩:=TC.1 h;by_cases e:j=k
  . rw [e];exact eq_of_beq a
  . exact I3 b j (by omega)
theorem Ee:∀ {n},Nz n=true->∀ i,i<n->P0 i 256=true
 | 0,_,i,h=>absurd h (by omega)
 | n+1,h,i,hi=>by
  obtain ⟨a,b⟩:=TC.1 h;by_cases e:i=n
  . rw [e];exact a
  . exact Ee b i (by omega)
theorem Pj (a:x<65536):sw x=pb (x/256)*256+pb (x%256):=by
 have:=I3 (Ee Qp (x/256) (by omega)) (x%256) (by omega);rwa [show x/256*256+x%256=x by omega] at this
theorem NA (x i:Nat):(if x.testBit i=true then 1 else 0)=x/2^i%2:=by
 rw [Nat.testBit_eq_decide_div_mod_eq];by_cases h:x/2^i%2=1
 . simp [h]
 . have:=Nat.mod_two_eq_zero_or_one (x/2^i);simp [h];omega
theorem MO (b:Nat):pb b<=8:=by unfold pb;omega
theorem I4 (x:Nat):(ae x).length=pb (x/256)+pb (x%256):=by
 have h:∀ n,((Tn n).filter (λi=>x.testBit i)).length=((Tn n).map (λi=>x/2^i%2)).sum:=by
  intro n;induction n with
  | zero=>rfl
  | succ n ih=>
   rw [List.range_succ,List.filter_append,List.length_append,ih,List.map_append,List.sum_append];have e:=NA x n;have m:([n].map (λi=>x/2^i%2)).sum=x/2^n%2:=(by simp);rw [m,<- e];by_cases e:x.testBit n=true
   . simp [e]
   . simp [e]
 unfold ae pb;rw [h];have a:Tn 16=[0,1,2,3,4,5,6,7,8,9,10,11,12,13,14,15]:=by decide
 rw [a];simp only [TD,List.map_nil,List.sum_cons,List.sum_nil,Nat.reducePow,Nat.div_one];have b:x%256%2=x%2:=by omega
 have c:x%256/2%2=x/2%2:=by omega
 have d:x%256/4%2=x/4%2:=by omega
 have f:x%256/8%2=x/8%2:=by omega
 have g:x%256/16%2=x/16%2:=by omega
 have j:x%256/32%2=x/32%2:=by omega
 have k:x%256/64%2=x/64%2:=by omega
 have l:x%256/128%2=x/128%2:=by omega
 rw [b,c,d,f,g,j,k,l];clear b c d f g j k l h a;simp only [Nat.div_div_eq_div_mul,Nat.reduceMul];generalize x%2=o;generalize x/2%2=p;generalize x/4%2=q;generalize x/8%2=r;generalize x/16%2=s;generalize x/32%2=t;generalize x/64%2=u;generalize x/128%2=v;generalize x/256%2=b0;generalize x/512%2=b1;generalize x/1024%2=b2;generalize x/2048%2=b3;generalize x/4096%2=w;generalize x/8192%2=y;generalize x/16384%2=z;generalize x/32768%2=A;omega
theorem zY (h:k<64):2^k<18446744073709551616:=Tr (Nat.pow_lt_pow_right (by decide) h) lR
theorem Fx (k:Nat) (h:k<=16):IntKind.u64.wrap (IntKind.u64.wrap (2^k)-1)=((2^k-1:Nat):Int):=by
 have a:=zY (k:=k) (by omega);have b:0<2^k:=To k;have e:((2:Int)^k)=((2^k:Nat):Int):=by rw [Int.natCast_pow];rfl
 rw [e,IntKind.wrap_u64,IntKind.wrap_u64];omega
theorem l9 (k:Nat) (a:k<=16) (w:Z5) :
 Z3 Z2 113 #[Z9 .i64 k] w λe w'=>e=Z8 (Z9 .u64 ((2^k-1:Nat):Int))/\w'=w:=by
 have key:=Fx k a;go_enter Tryz.func113,Tryz.ntmps113;go_wp2;go_ret;exact ⟨rfl,rfl⟩
theorem fW (a b:Nat) (c:a<18446744073709551616) (d:b<18446744073709551616):bits .and .u64 (a:Int) (b:Int)=((a &&& b:Nat):Int):=bits_and_u64_nat a b c d
theorem k1 (x:Nat) (h:x<65536):IntKind.u64.wrap (bits .and .u64 ((x:Int)/2) 6148914691236517205+bits .and .u64 (x:Int) 6148914691236517205)=((Ph x:Nat):Int)/\Ph x<131072:=by
 have e:(x:Int)/2=((x/2:Nat):Int):=by omega
 have d:=fW (x/2) 6148914691236517205 (by omega) (by decide);have f:=fW x 6148914691236517205 (by omega) (by decide);have b1:=Tp (n:=x/2) (m:=6148914691236517205);have b2:=Tp (n:=x) (m:=6148914691236517205);unfold Ph;rw [e];refine ⟨?_,by omega⟩;have c:bits .and .u64 ((x/2:Nat):Int) 6148914691236517205=((x/2 &&& 6148914691236517205:Nat):Int):=d;have g:bits .and .u64 (x:Int) 6148914691236517205=((x &&& 6148914691236517205:Nat):Int):=f;rw [c,g,IntKind.wrap_u64];generalize (x/2 &&& 6148914691236517205)=a at *;generalize (x &&& 6148914691236517205)=b at *;omega
theorem k2 (x:Nat) (h:x<131072):IntKind.u64.wrap (bits .and .u64 ((x:Int)/4) 3689348814741910323+bits .and .u64 (x:Int) 3689348814741910323)=((Pi x:Nat):Int)/\Pi x<262144:=by
 have e:(x:Int)/4=((x/4:Nat):Int):=by omega
 have d:=fW (x/4) 3689348814741910323 (by omega) (by decide);have f:=fW x 3689348814741910323 (by omega) (by decide);have b1:=Tp (n:=x/4) (m:=3689348814741910323);have b2:=Tp (n:=x) (m:=3689348814741910323);unfold Pi;rw [e];refine ⟨?_,by omega⟩;have c:bits .and .u64 ((x/4:Nat):Int) 3689348814741910323=((x/4 &&& 3689348814741910323:Nat):Int):=d;have g:bits .and .u64 (x:Int) 3689348814741910323=((x &&& 3689348814741910323:Nat):Int):=f;rw [c,g,IntKind.wrap_u64];generalize (x/4 &&& 3689348814741910323)=a at *;generalize (x &&& 3689348814741910323)=b at *;omega
theorem k3 (x:Nat) (a:x<262144):bits .and .u64 (IntKind.u64.wrap ((x:Int)/16+(x:Int))) 1085102592571150095=((Qo x:Nat):Int):=by
 have e:IntKind.u64.wrap ((x:Int)/16+(x:Int))=((x/16+x:Nat):Int):=by rw [IntKind.wrap_u64];omega
 rw [e];exact fW (x/16+x) 1085102592571150095 (by omega) (by decide)
theorem k4 (x c:Nat) (a:x<1048576):IntKind.u64.wrap ((x:Int)+(x:Int)/(c:Int))=((x+x/c:Nat):Int):=by
 have:=Nat.div_le_self x c;have e:(x:Int)/(c:Int)=((x/c:Nat):Int):=(Int.natCast_ediv x c).symm;rw [IntKind.wrap_u64,e];generalize x/c=d at *;omega
theorem NC (x:Nat):x &&& 127=x%128:=Nat.and_two_pow_sub_one_eq_mod x 7
theorem I5 (x:Nat) (u:x<65536) (w:Z5) :
 Z3 Z2 210 #[Z9 .u64 x] w λe w'=>e=Z8 (Z9 .i64 ((ae x).length:Nat))/\w'=w:=by
 obtain ⟨g,b1⟩:=k1 x u;obtain ⟨h,b2⟩:=k2 _ b1;have a:=k3 _ b2;have t:=Pj u;have v:=MO (x/256);have y:=MO (x%256);have s:=I4 x;have e:Qo (Pi (Ph x))=pb (x/256)*256+pb (x%256):=t;generalize pb (x/256)=p at *;generalize pb (x%256)=q at *;have b:=k4 (p*256+q) 256 (by omega);have n:p*256+q+(p*256+q)/256=p*257+q:=by omega
 have c:=k4 (p*257+q) 65536 (by omega);have o:p*257+q+(p*257+q)/65536=p*257+q:=by rw [TE (by omega),Nat.add_zero]
 have d:=k4 (p*257+q) 4294967296 (by omega);have r:p*257+q+(p*257+q)/4294967296=p*257+q:=by rw [TE (by omega),Nat.add_zero]
 rw [n] at b;rw [o] at c;rw [r] at d;have f:=Lc (p*257+q) 127 (by omega) (by decide);rw [NC,show (p*257+q)%128=p+q by omega,<- s] at f;have i:wrap64 ((p*257+q:Nat):Int)=((p*257+q:Nat):Int):=by unfold wrap64;omega
 rw [e] at a;clear e t s n o r;have H:=hide8 g h a b c d f i;clear g h a b c d f i;go_enter Tryz.func210,Tryz.ntmps210;go_wp2;obtain ⟨g,h,a,b,c,d,f,i⟩:=H.out;simp only [g];simp only [h];simp only [a];have j:IntKind.u64.wrap (((p*256+q:Nat):Int)+((p*256+q:Nat):Int)/256)=((p*257+q:Nat):Int):=b;have k:IntKind.u64.wrap (((p*257+q:Nat):Int)+((p*257+q:Nat):Int)/65536)=((p*257+q:Nat):Int):=c;have l:IntKind.u64.wrap (((p*257+q:Nat):Int)+((p*257+q:Nat):Int)/4294967296)=((p*257+q:Nat):Int):=d;have m:bits .and .i64 ((p*257+q:Nat):Int) 127=(((ae x).length:Nat):Int):=f;simp only [j,k,l,i,m];go_ret;exact ⟨rfl,rfl⟩
theorem zZ (x:Nat) (a:x<65536) (w:Z5) :
 Z3 Z2 206 #[Z9 .u64 x] w λe w'=>e=Z8 (Z9 .i64 ((ae x).length:Nat))/\w'=w:=by
 go_enter Tryz.func206,Tryz.ntmps206;go_wp2_with fail;refine (I5 x a _).mono ?_;rintro e w' ⟨rfl,rfl⟩;go_wp2;go_ret;exact ⟨rfl,rfl⟩
theorem CG (x k:Nat) (c:x<65536) (f:k<=16):bits .andNot .u64 (x:Int) ((2^k-1:Nat):Int)=((x/2^k*2^k:Nat):Int):=by
 have d:=zY (k:=k) (by omega);have e:0<2^k:=To k;have h:=u64_andNot_nat x (2^k-1) (by omega) (by omega);rw [h];congr 1;apply Tv;intro j;rw [Tw,Nat.testBit_mul_two_pow,show 18446744073709551615-(2^k-1)=2^64-(2^k-1+1) by omega,Nat.testBit_two_pow_sub_succ (by omega),Ty,Nat.testBit_div_two_pow];by_cases a:k<=j
 . rw [show j-k+k=j by omega];by_cases b:j<64
   . simp [a,b,show ¬ j<k by omega]
   . have:x.testBit j=false:=Tz (Tr c (TA (n:=2) (i:=16) (by decide) (by omega)));simp [this]
 . simp [a,show j<k by omega]
theorem CH (x k:Nat) (a:x<65536) (c:k<16) (w:Z5) :
 Z3 Z2 214 #[Z9 .u64 x,Z9 .i64 k] w λe w'=>e=Z8 (Z9 .u64 (bL x k:Nat))/\w'=w:=by
 have key:=CG x (k+1) a (by omega);have d:wrap64 ((k:Int)+1)=((k+1:Nat):Int):=by unfold wrap64;omega
 have b:IntKind.i64.wrap ((k:Int)+1)=((k+1:Nat):Int):=by rw [IntKind.wrap_i64];omega
 have H:=hide key;clear key;go_enter Tryz.func214,Tryz.ntmps214;go_wp2_with fail;refine (l9 (k+1) (by omega) _).mono ?_;rintro e w' ⟨rfl,rfl⟩;go_wp2;rw [H.out];go_ret;exact ⟨rfl,rfl⟩
section
open Go.Shelf
attribute [local go_sem] Oper.semAt_some
theorem nX (b:q≠0) (c:q<65536):bL q (nW q)<q:=by
 refine Nat.lt_of_le_of_ne (TB _ _) λe=>?_;have a:=lx q (nW q) (nW q);rw [e,(qY b c).1] at a;simp at a
abbrev Sh:={ x:Nat // x<16 }
def pY (x:Sh):Array Z4:=#[Z9 .i64 (x.1:Int)]
def P2 (s:Nat):List Sh:=(ae s).filterMap (λi=>if h:i<16 then Z6 ⟨i,h⟩ else Z7)
theorem Ly (s:Nat):(P2 s).map (·.1)=ae s:=by
 unfold P2;have h:∀ L:List Nat,(∀ i∈L,i<16)->(L.filterMap (λi=>if h:i<16 then Z6 (⟨i,h⟩:Sh) else Z7)).map (·.1)=L:=by
  intro L;induction L with
  | nil=>intro _;rfl
  | cons a L ih=>
   intro d;have e:=d a List.mem_cons_self;rw [List.filterMap_cons_some (b:=(⟨a,e⟩:Sh)) (by simp [e]),TD,ih (λi c=>d i (List.mem_cons_of_mem _ c))]
 exact h _ (λi c=>(bM.1 c).1)
theorem dy (s:Nat) (w:Z5) :
 Z3 Z2 129 #[Z9 .u64 s] w λe w'=>e=Z8 (.func (.func 153) #[] #[.pointer (Z6 ⟨w.heap.size,0,Z7⟩)])/\w'=w.alloc (.cells #[Z9 .u64 s] 124):=by
 go_enter Tryz.func129,Tryz.ntmps129;go_wp2;go_ret;exact ⟨rfl,rfl⟩
theorem z6 (n:Nat) (l Bs s:Nat) (A:s<65536) (J g:List Sh->Z5->Prop)
 (y:∀ pre x W,J pre W->pre.length<(ae s).length->YieldAt Fence.wide (n-1) Z2 l (pY x) W λe c=>
  (e=Z8 (.bool true)/\J (pre++[x]) c/\(aJ W->aJ c))\/(e=Z8 (.bool false)/\g (pre++[x]) c))
 (W:Z5) (F:W.cell? ⟨Bs,0,Z7⟩=Z6 (Z9 .u64 s)) (w:aJ W) (m:J [] W) :
 CallsIn Fence.wide n Z2 153 #[.func (.yield l) #[] #[],.pointer (Z6 ⟨Bs,0,Z7⟩)] W λe c=>(∃ v,e=Z8 v) /\
  ((∃ k,k.map (·.1)=ae s/\J k c)\/(∃ pre,pre.map (·.1)<+:ae s/\g pre c)):=by
 refine callsIn_of_wp Tryz.func153 rfl trivial ?_ rfl;simp only [Tryz.ntmps153,Tt,List.length_cons,List.length_nil,Nat.reduceAdd,Nat.reduceSub,Array.replicate_succ,Array.replicate_zero,List.push_toArray,List.append_toArray,List.nil_append,List.cons_append];gi_wp2;gi_loopw [3] (λp wr=>∃ (pre:List Sh) (q:Nat),p=Z9 .u64 q/\q<65536/\ae s=pre.map (·.1)++ae q/\J pre wr/\aJ wr)
  (λp _=>(intOf p).toNat)
 case atStart=>
  exact ⟨[],s,rfl,A,rfl,m,w⟩
 case round=>
  obtain ⟨pre,q,rfl,b,d,i,j⟩:=hrel;by_cases a:q=0
  . subst a;gi_wp2;go_end0
    exact ⟨⟨_,rfl⟩,.inl ⟨pre,by rw [d,vz,List.append_nil],i⟩⟩
  . have E:((q:Int) != 0)=true:=(by simp;omega);have f:=CE a b;obtain ⟨D,tmps,assign,body,B,u⟩:=y pre ⟨nW q,f⟩ wr i (by rw [d,iw a b];simp);unfold pY at B;gi_wp2;refine cV (I2 q a b wr j) ?_;rintro e w' ⟨rfl,rfl⟩;gi_wp2;refine ⟨λh=>(by cases h),u.mono ?_⟩;rintro e C (⟨rfl,r,t⟩|⟨rfl,o⟩)
    . have G:IntKind.u64.wrap ((q:Int)-1)=((q-1:Nat):Int):=(by rw [IntKind.wrap_u64];omega);have z:=fW q (q-1) (by omega) (by omega);rw [Ed a b] at z;gi_wp2;go_roundw
      case rel=>exact ⟨pre++[⟨nW q,f⟩],bL q (nW q),rfl,pe _ _ b,by rw [d,iw a b];simp,r,t j⟩
      case measure=>have:=nX a b;simp only [intOf];omega
    . gi_wp2;refine bodyPost_ret (results_none rfl _ _ _) rfl ?_;exact ⟨⟨_,rfl⟩,.inr ⟨pre++[⟨nW q,f⟩],by rw [d,iw a b];simp,o⟩⟩
def Ef (W W':Z5):Prop:=aJ W->aJ W'
theorem pZ {A B C:Z5} (h:Ef A B) (k:Ef B C):Ef A C:=λx=>k (h x)
theorem ql (d:3<=w.heap.size) (W:Z5) (l:Nat) (o b:Obj) (c:w.heap.size<=l) (h:W.heap[l]?=Z6 o) (_:o.isCells=false) (_:o.isWalk=false):Ef W (W.putObj l b):=λa=>
 a.mono (B:=3) (by decide) (Below.putObj' (Below.refl _ W) (by omega) (Array.getElem?_eq_some_iff.1 h).1 _)
theorem Ef.of_below {W W':Z5} (b:3<=B) (h:Below B W W'):Ef W W':=λa=>a.mono (by omega) h
theorem Ef.refl (W:Z5):Ef W W:=λh=>h
theorem eK (n Bs s:Nat) (h:s<65536) (w:Z5) (d:Bs<w.heap.size) (g:w.cell? ⟨Bs,0,Z7⟩=Z6 (Z9 .u64 s)) (j:3<=w.heap.size) (e:aJ w) :
 SeqStopsK Fence.wide n Z2 153 #[.pointer (Z6 ⟨Bs,0,Z7⟩)] pY Ef (λi=>i.map (·.1)=ae s) (λpre=>pre.map (·.1)<+:ae s) (ae s).length w:=λl J b W a _ _ f c=>
 z6 n l Bs s h J b f W ((a.cell (p:=⟨Bs,0,Z7⟩) d).trans g) (e.mono (by omega) a) c
end
end Go.Proofs.YtfbmmcnpjhmjaaaGreatDoor
