import Derived.Test.YtfbmmcnpjhmjaaaGreatDoorM03
import Derived.Deep.WholeRow
import Derived.Lib.SliceRun
set_option maxRecDepth 100000
set_option maxHeartbeats 8000000
open Go.IntKind renaming i64 -> Z9
open Go.Value renaming int -> Z8, slice -> Z7
open Go.Obj renaming cells -> Z6
open Go.Ending renaming returned -> Z5
open Option renaming none -> Z4, some -> Z3
open Go renaming World -> Z2, Value -> Z1
open Go.RowKit renaming Below -> Z0
open List renaming replicate -> Tm, eq_nil_of_length_eq_zero -> To, getElem?_eq_getElem -> Tp
open Nat renaming add_sub_cancel_left -> Tn
open Go.Proofs.Tryz renaming prog -> ZZ
namespace Go.Proofs.YtfbmmcnpjhmjaaaGreatDoor
open Go.RowKit Go.Deep
variable {kk:IntKind} {D:List (List Nat)} {gone:Nat} {t:TypeId} {v x y:Z1} {w w':Z2}
structure St where
 k:Nat
 a:Int
 b:Int
 c:Nat
def FQ (kk:IntKind) (s:St):List Z1:=[.int kk s.k,Z8 Z9 s.a,Z8 Z9 s.b,Z8 .u8 s.c]
def xQ (s:St):Prop:=s.k<256/\-9223372036854775808<=s.a/\s.a<=9223372036854775807/\-9223372036854775808<=s.b/\s.b<=9223372036854775807/\s.c<256
def Ps (kk:IntKind) (w:Z2) (v:Z1) (P:List St):Prop:=
 ∃ ao c,v=.slice ao P.length c/\P.length<=4398046511104/\(P≠[]->∃ b off,ao=Z3 ⟨b,off,Z4⟩/\∀ i (hi:i<P.length),
  w.cell? ⟨b,off+i*4,Z4⟩=Z3 (.int kk P[i].k)/\w.cell? ⟨b,off+i*4+1,Z4⟩=Z3 (Z8 Z9 P[i].a)/\w.cell? ⟨b,off+i*4+2,Z4⟩=Z3 (Z8 Z9 P[i].b)/\w.cell? ⟨b,off+i*4+3,Z4⟩=Z3 (Z8 .u8 P[i].c))
theorem Ps.mono {P:List St} (h:Ps kk w v P) (a:Z0 w.heap.size w w'):Ps kk w' v P:=by
 obtain ⟨j,c,k,l,m⟩:=h;refine ⟨j,c,k,l,λn=>?_⟩;obtain ⟨b,off,e,o⟩:=m n;refine ⟨b,off,e,λi p=>?_⟩;obtain ⟨d,c1,f,g⟩:=o i p;exact ⟨by rw [a.cell (block_lt_of_cell d)];exact d,by rw [a.cell (block_lt_of_cell c1)];exact c1,by rw [a.cell (block_lt_of_cell f)];exact f,by rw [a.cell (block_lt_of_cell g)];exact g⟩
theorem Ps.cases {P:List St} (h:Ps kk w v P):(P=[]/\∃ d c,v=.slice d 0 c)\/∃ b off c,v=Z7 (Z3 ⟨b,off,Z4⟩) P.length c/\P.length<=4398046511104/\∀ i (m:i<P.length),
 w.cell? ⟨b,off+i*4,Z4⟩=Z3 (.int kk P[i].k)/\w.cell? ⟨b,off+i*4+1,Z4⟩=Z3 (Z8 Z9 P[i].a)/\w.cell? ⟨b,off+i*4+2,Z4⟩=Z3 (Z8 Z9 P[i].b)/\w.cell? ⟨b,off+i*4+3,Z4⟩=Z3 (Z8 .u8 P[i].c):=by
 obtain ⟨d,c,e,g,j⟩:=h;by_cases f:P=[]
 . subst f;exact .inl ⟨rfl,d,c,e⟩
 . obtain ⟨b,off,rfl,l⟩:=j f;exact .inr ⟨b,off,c,e,g,l⟩
theorem Ps.slice {P:List St} (h:Ps kk w v P):∃ a c,v=.slice a P.length c:=by
 obtain ⟨a,c,b,_⟩:=h;exact ⟨a,c,b⟩
def iA (s:St) (regs shards:Int):Prop:=(s.k=0\/s.k=2)/\0<=s.a/\s.a<regs/\0<=s.b/\s.b<shards\/s.k=1/\0<=s.a/\s.a<regs/\0<=s.b/\s.b<regs/\s.a≠s.b
def xR (regs:Int) (P:List St):Prop:=0<=regs/\regs<=32/\P.length<=2000
def iB (regs:Int) (P:List St) (shards:Int):Prop:=xR regs P/\∀ i (hi:i<P.length),iA P[i] regs shards
def Ra (p:Prop) (w:Z2) (r:Ending) (w':Z2):Prop:=∃ b:Bool,r=Z5 (.bool b)/\(b=true↔p)/\Z0 w.heap.size w w'
def Qv (p:Prop) (w:Z2) (r:Ending) (w':Z2):Prop:=∃ b:Bool,r=Z5 (.bool b)/\(b=true↔p)/\w'=w
def zi (n e:Int):Prop:=0<=n/\n<e
theorem su (n e:Int) (w:Z2) :
 Calls ZZ 200 #[Z8 Z9 n,Z8 Z9 e] w λr w'=>Qv (zi n e) w r w':=by
 by_cases a:0<=n
 . go_enter Tryz.func200,Tryz.ntmps200;go_wp2;go_ret;exact ⟨_,rfl,by unfold zi;simp [a],rfl⟩
 . go_enter Tryz.func200,Tryz.ntmps200;go_wp2;go_ret;exact ⟨_,rfl,by unfold zi;simp;omega,rfl⟩
theorem eU (n e:Int) (h:zi n e) (w:Z2) :
 Calls ZZ 200 #[Z8 Z9 n,Z8 Z9 e] w λr w'=>r=Z5 (.bool true)/\w'=w:=by
 refine (su n e w).mono ?_;rintro r w' ⟨b,rfl,a,rfl⟩;exact ⟨by rw [a.2 h],rfl⟩
theorem jM (n e:Int) (h:¬ zi n e) (w:Z2) :
 Calls ZZ 200 #[Z8 Z9 n,Z8 Z9 e] w λr w'=>r=Z5 (.bool false)/\w'=w:=by
 refine (su n e w).mono ?_;rintro r w' ⟨b,rfl,a,rfl⟩;cases b
 . exact ⟨rfl,rfl⟩
 . exact absurd (a.1 rfl) h
theorem Ak (a:Int) (v:Z1) (P:List St) (w:Z2) (h:Ps .u8 w v P) :
 Calls ZZ 189 #[.agg #[Z8 Z9 a,v]] w λr w'=>Ra (xR a P) w r w':=by
 obtain ⟨g,c,rfl⟩:=h.slice;clear h;have f:Z0 w.heap.size w (w.alloc (Z6 #[Z8 Z9 a,.slice g P.length c] 210)):=bA _ _;by_cases d:zi a 33
 . have b:=hide d;clear d;go_enter Tryz.func189,Tryz.ntmps189;go_wp2_with (go_at_call 200;refine (eU _ _ b.out _).mono ?_;rintro e w' ⟨rfl,rfl⟩);go_ret;refine ⟨_,rfl,?_,f⟩;have:=b.out;unfold zi at this;unfold xR;simp;omega
 . have b:=hide d;clear d;go_enter Tryz.func189,Tryz.ntmps189;go_wp2_with (go_at_call 200;refine (jM _ _ b.out _).mono ?_;rintro e w' ⟨rfl,rfl⟩);go_ret;refine ⟨_,rfl,?_,f⟩;have:=b.out;unfold zi at this;unfold xR;simp;omega
theorem FR (s:St) (g d:Int) (w:Z2) :
 Calls ZZ 190 #[.agg #[Z8 .u8 s.k,Z8 Z9 s.a,Z8 Z9 s.b,Z8 .u8 s.c],Z8 Z9 g,Z8 Z9 d] w λr w'=>Ra (iA s g d) w r w':=by
 obtain ⟨k,a,b,c⟩:=s;have l:Z0 w.heap.size w (w.alloc (Z6 #[Z8 .u8 k,Z8 Z9 a,Z8 Z9 b,Z8 .u8 c] 284)):=bA _ _;by_cases m:k=0\/k=2
 . by_cases h:zi a g
   . by_cases j:zi b d
     . have f:=hide h;have i:=hide j;clear h j;rcases m with rfl|rfl;all_goals
        go_enter Tryz.func190,Tryz.ntmps190;go_wp2_with fail;refine (eU _ _ f.out _).mono ?_;rintro e w' ⟨rfl,rfl⟩;go_wp2_with fail;refine (eU _ _ i.out _).mono ?_;rintro e w' ⟨rfl,rfl⟩;go_wp2;go_ret;refine ⟨_,rfl,?_,l⟩;have:=f.out;have:=i.out;unfold zi at *;unfold iA;simp;omega
     . have f:=hide h;have i:=hide j;clear h j;rcases m with rfl|rfl;all_goals
        go_enter Tryz.func190,Tryz.ntmps190;go_wp2_with fail;refine (eU _ _ f.out _).mono ?_;rintro e w' ⟨rfl,rfl⟩;go_wp2_with fail;refine (jM _ _ i.out _).mono ?_;rintro e w' ⟨rfl,rfl⟩;go_wp2;go_ret;refine ⟨_,rfl,?_,l⟩;have:=f.out;have:=i.out;unfold zi at *;unfold iA;simp;omega
   . have f:=hide h;clear h;rcases m with rfl|rfl;all_goals
      go_enter Tryz.func190,Tryz.ntmps190;go_wp2_with (go_at_call 200;refine (jM _ _ f.out _).mono ?_;rintro e w' ⟨rfl,rfl⟩);go_ret;refine ⟨_,rfl,?_,l⟩;have:=f.out;unfold zi at *;unfold iA;simp;omega
 . by_cases k1:k=1
   . subst k1;clear m;by_cases h:zi a g
     . by_cases j:zi b g
       . have f:=hide h;have i:=hide j;clear h j;go_enter Tryz.func190,Tryz.ntmps190;go_wp2_with fail;refine (eU _ _ f.out _).mono ?_;rintro e w' ⟨rfl,rfl⟩;go_wp2_with fail;refine (eU _ _ i.out _).mono ?_;rintro e w' ⟨rfl,rfl⟩;go_wp2;go_ret;refine ⟨_,rfl,?_,l⟩;have:=f.out;have:=i.out;unfold zi at *;unfold iA;simp;omega
       . have f:=hide h;have i:=hide j;clear h j;go_enter Tryz.func190,Tryz.ntmps190;go_wp2_with fail;refine (eU _ _ f.out _).mono ?_;rintro e w' ⟨rfl,rfl⟩;go_wp2_with fail;refine (jM _ _ i.out _).mono ?_;rintro e w' ⟨rfl,rfl⟩;go_wp2;go_ret;refine ⟨_,rfl,?_,l⟩;have:=f.out;have:=i.out;unfold zi at *;unfold iA;simp;omega
     . have f:=hide h;clear h;go_enter Tryz.func190,Tryz.ntmps190;go_wp2_with (go_at_call 200;refine (jM _ _ f.out _).mono ?_;rintro e w' ⟨rfl,rfl⟩);go_ret;refine ⟨_,rfl,?_,l⟩;have:=f.out;unfold zi at *;unfold iA;simp;omega
   . have p:((k:Int)==0)=false:=(by rw [beq_eq_false_iff_ne];omega);have q:((k:Int)==1)=false:=(by rw [beq_eq_false_iff_ne];omega);have t:((k:Int)==2)=false:=(by rw [beq_eq_false_iff_ne];omega);have n:=hide m;have o:=hide k1;clear m k1;go_enter Tryz.func190,Tryz.ntmps190;go_wp2;go_ret;refine ⟨_,rfl,?_,l⟩;have:=n.out;have:=o.out;unfold iA;simp;omega
def NP (regs:Int) (P:List St) (shards:Int) (w:Z2) (r:Ending) (w':Z2):Prop:=(iB regs P shards->r=Z5 .nilIface)/\(¬ iB regs P shards->r=Z5 (.iface 66 (Z8 Z9 4)))/\Z0 w.heap.size w w'
def RO (w:Z2) (regs shards:Int) (P:List St) (i:Z1) (wr:Z2):Prop:=∃ k:Nat,k<=P.length/\i=Z8 Z9 k/\(∀ j (hj:j<P.length),j<k->iA P[j] regs shards)/\Z0 w.heap.size w wr
theorem Pw {n:Nat} (h:Z0 (n+1) (w.alloc (Z6 #[x,y] t)) w') (a:n=w.heap.size):w'.cell? ⟨n,0,Z4⟩=Z3 x/\w'.cell? ⟨n,1,Z4⟩=Z3 y:=by
 subst a;constructor
 . rw [h.cell (by simp)];simp
 . rw [h.cell (by simp)];simp
theorem FS (f d:Int) (v:Z1) (P:List St) (w:Z2) (h:Ps .u8 w v P) :
 Calls ZZ 170 #[.agg #[Z8 Z9 f,v],Z8 Z9 d] w λr w'=>NP f P d w r w':=by
 have o:Z0 w.heap.size w (w.alloc (Z6 #[Z8 Z9 f,v] 210)):=bA _ _;have z:=h.mono o;obtain ⟨Z,c,rfl⟩:=h.slice;go_enter Tryz.func170,Tryz.ntmps170;go_wp2_with fail;refine (Ak f _ P _ z).mono ?_;rintro r w1 ⟨b,rfl,q,m⟩;rw [nblk_alloc] at m;obtain ⟨M,N⟩:=Pw m rfl;have W:=m.size;rw [nblk_alloc] at W;have n:=o.trans (m.mono (by omega));cases b
 . have O:=hide (show ¬ iB f P d from λl=>by have:=q.2 l.1;simp at this);clear q m z h o;go_wp2;go_ret;exact ⟨λl=>absurd l O.out,λ_=>rfl,n⟩
 . have H:=hide (q.1 rfl);have A:=h.mono n;clear q m z o h;rcases A.cases with ⟨rfl,Q,R,e⟩|⟨b,off,R,e,_,s⟩
   . simp at e;obtain ⟨rfl,rfl⟩:=e;clear A;go_wp2;refine wp_loop_rounds 1 ?_;rw [rounds_succ];go_wp2;go_ret;exact ⟨λ_=>rfl,λl=>absurd ⟨H.out,λi t=>by simp at t⟩ l,n⟩
   . simp at e;obtain ⟨rfl,rfl⟩:=e;clear A;go_wp2;go_loopw [14] (λi wr=>RO w1 f d P i wr) (λi _=>P.length-(intOf i).toNat)
     case atStart=>exact ⟨0,Nat.zero_le _,rfl,λj _ E=>absurd E (by omega),Below.refl _ _⟩
     case round=>
      rename Z2=>wo;obtain ⟨k,hk,rfl,p,g⟩:=hrel;have F:=(g.cell (block_lt_of_cell M)).trans M;have X:=(g.cell (block_lt_of_cell N)).trans N;by_cases L:k<P.length
      . obtain ⟨u,c1,x,y⟩:=s k L;have S:=(g.cell (block_lt_of_cell u)).trans u;have d1:=(g.cell (block_lt_of_cell c1)).trans c1;have T:=(g.cell (block_lt_of_cell x)).trans x;have U:=(g.cell (block_lt_of_cell y)).trans y;have Y:=hide s;have C:=hide p;clear s p u c1 x y;have G:=(((Below.refl wo.heap.size wo).alloc lR (Z6 #[Z8 .u8 P[k].k,Z8 Z9 P[k].a,Z8 Z9 P[k].b,Z8 .u8 P[k].c] 284)).cell (block_lt_of_cell F)).trans F;have I:=g.alloc g.size (Z6 #[Z8 .u8 P[k].k,Z8 Z9 P[k].a,Z8 Z9 P[k].b,Z8 .u8 P[k].c] 284);have hq:=g.size;go_wp2_with fail;refine (FR P[k] f d _).mono ?_;rintro r w2 ⟨b2,rfl,K,D⟩;rw [nblk_alloc] at D;have J:=I.trans (D.mono (by omega));have B:=hide K;clear D K S d1 T U F X G g I;cases b2
        . go_wp2;go_ret;exact ⟨λl=>absurd (B.out.2 (l.2 k L)) (by simp),λ_=>rfl,n.trans (J.mono (by omega))⟩
        . go_wp2;go_roundw
          case rel=>
           refine ⟨k+1,by omega,by go_num,λj E hn=>?_,J⟩;by_cases e:j=k
           . subst e;first|exact B.out.1 rfl|exact B.out.1 trivial
           . exact C.out j E (by omega)
          case measure=>simp [intOf];omega
      . have V:k=P.length:=(by omega);subst V;have C:=hide p;clear s p;go_wp2;go_ret;exact ⟨λ_=>rfl,λl=>absurd ⟨H.out,λi t=>C.out i t t⟩ l,n.trans (g.mono (by omega))⟩
def eH (kk:IntKind):List St->List Z1
 | []=>[]
 | s::P=>FQ kk s++eH kk P
theorem qw (kk:IntKind):∀ P Q,eH kk (P++Q)=eH kk P++eH kk Q
 | [],_=>rfl
 | s::P,Q=>by simp [eH,qw kk P Q]
theorem Ek (kk:IntKind):∀ (P:List St) (i:Nat) (b:i<P.length) (j:Nat),j<4->(eH kk P)[i*4+j]?=(FQ kk P[i])[j]?
 | s::P,0,_,j,a=>by
  simp only [eH,Nat.zero_mul,Nat.zero_add,List.getElem_cons_zero];rw [List.getElem?_append_left (by simpa [FQ] using a)]
 | s::P,i+1,b,j,a=>by
  have e:(i+1)*4+j=(FQ kk s).length+(i*4+j):=by simp [FQ];omega
  simp only [eH,List.getElem_cons_succ];rw [e,List.getElem?_append_right (Nat.le_add_right _ _),Tn];exact Ek kk P i (by simpa using b) j a
theorem Al (w:Z2) (n:Nat) (b:n=w.heap.size) (x y z u:Z1) (t:TypeId):∀ j v,[x,y,z,u][j]?=Z3 v->(w.alloc (Z6 #[x,y,z,u] t)).cell? ((⟨n,0,Z4⟩:Addr).add j)=Z3 v:=by
 subst b;intro j v a;rw [mw];rcases j with _|_|_|_|j;all_goals simp at a
 all_goals subst a;simp
theorem LN {base:Nat} {e:TypeId} {P:List St} (h:w.ownsRow base e 4 v P.length (eH kk P)) (k:P.length<=4398046511104):Ps kk w v P:=by
 rcases h.2 with ⟨b,c⟩|⟨g,cap,cur,a,l,m,n,o,p,q⟩
 . have:P=[]:=To c;subst this;exact ⟨Z4,0,b,by simp,λh=>absurd rfl h⟩
 . subst a;refine ⟨Z3 ⟨g,0,Z4⟩,cap,rfl,k,λ_=>⟨g,0,rfl,λi d=>?_⟩⟩;have at':∀ j,j<4->w.cell? ⟨g,0+i*4+j,Z4⟩=(FQ kk P[i])[j]?:=λj f=>by
    rw [Nat.zero_add,h.cellAt (i*4+j) (by omega),Ek kk P i d j f]
   exact ⟨at' 0 (by decide),at' 1 (by decide),at' 2 (by decide),at' 3 (by decide)⟩
theorem Am {w0:Z2} {ob:Option Nat} (h:w0.grownBy w ob) (o:Obj):w0.grownBy (w.alloc o) ob:=
 ⟨h.os,h.tape,h.output,by rw [nblk_alloc];have:=h.size;omega,λk a b=>by rw [<- h.block k a b];exact ((Below.refl w.heap.size w).alloc lR o).block k (Nat.lt_of_lt_of_le a h.size)⟩
theorem dh (w:Z2) (b i:Nat) (v:Z1):w.grownBy (w.setCell ⟨b,i,Z4⟩ v) (Z3 b):=
 ⟨rfl,rfl,rfl,by simp,λk _ a=>by
  have:b≠k:=λe=>a (by rw [e]);simp [World.setCell,Array.getElem?_modify,this]⟩
theorem ox (w:Z2) (o:Obj) (k:Nat) (h:k<w.heap.size):(w.alloc o).heap[k]?=w.heap[k]?:=((Below.refl w.heap.size w).alloc lR o).block k h
theorem Jn (w:Z2) (a b c:Obj):(((w.alloc a).alloc b).alloc c).heap.size=w.heap.size+3/\(((w.alloc a).alloc b).alloc c).heap[w.heap.size]?=Z3 a/\(((w.alloc a).alloc b).alloc c).heap[w.heap.size+1]?=Z3 b/\(((w.alloc a).alloc b).alloc c).heap[w.heap.size+1+1]?=Z3 c:=by
 have d:=nblk_alloc w a;have e:=nblk_alloc (w.alloc a) b;have f:=nblk_alloc ((w.alloc a).alloc b) c;refine ⟨by omega,?_,?_,?_⟩
 . rw [ox _ _ _ (by omega),ox _ _ _ (by omega)];exact heap_alloc_last w a
 . rw [ox _ _ _ (by omega),<- d];exact heap_alloc_last _ b
 . rw [<- d,<- e];exact heap_alloc_last _ c
theorem aG {ob:Nat} (h:w.heap[ob]?=Z3 (Z6 #[x,y] t (0,0))):w.cell? ⟨ob,0,Z4⟩=Z3 x/\w.cell? ⟨ob,1,Z4⟩=Z3 y/\w.frozen? ⟨ob,1,Z4⟩=false/\w.frozen? ⟨ob,0,Z4⟩=false:=by
 simp [World.cell?,World.frozen?,h]
section
open Gf
def bI (P:List St) (k:Nat):St:=P.getD k ⟨3,0,0,0⟩
theorem dI (P:List St) (k:Nat) (h:k<P.length):bI P k=P[k]:=by simp [bI,h]
def fl (P:List St) (D:List (List Nat)):Nat->Option Nat
 | 0=>Z4
 | k+1=>match fl P D k with
  | some n=>Z3 n
  | none=>if (bI P k).k=0 then Z3 (D.getD (bI P k).b.toNat []).length else Z4
def oz (gone i:Nat):Prop:=gone/2^i%2=1
def LY (P:List St) (D:List (List Nat)) (gone i:Nat):Prop:=(bI P i).k=0->¬ oz gone (bI P i).b.toNat/\fl P D (i+1)=Z3 (D.getD (bI P i).b.toNat []).length/\(D.getD (bI P i).b.toNat []).length<=4096
def gu (P:List St) (D:List (List Nat)) (gone:Nat):Prop:=∀ i,i<P.length->LY P D gone i
def er (P:List St) (D:List (List Nat)):Nat:=(fl P D P.length).getD 0
theorem oA (P:List St) (D:List (List Nat)) (k n:Nat) (h:fl P D k=Z3 n):fl P D (k+1)=Z3 n:=by simp [fl,h]
theorem xV (P:List St) (D:List (List Nat)) (k:Nat) (h:fl P D k=Z4) (a:(bI P k).k=0):fl P D (k+1)=Z3 (D.getD (bI P k).b.toNat []).length:=by simp [fl,h,a]
theorem sC (P:List St) (D:List (List Nat)) (k:Nat) (a:(bI P k).k≠0):fl P D (k+1)=fl P D k:=by
 cases h:fl P D k<;>simp [fl,h,a]
theorem En (P:List St) (D:List (List Nat)) (k n:Nat) (h:fl P D k=Z3 n):∀ m,k<=m->fl P D m=Z3 n:=by
 intro m a;induction m with
 | zero => have:k=0:=by omega
           subst this;exact h
 | succ m ih=>
  by_cases e:k=m+1
  . subst e;exact h
  . exact oA P D m n (ih (by omega))
theorem NY {P:List St} (h:gu P D gone) (i:Nat) (a:i<P.length) (c:(bI P i).k=0):(D.getD (bI P i).b.toNat []).length=er P D:=by
 have:=(h i a c).2.1;have:=En P D (i+1) _ this P.length (by omega);simp [er,this]
theorem MT {P:List St} (h:gu P D gone):∀ k,k<=P.length->∀ n,fl P D k=Z3 n->n<=4096
 | 0,_,n,e=>by simp [fl] at e
 | k+1,hk,n,e=>by
  cases a:fl P D k with
  | some m=>
   have:=MT h k (by omega) m a;rw [oA P D k m a] at e;simp at e;omega
  | none=>
   by_cases b:(bI P k).k=0
   . have q:=(h k (by omega) b);rw [q.2.1] at e;have:=Option.some.inj e;omega
   . rw [sC P D k b,a] at e;simp at e
theorem F0 {P:List St} (h:gu P D gone):er P D<=4096:=by
 unfold er;cases hf:fl P D P.length with
 | none=>simp
 | some n=>exact MT h P.length lR n hf
def iD (x y:List Nat) (c:Nat):List Nat:=(List.range x.length).map λj=>x.getD j 0^^^gm c (y.getD j 0)
def dA (D:List (List Nat)) (s:St) (R:List (List Nat)):List (List Nat):=
 if s.k=0 then R.set s.a.toNat (D.getD s.b.toNat []) else if s.k=1 then R.set s.a.toNat (iD (R.getD s.a.toNat []) (R.getD s.b.toNat []) s.c) else R
def gS (s:St) (R:List (List Nat)) (O:List (Int×List Nat)):List (Int×List Nat):=if s.k=2 then O++[(s.b,R.getD s.a.toNat [])] else O
def bO (P:List St) (D:List (List Nat)) (R0:List (List Nat)):Nat->List (List Nat)
 | 0=>R0
 | k+1=>dA D (bI P k) (bO P D R0 k)
def dj (P:List St) (D:List (List Nat)) (R0:List (List Nat)):Nat->List (Int×List Nat)
 | 0=>[]
 | k+1=>gS (bI P k) (bO P D R0 k) (dj P D R0 k)
def eL (r n:Nat):List (List Nat):=Tm r (Tm n 0)
def In (w:Z2) (b:Nat) (D:List (List Nat)) (gone:Nat):Prop:=∀ i (hi:i<D.length),(oz gone i->w.cell? ⟨b,i,Z4⟩=Z3 (Z7 Z4 0 0))/\(¬ oz gone i->∃ a c,w.cell? ⟨b,i,Z4⟩=Z3 (Z7 (Z3 a) (D[i]).length c)/\Bs w (Z7 (Z3 a) (D[i]).length c) D[i])
theorem In.mono {b:Nat} (h:In w b D gone) (d:Z0 w.heap.size w w'):In w' b D gone:=λi l=>by
 obtain ⟨g,j⟩:=h i l;refine ⟨λf=>by have:=g f;rw [d.cell (block_lt_of_cell this)];exact this,λf=>?_⟩;obtain ⟨a,c,e,k⟩:=j f;exact ⟨a,c,by rw [d.cell (block_lt_of_cell e)];exact e,k.mono d⟩
end
def bv (l:List Nat):List Z1:=l.map λx=>Value.int .u8 ((x:Nat):Int)
theorem KH {g m:Nat} {l:List Nat} (h:w.heap[g]?=Z3 (Z6 (((bv l).toArray)++Builtin.zeroCells #[Z8 .u8 0] m) 5 (0,0))):aM w g (l++Tm m 0):=by
 have e:((bv l).toArray++Builtin.zeroCells #[Z8 .u8 0] m)=((l++Tm m 0).map (λx=>Value.int .u8 ((x:Nat):Int))).toArray:=by
  apply Array.ext';simp [bv,Builtin.zeroCells,Nat.mod_one,List.map_const']
 rw [e] at h;refine ⟨_,h,by simp,λi a=>?_⟩;rw [List.getElem?_toArray,List.getElem?_map,Tp a];simp [vb,Tp a]
theorem DP {ops:Array Oper} {rest:List Oper} {o:Oper} {a:Act} {Q:Exit->Act->Z2->Prop} (b:o.guard=Z4) (s x:Operand) (t:TypeId) (ho:o.op=.call { callee:=.builtin .append,args:=#[s,x],argTypes:=#[t,t] })
 (vs vx v':Z1) (hs:a.eval s=vs) (hx:a.eval x=vx) (h0:(Builtin.append_ #[t,t] o.type #[vs,vx]).run ZZ w=.ok v' w') (h:wpList ZZ ops Q rest (a.put o.dst v') w'):wpList ZZ ops Q (o::rest) a w:=by
 refine wpList_plain b λK hK=>?_;unfold Oper.wp;simp [execOp,ho,resolve,invoke,builtin,hs,hx,h0,Result.andThen];exact hK _ _ h
theorem DQ (d:Addr) (c:Nat) (l:List Nat) (w:Z2) (h:Bs w (Z7 (Z3 d) l.length c) l) (R:l.length<=100000) :
 Calls ZZ 173 #[Z7 (Z3 d) l.length c] w λe w'=>∃ b m,e=Z5 (Z7 (Z3 ⟨b,0,Z4⟩) l.length (l.length+m))/\w.heap.size<=b/\aM w' b (l++Tm m 0)/\l.length+m<=9223372036854775807/\Z0 w.heap.size w w':=by
 obtain ⟨M,E,H,I,J⟩:=info_parts Tryz.infoByte;have D:=λN=>Lib.run_eql_slice_nil (P:=ZZ) N 34 5 (Z3 d) l.length c 0 0 Tryz.underlying34;have n:∀ j u,(bv l)[j]?=Z3 u->(w.alloc (Z6 #[] 5)).cell? (d.add j)=Z3 u:=by
  intro j u s;obtain ⟨t,O,e,_,_,_,z⟩:=h.mono ((Below.refl _ _).alloc lR (Z6 #[] 5));have g:j<l.length:=by
   obtain ⟨q,_⟩:=List.getElem?_eq_some_iff.1 s;simpa [bv] using q
  obtain ⟨p,a,k,G⟩:=z (by intro e;rw [e] at g;simp at g);simp at e;rw [<- e.1] at k;simp at k;subst k;have x:(⟨p,a,Z4⟩:Addr).add j=⟨p,a+j,Z4⟩:=by unfold Addr.add;split<;>simp_all
  rw [x,G j g,<- s];simp [bv,g]
 have f:Z0 w.heap.size w (w.alloc (Z6 #[] 5)):=bA _ _;by_cases y:l.length=0
 . have F:l=[]:=To y;subst F;clear h n;go_enter Tryz.func173,Tryz.ntmps173;simp only [List.length_nil] at D;go_wp2;go_ret;exact ⟨w.heap.size,0,rfl,Nat.le_refl _,⟨#[],heap_alloc_last w _,rfl,λi K=>by simp at K⟩,by omega,f⟩
 . have r:=run_append_grow (P:=ZZ) (w:=w.alloc (Z6 #[] 5)) 34 34 5 M (Z8 .u8 0) Tryz.underlying34 E H ⟨w.heap.size,0,Z4⟩ 0 0 [] (by simp) (λj v L=>by simp at L) d l.length c (bv l) (by rw [I];simp [bv]) n (by omega) (by omega) (by rw [J];have:=growslice_fits (need:=0+l.length) (old:=0) (bytes:=1) (by omega) (by omega);omega);obtain ⟨cp,Q,C,o⟩:∃ cp,l.length<=cp/\cp<=9223372036854775807/\(Builtin.append_ #[34,34] 34 #[Z7 (Z3 ⟨w.heap.size,0,Z4⟩) 0 0,Z7 (Z3 d) l.length c]).run ZZ (w.alloc (Z6 #[] 5))=.ok (Z7 (Z3 ⟨w.heap.size+1,0,Z4⟩) l.length cp) ((w.alloc (Z6 #[] 5)).drew.alloc (Z6 ((bv l).toArray++Builtin.zeroCells #[Z8 .u8 0] (cp-l.length)) 5)):=by
    refine ⟨grownCap (w.alloc (Z6 #[] 5)) (0+l.length) 0 5,by have:=grownCap_ge (w.alloc (Z6 #[] 5)) (0+l.length) 0 5;omega,by have:=grownCap_le_maxLen (w.alloc (Z6 #[] 5)) (0+l.length) 0 5 (by unfold maxLen;omega);unfold maxLen at this;omega,?_⟩;rw [r,nblk_alloc];simp [Value.cells]
   obtain ⟨m,rfl⟩:∃ m,cp=l.length+m:=⟨cp-l.length,by omega⟩;rw [Tn] at o;have A:=hide o;clear o r n h;go_enter Tryz.func173,Tryz.ntmps173;go_wp2_with (at_builtin;refine DP rfl (.tmp 5) (.tmp 6) 34 rfl _ _ _ rfl rfl A.out ?_);go_ret;have B:aM ((w.alloc (Z6 #[] 5)).drew.alloc (Z6 ((bv l).toArray++Builtin.zeroCells #[Z8 .u8 0] m) 5)) (w.heap.size+1) (l++Tm m 0):=by
    refine KH ?_;have:=heap_alloc_last (w.alloc (Z6 #[] 5)).drew (Z6 ((bv l).toArray++Builtin.zeroCells #[Z8 .u8 0] m) 5);rwa [show (w.alloc (Z6 #[] 5)).drew.heap.size=w.heap.size+1 from nblk_alloc _ _] at this
   exact ⟨w.heap.size+1,m,rfl,by omega,B,C,((show Z0 w.heap.size w (w.alloc (Z6 #[] 5)).drew from ⟨f.os,f.tape,f.output,f.size,f.block⟩).alloc (show w.heap.size<=(w.alloc _).heap.size by rw [nblk_alloc];omega) _)⟩
def R8 (w:Z2) (P:List St) (D:List (List Nat)) (gone:Nat) (lv sv iv:Z1) (wr:Z2):Prop:=
 ∃ k:Nat,k<=P.length/\iv=Z8 Z9 k/\lv=Z8 Z9 ((fl P D k).getD 0:Nat)/\sv=.bool (fl P D k).isSome/\(∀ i,i<k->LY P D gone i)/\Z0 w.heap.size w wr
def OF (P:List St) (D:List (List Nat)) (gone:Nat) (w:Z2) (r:Ending) (w':Z2):Prop:=
 (gu P D gone->r=Z5 (.tuple #[Z8 Z9 (er P D:Nat),.nilIface]))/\(¬ gu P D gone->r=Z5 (.tuple #[Z8 Z9 0,.iface 66 (Z8 Z9 2)]))/\Z0 w.heap.size w w'
theorem pP (v:Z1) (P:List St) (X ci:Nat) (D:List (List Nat)) (gone:Nat) (w:Z2) (h:Ps .u8 w v P) (H:In w X D gone) (hq:∀ l∈D,l.length<=100000)
 (M:∀ i,i<P.length->(bI P i).k=0->0<=(bI P i).b/\(bI P i).b<(D.length:Int)) (d:P.length<=5000) :
 Calls ZZ 171 #[v,Z7 (Z3 ⟨X,0,Z4⟩) D.length ci] w λr w'=>OF P D gone w r w':=by
 obtain ⟨ao,c,rfl⟩:=h.slice;go_enter Tryz.func171,Tryz.ntmps171;go_wp2;go_loopw [6,7,13] (λlv sv T wr=>R8 w P D gone lv sv T wr) (λ_ _ T _=>P.length-(intOf T).toNat)
 case atStart=>exact ⟨0,Nat.zero_le _,rfl,rfl,rfl,λi A=>absurd A (by omega),Below.refl _ _⟩
 case round=>
  rename Z2=>wo;obtain ⟨k,hk,rfl,rfl,rfl,K,J⟩:=hrel;have k9:=J.size;by_cases y:k<P.length
  . rcases (h.mono J).cases with ⟨rfl,_⟩|⟨b,off,cc,e,_,O⟩
    . simp at y
    simp at e;obtain ⟨rfl,rfl⟩:=e;obtain ⟨d0,d1,d2,d3⟩:=O k y;have hz:=dI P k y;have L:=M k y;have E:=hide K;have u:=hide (oA P D k);have s:=hide (xV P D k);have I:=hide (sC P D k);have f:Hid (LY P D gone k↔((bI P k).k=0->¬ oz gone (bI P k).b.toNat/\fl P D (k+1)=Z3 (D.getD (bI P k).b.toNat []).length/\(D.getD (bI P k).b.toNat []).length<=4096)):=Iff.rfl;rw [hz] at L s I f;have o:=J.alloc k9 (Z6 #[Z8 .u8 P[k].k,Z8 Z9 P[k].a,Z8 Z9 P[k].b,Z8 .u8 P[k].c] 284);have Q:=H.mono o;have HC:=hide O;have HI:=hide H;have HH:=hide h;have HR:=hide M;clear O K H h M hz;generalize P[k].k=U at *;generalize P[k].b=sb at *;by_cases z:U=0
    . have tk:((U:Int) != 0)=false:=(by simp [z]);obtain ⟨q1,q2⟩:=L z;have G:=hide z;clear z;obtain ⟨x,rfl⟩:∃ x:Nat,sb=(x:Int):=⟨sb.toNat,by omega⟩;have R:x<D.length:=(by omega);obtain ⟨S,N⟩:=Q x R;have Z:D.getD x []=D[x]:=(by simp [R]);have ka:=hq _ (List.getElem_mem R);rw [Int.toNat_natCast,Z] at s f;have Y:=hide N;clear L q1 q2 Q Z I;by_cases F:oz gone x
      . have ha:=S F;have t:Hid (¬ gu P D gone):=λd=>((f.out.1 (d k y)) G.out).1 F;have k6:=λV=>Lib.run_eql_slice_nil (P:=ZZ) V 34 5 Z4 0 0 0 0 Tryz.underlying34;clear S N Y f s u;cases hf:fl P D k
        . go_wp2;go_ret2;exact ⟨λd=>absurd d t.out,λ_=>rfl,o⟩
        . go_wp2;go_ret2;exact ⟨λd=>absurd d t.out,λ_=>rfl,o⟩
      . obtain ⟨ax,cx,ha,k5⟩:=N F;have k6:=λV=>Lib.run_eql_slice_nil (P:=ZZ) V 34 5 (Z3 ax) (D[x]).length cx 0 0 Tryz.underlying34;clear S N Y k5;generalize D[x].length=n at *;cases hf:fl P D k with
        | none=>
         have g:=s.out hf G.out;by_cases j:n<=4096
         . have C:=f.out.2 (λ_=>⟨F,g,j⟩);have B:=hide C;have p:=hide g;clear f s u g C;go_wp2;go_roundw
           case rel=>
            refine ⟨k+1,by omega,by go_num,by first|(rw [p.out];rfl)|rw [p.out],by first|(rw [p.out];rfl)|rw [p.out],λi A=>?_,o⟩;by_cases e:i=k
            . subst e;exact B.out
            . exact E.out i (by omega)
           case measure=>simp [intOf];omega
         . have t:Hid (¬ gu P D gone):=λd=>j ((f.out.1 (d k y)) G.out).2.2;have k8:(4096:Int)<(n:Int):=(by omega);clear f s u g;go_wp2;go_ret2;exact ⟨λd=>absurd d t.out,λ_=>rfl,o⟩
        | some m=>
         have g:=u.out m hf;by_cases j:n=m/\n<=4096
         . obtain ⟨rfl,j⟩:=j;have C:=f.out.2 (λ_=>⟨F,g,j⟩);have B:=hide C;have p:=hide g;have tt:(((n:Nat):Int) != (n:Int))=false:=(by simp);clear f s u g C;go_wp2;go_roundw
           case rel=>
            refine ⟨k+1,by omega,by go_num,by first|(rw [p.out];rfl)|rw [p.out],by first|(rw [p.out];rfl)|rw [p.out],λi A=>?_,o⟩;by_cases e:i=k
            . subst e;exact B.out
            . exact E.out i (by omega)
           case measure=>simp [intOf];omega
         . have t:Hid (¬ gu P D gone):=λd=>by
            have q:=(f.out.1 (d k y)) G.out;rw [g] at q;have:=q.2.1;simp at this;omega
           clear f s u g;by_cases hy:n=m
           . have k8:(4096:Int)<(m:Int):=(by omega);have tt:(((n:Nat):Int) != (m:Int))=false:=(by simp;omega);clear j hy;go_wp2;go_ret2;exact ⟨λd=>absurd d t.out,λ_=>rfl,o⟩
           . have tt:(((n:Nat):Int) != (m:Int))=true:=(by simp;omega);clear j hy;go_wp2;go_ret2;exact ⟨λd=>absurd d t.out,λ_=>rfl,o⟩
    . have tk:((U:Int) != 0)=true:=(by simp;omega);have W:=hide (I.out z);have B:=hide (f.out.2 (λe=>absurd e z));clear I s u f L Q z;go_wp2;go_roundw
      case rel=>
       refine ⟨k+1,by omega,by go_num,by rw [W.out],by rw [W.out],λi A=>?_,o⟩;by_cases e:i=k
       . subst e;exact B.out
       . exact E.out i (by omega)
      case measure=>simp [intOf];omega
  . have k7:k=P.length:=(by omega);subst k7;have E:=hide K;clear h H M K;go_wp2;go_ret2;exact ⟨λ_=>rfl,λj=>absurd (λi A=>E.out i A) j,J⟩
end Go.Proofs.YtfbmmcnpjhmjaaaGreatDoor
