import Derived.OwnWalk
import Derived.Lib.BufferWrite
import Derived.Test.YtfbmmcnpjhmjaaaGreatDoorM33
import Derived.Lib.AppendZerosOnto
set_option maxRecDepth 100000
set_option maxHeartbeats 8000000
open Go.IntKind renaming i64 -> Z9
open Go.Value renaming int -> Z8, pointer -> Z7, slice -> Z6, string -> Z3
open Go.Obj renaming cells -> Z5
open Go.Operand renaming tmp -> Z4
open Option renaming none -> Z2, some -> Z1
open Bool renaming true -> Z0
open Go renaming World -> ZZ, Value -> ZY
open List renaming length_append -> Tm, replicate -> Tn, getElem_mem -> To, take_of_length_le -> Tp, length_map -> Tq, takeWhile_cons -> Tr, getElem_of_mem -> Ts, getElem_map -> Tt, getElem?_eq_getElem -> Tu, length_take -> Tv, length_cons -> Ty, take_add_one -> Tz, flatMap_append -> TA, pairwise_iff_getElem -> TD, take_append_drop -> TF, flatMap_cons -> TG, map_replicate -> TH, take_zero -> TI, append_assoc -> TK, drop_sublist -> TM, length_drop -> TN, getElem_drop -> TO, mem_cons -> TP, drop_eq_nil_of_le -> TR, ext_getElem -> TS
open Nat renaming add_zero -> Tw, add_assoc -> Tx, zero_le -> TB, zero_add -> TC, succ_lt_succ -> TL
open List.Pairwise renaming sublist -> TE
open Option.some renaming inj -> TJ
open Array renaming getElem?_eq_some_iff -> TQ
open Go.Proofs.Tryz renaming prog -> ZX
namespace Go.Proofs.YtfbmmcnpjhmjaaaGreatDoor
open Go.RowKit
variable {s a b:ByteArray} {ns:List ByteArray} {l:List Nat} {cur:List ZY} {g base x:Nat} {Dn:Nat->Bool} {K:Nat->Prop} {P:Program} {e:TypeId} {v:ZY} {w w' wr:ZZ}
section
open Go.Deep Gf
def gJ (s:ByteArray):List Nat:=s.toList.map (λ(b:UInt8)=>b.toNat)++Tn (16-s.size) 0
def iI (o:Ob):List Nat:=be o.name.size 1++gJ o.name++be o.size 2++o.stripes.flatMap (λs=>be s 4)
def aC (os:List Ob):List Nat:=os.flatMap iI
structure Ob.fit (o:Ob):Prop where
 name:1<=o.name.size/\o.name.size<=16
 size:o.size<=1500
 st:∀ s∈o.stripes,s<4294967296
 len:o.stripes.length<=1000
theorem vV (l:List Nat):(l.flatMap (λs=>be s 4)).length=4*l.length:=by
 induction l with
 | nil=>rfl
 | cons x l ih=>rw [TG,Tm,ih,bT,Ty];omega
theorem vW (h:s.size<=16):(gJ s).length=16:=by
 unfold gJ;rw [Tm,Tq,List.length_replicate,ByteArray.toList_eq];have:s.data.toList.length=s.size:=by rw [Array.length_toList];rfl
 omega
theorem iJ {o:Ob} (h:o.fit):(iI o).length=19+4*o.stripes.length:=by
 unfold iI;rw [Tm,Tm,Tm,bT,bT,vW h.name.2,vV]
theorem kC (os:List Ob) (k:Nat) (a:k<os.length):aC (os.take (k+1))=aC (os.take k)++iI os[k]:=by
 unfold aC;rw [Tz,Tu a,TA];simp
theorem nu (k:Nat) (b:k<=1000000) (w:ZZ):Calls ZX 101 #[Z8 Z9 k] w λe w'=>e=.returned (Z8 Z9 ((19+4*k:Nat):Int))/\w'=w:=by
 have a:((19+4*k:Nat):Int)=19+4*(k:Int):=by omega
 rw [a];go_enter Tryz.func101,Tryz.ntmps101;go_wp2;go_ret;exact ⟨rfl,rfl⟩
def RU (w:ZZ) (os:List Ob) (s i:ZY) (wr:ZZ):Prop:=∃ k:Nat,k<=os.length/\i=Z8 Z9 k/\s=Z8 Z9 (((aC (os.take k)).length:Nat):Int)/\Below w.heap.size w wr
theorem sX {os:List Ob} (J:gz K w v os) (j:∀ o∈os,o.fit) (Q:os.length<=10000):Calls ZX 84 #[v] w λe w'=>e=.returned (Z8 Z9 (((aC os).length:Nat):Int))/\Below w.heap.size w w':=by
 obtain ⟨X,c,rfl,_,l⟩:=J;have g:∀ k,k<=os.length->(aC (os.take k)).length<=k*5000:=by
  intro k E;induction k with
  | zero=>simp [aC]
  | succ k ih=>
   have f:k<os.length:=(by omega);have:=ih (by omega);have B:=j _ (To f);rw [kC os k f,Tm,iJ B];have:=B.len;omega
 obtain ⟨N,p⟩:=nM (os.length);have r:=hide4 l j g p;rw [p] at Q ⊢;clear l j g p;go_enter Tryz.func84,Tryz.ntmps84;go_wp2_with fail;go_loopw [3,8] (λs i wr=>RU w os s i wr) (λ_ i _=>N-(intOf i).toNat)
 case atStart=>exact ⟨0,TB _,rfl,rfl,Below.refl _ _⟩
 case round=>
  obtain ⟨k,E,rfl,rfl,d⟩:=hrel;rw [r.out.2.2.2] at E;by_cases hs:k<N
  . obtain ⟨l,j,g,p⟩:=r.out;have f:k<os.length:=(by omega);obtain ⟨b,off,rfl,Y,u,A⟩:=l (λe=>by rw [e] at f;cases f);obtain ⟨V,y,c1,z,L⟩:=A k f;obtain ⟨U,sc,R,S,_⟩:=L;have G:wr.cell? ⟨b,off+k*3,Z2⟩=Z1 (Z3 os[k].name):=(World.cell?_of_block (d.block b u)).trans y;have d1:wr.cell? ⟨b,off+k*3+1,Z2⟩=Z1 (Z8 Z9 (os[k].size:Nat)):=(World.cell?_of_block (d.block b u)).trans c1;have I:wr.cell? ⟨b,off+k*3+2,Z2⟩=Z1 V:=(World.cell?_of_block (d.block b u)).trans z;subst R;have O:=g k (by omega);have P:=g (k+1) (by omega);have n:(aC (os.take (k+1))).length=(aC (os.take k)).length+(19+4*os[k].stripes.length):=(by rw [kC os k f,Tm,iJ (j _ (To f))]);obtain ⟨a,x⟩:=nM ((aC (os.take k)).length);obtain ⟨W,h⟩:=nM ((aC (os.take (k+1))).length);obtain ⟨m,t⟩:=nM (os[k].stripes.length);obtain ⟨nm,C⟩:=nM (os[k].name);obtain ⟨sz,D⟩:=nM (os[k].size);rw [x,h,t] at n;rw [x] at O ⊢;rw [h] at P;rw [t] at I;rw [C] at G;rw [D] at d1;rw [t] at S;have T:=d.size;have H:=hide3 d h n;have Z:((k:Nat):Int).toNat=k:=(by omega);clear d y c1 z l j g A n x h t C D p;go_wp2_with fail;refine (nu m (by omega) _).mono ?_;obtain ⟨q,F⟩:=nM (19+4*m);rw [F];rintro e w2 ⟨rfl,rfl⟩;have hv:a+q<=100000000:=(by have:=H.out.2.2;omega);go_wp2;obtain ⟨d,h,n⟩:=H.out;refine ⟨⟨k+1,by rw [r.out.2.2.2];omega,by go_num,?_,d.alloc T _⟩,by simp [intOf];omega⟩;rw [h,n,F];first|rfl|(congr 1)
  . have M:k=N:=(by omega);subst M;have H:=hide d;clear d;go_wp2;go_ret;refine ⟨?_,H.out⟩;rw [Tp (by rw [r.out.2.2.2];exact Nat.le_refl _)];rfl
end
section
open Go.Deep Gf
theorem AJ (s:ByteArray):(List.take 0 (aH (Tn 16 0))++Lib.byteCells s.data.toList++List.drop (0+s.size) (aH (Tn 16 0))).toArray=(aH (gJ s)).toArray:=by
 congr 1;unfold gJ aH Lib.byteCells;rw [ByteArray.toList_eq,TH,TI,List.nil_append,TC,List.drop_replicate,List.map_append,TH,List.map_map];rfl
def L5 (w:ZZ) (g:Nat) (s:ByteArray) (Dn:Nat->Bool) (w':ZZ):Prop:=w'=if Dn 3=Z0 then w.drew.setRow g (aH (gJ s)).toArray else w.drew
theorem yE (h:L5 w g s Dn w') (i:Nat) (a:3≠i):L5 w g s (dN Dn i) w':=by unfold L5;rw [jr a];exact h
theorem JW (h:L5 w g s Dn w') {a:Addr} (c:a.block≠g) {v:ZY} (b:w.cell? a=Z1 v):w'.cell? a=Z1 v:=by
 unfold L5 at h;subst h;split
 . exact (World.cell?_of_block ((aI w.drew g _).block a.block (block_lt_of_cell b) (λe=>c (TJ e)))).trans b
 . exact b
noncomputable def Rf:Array Oper:=((Tryz.f120.body.bind (mD · 6))).getD #[]
def QA:List (Op×Option Nat×List Nat):=[(Op.slice 221 (Z4 6) Z2 Z2 Z2,Z1 18,[]),
 (Op.fieldAddr 123 (Z4 5) 0,Z1 19,[]),
 (Op.load 9 (Z4 19),Z1 20,[1]),
 (Op.call { callee:=Callee.builtin Builtin.copy,args:=#[Z4 18,Z4 20],argTypes:=#[34,9] },Z1 21,[0,2])]
theorem Ge:aN Rf 18 22 QA:=bt (by kernel_rfl) (by kernel_rfl)
def QB (g q:Nat) (s:ByteArray):List ZY:=[Z6 (Z1 ⟨g,0,Z2⟩) 16 16,Z7 (Z1 ⟨q,0,Z2⟩),Z3 s,Z8 Z9 (s.size:Nat)]
theorem yF {ops:Array Oper} {Q:Exit->Act->ZZ->Prop} {a:Act} {q:Nat} (x:s.size<=16) (D:w.heap[g]?=Z1 (Z5 (aH (Tn 16 0)).toArray 221 (0,0))) (G:w.cell? ⟨q,0,Z2⟩=Z1 (Z3 s)) (E:q≠g) (A:Rf=ops) (t:a.tmps.size=50)
 (y:a.eval (Z4 5)=Z7 (Z1 ⟨q,0,Z2⟩)) (z:a.eval (Z4 6)=Z7 (Z1 ⟨g,0,Z2⟩))
 (C:∀ (w':ZZ),w'=w.drew.setRow g (aH (gJ s)).toArray->Q .normal (Act.putFrom a 18 [Z6 (Z1 ⟨g,0,Z2⟩) 16 16,Z7 (Z1 ⟨q,0,Z2⟩),Z3 s,Z8 Z9 (s.size:Nat)]) w'):(Code.region 6 ops Z0).wp ZX Q a w:=by
 subst A;have t:(ZX.info? 5).map (λi=>i.size)=Z1 1:=by kernel_rfl
 refine cO (by kernel_rfl) Ge a w (by omega) (λi u _=>u=(QB g q s).getD i undef) (L5 w g s) rfl ?_ ?_
 . intro i p;match i,p with
   | 0,_=>
    intro o d w' Dn m ho f j k l h b c;have u0:d.eval (Z4 6)=Z7 (Z1 ⟨g,0,Z2⟩):=(j.slot 6 (by omega)).trans z;exact ab (v:=Z6 (Z1 ⟨g,0,Z2⟩) 16 16) (by simp only [execOp,show o.op=Op.slice 221 (Z4 6) Z2 Z2 Z2 from ho,u0];go_simp) f ⟨yE b 0 (by decide),rfl,kq⟩
   | 1,_=>
    intro o d w' Dn m ho f j k l h b c;have u0:d.eval (Z4 5)=Z7 (Z1 ⟨q,0,Z2⟩):=(j.slot 5 (by omega)).trans y;exact ab (v:=Z7 (Z1 ⟨q,0,Z2⟩)) (by simp only [execOp,show o.op=Op.fieldAddr 123 (Z4 5) 0 from ho,u0];go_simp) f ⟨yE b 1 (by decide),rfl,kq⟩
   | 2,_=>
    intro o d w' Dn m ho f j k l h b c;have u0:d.eval (Z4 19)=Z7 (Z1 ⟨q,0,Z2⟩):=c 1 (h 1 (by decide));have I:w'.cell? ⟨q,0,Z2⟩=Z1 (Z3 s):=JW b E G;exact ab (v:=Z3 s) (by simp only [execOp,show o.op=Op.load 9 (Z4 19) from ho,u0];go_simp) f ⟨yE b 2 (by decide),rfl,kq⟩
   | 3,_=>
    intro o d w' Dn m ho f j k l h b c;have u0:d.eval (Z4 18)=Z6 (Z1 ⟨g,0,Z2⟩) 16 16:=c 0 (h 0 (by decide));have u1:d.eval (Z4 20)=Z3 s:=c 2 (h 2 (by decide));have H:w'=w.drew:=(by have:=b;unfold L5 at this;rw [if_neg (by rw [k];decide)] at this;exact this);subst H;have r:=Lib.run_copy_row_string (P:=ZX) w.drew 34 9 o.type 5 g 0 16 16 s (aH (Tn 16 0)).toArray 221 Tryz.underlying34 t D x (by rw [List.size_toArray,bm];simpa using x);rw [show (aH (Tn 16 0)).toArray.toList=aH (Tn 16 0) from rfl,AJ s] at r;exact ab (v:=Z8 Z9 (s.size:Nat)) (by
     simp only [execOp,show o.op=Op.call { callee:=Callee.builtin Builtin.copy,args:=#[Z4 18,Z4 20],argTypes:=#[34,9] } from ho,resolve,invoke,builtin,Sem.run_bind,Sem.run_pure,Result.andThen_ok,List.map_toArray,List.map_cons,List.map_nil,u0,u1,r];rfl) f ⟨by unfold L5;rw [if_pos j6],rfl,kq⟩
   | n+4,hn=>exact absurd hn (by show ¬ n+4<4;omega)
 . rintro d w' F J ⟨Dn,B,b⟩ c;have e:d=Act.putFrom a 18 [Z6 (Z1 ⟨g,0,Z2⟩) 16 16,Z7 (Z1 ⟨q,0,Z2⟩),Z3 s,Z8 Z9 (s.size:Nat)]:=F.out _ rfl (by omega) (λi p=>?_)
   . rw [e];exact C w' (by unfold L5 at b;rw [if_pos (B 3 (by decide))] at b;exact b)
   . match i,p with
     | 0,_=>exact c 0 (by decide)
     | 1,_=>exact c 1 (by decide)
     | 2,_=>exact c 2 (by decide)
     | 3,_=>exact c 3 (by decide)
     | n+4,hn=>exact absurd hn (by simp)
end
section
open Go.Deep Gf
structure Pk (w:ZZ) (l:List Nat) (v:ZY) (wr:ZZ):Prop where
 own:wr.ownsRow w.heap.size 5 1 v l.length (aH l)
 some_:v.ownBlock≠Z2
 below:Below w.heap.size w wr
theorem AK {n:Nat} {size:Nat} {xs:List ZY} (h:w.ownsRow base e size v n xs) (c:0<n):v.ownBlock≠Z2:=by
 rcases h.2 with ⟨_,b⟩|⟨g,cap,cur,a,_⟩
 . omega
 . rw [a];simp [Value.ownBlock]
theorem Pk.out (h:Pk w l v wr) {S:Nat->Prop} (a:aa S wr w') (b:∀ k,S k->w.heap.size<=k) (d:∀ k,v.ownBlock=Z1 k->¬ S k):Pk w l v w':=
 ⟨fj h.own a d,h.some_,⟨a.os.trans h.below.os,a.tape.trans h.below.tape,a.output.trans h.below.output,Nat.le_trans h.below.size a.size,λk c=>(a.block k (by have:=h.below.size;omega) (λq=>by have:=b k q;omega)).trans (h.below.block k c)⟩⟩
theorem Pk.num (h:Pk w l v wr) (n s:Nat) (f:s<=8) (i:0<s) (d:l.length<=1000000000) :
 Calls ZX 149 #[v,Z8 .u64 n,Z8 Z9 s] wr λe w'=>∃ b,e=.returned b/\Pk w (l++be n s) b w'/\aa (λj=>v.ownBlock=Z1 j) wr w':=by
 refine (eR w.heap.size v l.length (aH l) n s wr h.own h.below.size f d).mono ?_;rintro e w' ⟨b,rfl,ho,a,g⟩;refine ⟨b,rfl,⟨?_,AK ho (by omega),?_⟩,a⟩
 . rw [bU,Tm,bT];exact ho
 . exact ⟨a.os.trans h.below.os,a.tape.trans h.below.tape,a.output.trans h.below.output,Nat.le_trans h.below.size a.size,λk c=>(a.block k (by have:=h.below.size;omega) (λq=>by have:=iy h.own q;omega)).trans (h.below.block k c)⟩
theorem L6 (h:Pk w l v wr):w.heap.size<=wr.heap.size:=h.below.size
def RV (w:ZZ) (pre:List Nat) (st:List Nat) (v i:ZY) (wr:ZZ):Prop:=∃ j:Nat,j<=st.length/\i=Z8 Z9 j/\Pk w (pre++(st.take j).flatMap (λs=>be s 4)) v wr
def QC (w:ZZ) (os:List Ob) (v i:ZY) (wr:ZZ):Prop:=∃ k:Nat,k<=os.length/\i=Z8 Z9 k/\Pk w (aC (os.take k)) v wr
def Og (w:ZZ) (os:List Ob) (e:Ending) (w':ZZ):Prop:=∃ g cap,e=.returned (Z6 (Z1 ⟨g,0,Z2⟩) (aC os).length cap)/\w'.ownsRow w.heap.size 5 1 (Z6 (Z1 ⟨g,0,Z2⟩) (aC os).length cap) (aC os).length (aH (aC os))/\Below w.heap.size w w'
theorem Gg {os:List Ob} (hC:gz K w v os) (A:∀ o∈os,o.fit) (qi:os.length<=10000):Calls ZX 120 #[v] w λe w'=>Og w os e w':=by
 obtain ⟨ib,qf,hy,hz,k0⟩:=info_parts Tryz.infoByteC;have G:∀ k,k<=os.length->(aC (os.take k)).length<=k*5000:=by
  intro k D;induction k with
  | zero=>simp [aC]
  | succ k ih=>
   have z:k<os.length:=(by omega);have:=ih (by omega);have l:=A _ (To z);rw [kC os k z,Tm,iJ l];have:=l.len;omega
 have kh:=sX hC A qi;have hp:=G os.length lR;rw [Tp lR] at hp;obtain ⟨ao,c,rfl,_,Q⟩:=hC;obtain ⟨N,J⟩:=nM (os.length);obtain ⟨M,I⟩:=nM ((aC os).length);rw [I] at kh hp;have X:=hide5 Q A G J I;rw [J] at qi kh hp ⊢;clear Q A G J I;go_enter Tryz.func120,Tryz.ntmps120;go_wp2_with fail;refine kh.mono ?_;rintro e w1 ⟨rfl,kr⟩;have x6:=kr.size;have H1:=hide kr;clear kr kh;go_wp2_with (at_make;refine wpList_make_own w1 rfl (.const (Z8 Z9 0)) (Z4 10) 34 rfl w.heap.size 5 ib (Z8 .u8 0) 1 Tryz.underlying34 qf hy hz .i64 .i64 _ M (by rfl) (by rfl) rfl (by rw [k0];omega) (by unfold maxLen;omega) x6 ?_;intro w2 qh qe);have q9:Pk w [] (Z6 (Z1 ⟨w1.heap.size,0,Z2⟩) 0 M) w2:=⟨qh,by simp [Value.ownBlock],H1.out.grown qe H1.out.size (λk e=>by cases e)⟩;have H2:=hide q9;clear q9 qh qe;go_loopw [3,14] (λv i wr=>QC w os v i wr) (λ_ i _=>N-(intOf i).toNat)
 case atStart=>exact ⟨0,TB _,rfl,H2.out⟩
 case round=>
  clear H2;obtain ⟨k,D,rfl,a⟩:=hrel;rw [X.out.2.2.2.1] at D;by_cases xb:k<N
  . obtain ⟨Q,A,G,J,I⟩:=X.out;have z:k<os.length:=(by omega);obtain ⟨b,off,rfl,x7,kv,qc⟩:=Q (λe=>by rw [e] at z;cases z);obtain ⟨sv,c0,c1,c2,hI⟩:=qc k z;have l:=A _ (To z);have d0:wr.cell? ⟨b,off+k*3,Z2⟩=Z1 (Z3 os[k].name):=(World.cell?_of_block (a.below.block b kv)).trans c0;have d1:wr.cell? ⟨b,off+k*3+1,Z2⟩=Z1 (Z8 Z9 (os[k].size:Nat)):=(World.cell?_of_block (a.below.block b kv)).trans c1;have d2:wr.cell? ⟨b,off+k*3+2,Z2⟩=Z1 sv:=(World.cell?_of_block (a.below.block b kv)).trans c2;have qx:=G k (by omega);have y:=kC os k z;obtain ⟨pre,k7⟩:=nM (aC (os.take k));obtain ⟨o,ho⟩:=nM (os[k]);rw [k7] at qx a y;rw [ho] at d0 d1 l hI y;obtain ⟨d,F,x0,x2,R⟩:=hI;subst x0;obtain ⟨m,L⟩:=nM (o.stripes.length);obtain ⟨nm,U⟩:=nM (o.name);obtain ⟨r,V⟩:=nM (o.size);have kx:=l.name;have qq:=l.size;have qp:=l.len;rw [U] at d0 kx;rw [V] at d1 qq;rw [L] at d2 x2 qp;have x5:=a.below.size;have x9:((k:Nat):Int).toNat=k:=(by omega);have ks:Below wr.heap.size wr (wr.alloc (Z5 #[Z3 nm,Z8 Z9 (r:Int),.slice d m F] 123)):=bA wr _;have qn:(wr.alloc (Z5 #[Z3 nm,Z8 Z9 (r:Int),.slice d m F] 123)).heap.size=wr.heap.size+1:=(by simp);have q4:(wr.alloc (Z5 #[Z3 nm,Z8 Z9 (r:Int),.slice d m F] 123)).heap[wr.heap.size]?=Z1 (Z5 #[Z3 nm,Z8 Z9 (r:Int),.slice d m F] 123 (0,0)):=blk_alloc_new _ _;obtain ⟨p,x3⟩:=nM (wr.alloc (Z5 #[Z3 nm,Z8 Z9 (r:Int),.slice d m F] 123));rw [x3] at ks qn q4;have n:(p.alloc (Z5 (aH (Tn 16 0)).toArray 221)).heap[p.heap.size]?=Z1 (Z5 (aH (Tn 16 0)).toArray 221 (0,0)):=blk_alloc_new _ _;have ke:Below p.heap.size p (p.alloc (Z5 (aH (Tn 16 0)).toArray 221)):=bA p _;have qo:(p.alloc (Z5 (aH (Tn 16 0)).toArray 221)).heap.size=p.heap.size+1:=(by simp);obtain ⟨wb,q6⟩:=nM (p.alloc (Z5 (aH (Tn 16 0)).toArray 221));rw [q6] at n ke qo;have E:=(ke.block _ (by omega)).trans q4;have x4:p.alloc (Z5 #[Z8 .u8 0,Z8 .u8 0,Z8 .u8 0,Z8 .u8 0,Z8 .u8 0,Z8 .u8 0,Z8 .u8 0,Z8 .u8 0,Z8 .u8 0,Z8 .u8 0,Z8 .u8 0,Z8 .u8 0,Z8 .u8 0,Z8 .u8 0,Z8 .u8 0,Z8 .u8 0] 221)=wb:=q6;have O:Pk w pre u3 wb:=(a.out (aa.of_all ks (λ_=>False)) (λ_ h=>h.elim) (λ_ _ h=>h)).out (aa.of_all ke (λ_=>False)) (λ_ h=>h.elim) (λ_ _ h=>h);have Y:=hide7 R l y ho L U V;have HB:=hide4 O E n qo;clear a Q A G J I qc c0 c1 c2 R l y ho L U V O E n q6 q4 ks ke k7;go_wp2_with fail;obtain ⟨O,E,n,ka⟩:=HB.out;rw [qn] at n ka;obtain ⟨q,hq⟩:=nM (wr.heap.size);rw [hq] at E n ka x5;refine yF (s:=nm) (q:=wr.heap.size) (g:=wr.heap.size+1) kx.2 (by rw [hq];exact n) (by rw [hq];simp [World.cell?,E]) (by omega) (by kernel_rfl) rfl rfl rfl ?_;intro w6 kj;rw [hq] at kj ⊢;have kb:aa (λk=>k=q+1) wb w6:=by
     rw [kj];have S:=aI wb.drew (q+1) (aH (gJ nm)).toArray;exact ⟨S.os,S.tape,S.output,S.size,λk D qy=>S.block k D (λe=>qy (TJ e))⟩
    have B:Pk w pre u3 w6:=O.out kb (λk D=>by omega) (λk D e=>cP O.own n (by decide) (by rw [D,e]));have C:=(kb.block q (by omega) (by omega)).trans E;have P:w6.heap[q+1]?=Z1 (Z5 (aH (gJ nm)).toArray 221 (0,0)):=(by rw [kj];exact setRow_heap _ _ _ _ _ _ n);have xc:=kb.size;have q0:w6.cell? ⟨q,0,Z2⟩=Z1 (Z3 nm):=(by simp [World.cell?,C]);have qd:=B.num nm.size 1 (by omega) (by omega) (by omega);have H6:=hide4 B C P qd;have qz:nm.size<=16:=kx.2;clear O E n kb B C P qd kj d0 d1 d2;rename_i q7
    refine q7 _ _ ?_;clear q7;simp only [Act.putFrom,Act.put,List.setIfInBounds_toArray,List.set_cons_succ,List.set_cons_zero];go_wp2_with fail;refine H6.out.2.2.2.mono ?_;rintro e w7 ⟨v7,rfl,kk,kc⟩;obtain ⟨B,C,P,hx⟩:=H6.out;clear hx;have qj:=(kc.block q (by omega) (λe=>cP B.own C (by decide) e)).trans C;have ky:=(kc.block (q+1) (by omega) (λe=>cP B.own P (by decide) e)).trans P;have xd:=kc.size;have kg:(pre++be nm.size 1).length=pre.length+1:=(by rw [Tm,bT]);have ki:(gJ nm).length=16:=vW qz;have he:Src ZX 1 34 (Z6 (Z1 ⟨q+1,0,Z2⟩) 16 16) 16 (aH (gJ nm)) w7:=Src.ofSlice w7 Tryz.underlying34 ⟨q+1,0,Z2⟩ 16 16 (aH (gJ nm)) (by rw [bm,ki]) (λi u hu=>by
     have h9:w7.cell? ⟨q+1,i,Z2⟩=Z1 u:=(by simp [World.cell?,ky];simpa using hu);unfold Addr.add;split
     . rename_i h0;subst h0;exact h9
     . rw [TC];exact h9) (λu hu=>by obtain ⟨x,_,rfl⟩:=List.mem_map.1 hu;rfl)
    have h7:=kk.own;rw [kg] at h7;have t:=hide5 kk qj ky he h7;clear B C P kk kc qj ky he h7 q0;have qm:=L6 t.out.1;go_wp2_with (show wpList _ _ _ ({ dst:=Z1 30,op:=_,type:=_,pos:=_,after:=_,guard:=_ }::_) _ _;refine af _ rfl (Z4 28) (Z4 29) 34 34 rfl w.heap.size 5 ib (Z8 .u8 0) 1 1 Tryz.underlying34 qf hy hz k0 rfl v7 (pre.length+1) (aH (pre++be nm.size 1)) (by rfl) (by exact t.out.2.2.2.2) _ (by rfl) 16 (aH (gJ nm)) (by exact t.out.2.2.2.1) (by unfold maxLen;omega) (by omega) (by exact qm) ?_;intro v8 w8 kz kf kp;have q3:w8.heap[q]?=Z1 (Z5 #[Z3 nm,Z8 Z9 (r:Int),.slice d m F] 123 (0,0)):=(kf.block q (by omega) (λe=>cP t.out.1.own t.out.2.1 (by decide) e.symm)).trans t.out.2.1;have q1:w8.cell? ⟨q,1,Z2⟩=Z1 (Z8 Z9 (r:Int)):=(by simp [World.cell?,q3]);have qa:Pk w ((pre++be nm.size 1)++gJ nm) v8 w8:=⟨(by rw [bU,Tm,kg,ki];exact kz),AK kz (by omega),t.out.1.below.grown kf qm (λj e=>iy t.out.1.own e)⟩;have xe:=kf.size;have W:=hide2 qa q3;clear kz kf kp q3 qa);refine (W.out.1.num r 2 (by omega) (by omega) (by rw [Tm,kg,ki];omega)).mono ?_;rintro e w9 ⟨v9,rfl,km,q8⟩;have qk:=(q8.block q (by omega) (λe=>cP W.out.1.own W.out.2 (by decide) e)).trans W.out.2;have q2:w9.cell? ⟨q,2,Z2⟩=Z1 (.slice d m F):=(by simp [World.cell?,qk]);obtain ⟨f,Z⟩:=nM (pre++be nm.size 1++gJ nm++be r 2);have xa:f.length=pre.length+19:=(by rw [<- Z,Tm,Tm,kg,ki,bT]);rw [Z] at km;have H9:=hide2 km Z;clear km q8 qk q1 Z;go_wp2_with fail;go_loopw [3,39] (λv i hb=>RV w f o.stripes v i hb) (λ_ i _=>m-(intOf i).toNat)
    case atStart=>exact ⟨0,TB _,rfl,by rw [TI,List.flatMap_nil,List.append_nil];exact H9.out.1⟩
    case round=>
     obtain ⟨j,hj,rfl,a⟩:=hrel;rw [Y.out.2.2.2.2.1] at hj;by_cases x8:j<m
     . obtain ⟨R,l,y,ho,L,_,_⟩:=Y.out;have T:j<o.stripes.length:=(by omega);obtain ⟨sb,so,rfl,_,q5,k8⟩:=R (λe=>by rw [e] at T;cases T);have cs:=(World.cell?_of_block (a.below.block sb q5)).trans (k8 j T);have x1:=l.st _ (To T);have hv:((o.stripes.take j).flatMap (λs=>be s 4)).length=4*j:=(by rw [vV,Tv];omega);have qg:f++(o.stripes.take (j+1)).flatMap (λs=>be s 4)=(f++(o.stripes.take j).flatMap (λs=>be s 4))++be o.stripes[j] 4:=by
        rw [Tz,Tu T,TA,TK];simp
       have hc:=a.num o.stripes[j] 4 (by omega) (by omega) (by rw [Tm,hv];omega);rw [<- qg] at hc;obtain ⟨x,hx⟩:=nM (o.stripes[j]);rw [hx] at cs x1 hc;have HP:=hide hc;clear a R l y ho L k8 hc qg hx hv;go_wp2_with fail;refine HP.out.mono ?_;rintro e wj ⟨vj,rfl,qb,_⟩;have Hj:=hide qb;clear qb;go_wp2;go_roundw
       case rel=>exact ⟨j+1,by have:=Y.out.2.2.2.2.1;omega,by go_num,Hj.out⟩
       case measure=>simp [intOf];omega
     . have qs:j=m:=(by omega);have Hq:=hide a;clear a;go_wp2;go_roundw
       case rel=>
        refine ⟨k+1,by have:=X.out.2.2.2.1;omega,by go_num,?_⟩;obtain ⟨_,_,y,_,L,U,V⟩:=Y.out;have ko:=Hq.out;rw [Tp (by omega),<- H9.out.2] at ko;rw [y];unfold iI;rw [U,V];simp only [TK] at ko ⊢;exact ko
       case measure=>simp [intOf];omega
  . have qv:k=N:=(by omega);subst qv;have H:=hide a;clear a;go_wp2;go_ret;have a:=H.out;obtain ⟨_,_,_,J,I⟩:=X.out;rw [Tp (by omega)] at a;rcases a.own.2 with ⟨h0,_⟩|⟨g,cap,cur,e1,_⟩
    . exact absurd (by rw [h0];rfl) a.some_
    . have ho:=a.own;rw [e1] at ho;exact ⟨g,cap,by rw [<- e1];rfl,ho,a.below⟩
theorem sY {vo:ZY} {os:List Ob} (c:gz (λk=>k<w.heap.size) w vo os) (d:∀ o∈os,o.fit) (b:os.length<=10000):Dq w vo (aC os):=λ_ a=>Gg (c.keep ⟨a.size,λk e _=>a.block k e⟩) d b
end
section
open Go.Deep Gf
theorem Tryz.infoObj48:(ZX.info? 123).map (λi=>(i.zero,i.size,i.bytes))=Z1 (Z1 (.agg #[Z3 ByteArray.empty,Z8 Z9 0,Z6 Z2 0 0]),3,48):=by kernel_rfl
end
theorem JY:∀ (x y:List UInt8),Op.bytesLess x y=decide (x<y)
 | [],[]=>by simp [Op.bytesLess]
 | _::_,[]=>by simp [Op.bytesLess]
 | [],_::_=>by simp [Op.bytesLess]
 | a::x,b::y=>by
  rw [Op.bytesLess,JY x y];simp only [List.cons_lt_cons_iff];by_cases c:a<b<;>by_cases d:a=b<;>by_cases e:x<y<;>simp [c,d,e]
def kD (a b:ByteArray):Bool:=Op.bytesLess a.toList b.toList
theorem yH:kD a b=Z0↔a.toList<b.toList:=by unfold kD;rw [JY];simp
theorem yI:kD a b=false↔¬ a.toList<b.toList:=by unfold kD;rw [JY];simp
theorem kF (a:ByteArray):kD a a=false:=yI.2 (List.lt_irrefl _)
theorem pD {c:ByteArray} (h:kD a b=Z0) (k:kD b c=Z0):kD a c=Z0:=yH.2 (List.lt_trans (yH.1 h) (yH.1 k))
theorem toList_inj (h:a.toList=b.toList):a=b:=by
 have c:a.data.toList=b.data.toList:=by rw [<- Lib.toList_data,<- Lib.toList_data];exact h
 have d:a.data=b.data:=Array.toList_inj.1 c;cases a;cases b;simpa using d
theorem yJ (h:kD a b=false) (k:kD b a=false):a=b:=toList_inj (List.le_antisymm (yI.1 k) (yI.1 h))
def Up (ns:List ByteArray):Prop:=ns.Pairwise (λa b=>kD a b=Z0)
def aZ (os:List Ob):List ByteArray:=os.map (·.name)
theorem bP (os:List Ob):(aZ os).length=os.length:=by unfold aZ;rw [Tq]
def aF (ns:List ByteArray) (x:ByteArray):Nat:=(ns.takeWhile (λn=>kD n x)).length
theorem vX (ns:List ByteArray) (x:ByteArray):aF ns x<=ns.length:=by unfold aF;exact (List.takeWhile_prefix _).length_le
theorem gx:∀ (ns:List ByteArray) (x:ByteArray) (i:Nat),i<=ns.length->(∀ j (e:j<ns.length),j<i->kD ns[j] x=Z0)->(∀ a:i<ns.length,kD ns[i] x=false)->aF ns x=i
 | [],x,i,a,_,_=>by simp at a;subst a;rfl
 | n::ns,x,0,a,b,c=>by
  have:=c (by simp);unfold aF;rw [Tr];simp at this;simp [this]
 | n::ns,x,i+1,a,b,c=>by
  have d:=b 0 (by simp) (by omega);simp at d;have:=gx ns x i (by simpa using a) (λj e g=>b (j+1) (TL e) (by omega)) (λf=>c (TL f));unfold aF at this ⊢;rw [Tr];simp [d,this]
theorem mP:∀ (ns:List ByteArray) (x:ByteArray) (j:Nat) (a:j<ns.length),j<aF ns x->kD ns[j] x=Z0
 | [],_,j,a,_=>by simp at a
 | n::ns,x,j,a,h=>by
  unfold aF at h;rw [Tr] at h;cases b:kD n x
  . simp [b] at h
  . simp [b] at h;cases j with
    | zero=>simpa using b
    | succ j=>simpa using mP ns x j (by simpa using a) (by unfold aF;omega)
theorem vY:∀ (ns:List ByteArray) (x:ByteArray) (a:aF ns x<ns.length),kD ns[aF ns x] x=false
 | [],x,a=>by simp at a
 | n::ns,x,a=>by
  by_cases b:kD n x=Z0
  . have e:aF (n::ns) x=aF ns x+1:=(by unfold aF;rw [Tr];simp [b]);have c:=vY ns x (by rw [e] at a;simpa using a);simp only [e,List.getElem_cons_succ];exact c
  . have e:aF (n::ns) x=0:=(by unfold aF;rw [Tr];simp [b]);simp only [e,List.getElem_cons_zero];simpa using b
theorem uJ (b:Up ns) (x:ByteArray) (j:Nat) (f:j<ns.length) (h:aF ns x<=j):kD ns[j] x=false:=by
 have a:=vY ns x (by omega);rcases Nat.eq_or_lt_of_le h with e|d
 . subst e;exact a
 . unfold Up at b;rw [TD] at b;have c:=b _ _ (by omega) f d;cases hb:kD ns[j] x
   . rfl
   . rw [pD c hb] at a;cases a
theorem fy (a:Up ns) {x:ByteArray} {k:Nat} (b:k<ns.length) (e:ns[k]=x):aF ns x=k:=by
 refine gx ns x k (Nat.le_of_lt b) (λj d c=>?_) (λf=>by rw [e];exact kF x);unfold Up at a;rw [TD] at a;have:=a j k d b c;rwa [e] at this
theorem sZ (b:Up ns) {x:ByteArray} (c:x∈ns):∃ h:aF ns x<ns.length,ns[aF ns x]=x:=by
 obtain ⟨k,a,e⟩:=Ts c;have:=fy b a e;exact ⟨by omega,by simp only [this];exact e⟩
theorem Gk (c:Up ns) {x:ByteArray} (m:x∉ns):Up (ns.take (aF ns x)++x::ns.drop (aF ns x)):=by
 have n:=vX ns x;unfold Up;rw [List.pairwise_append,List.pairwise_cons];refine ⟨TE (List.take_sublist _ _) c,⟨λa g=>?_,TE (TM _ _) c⟩,λa g b f=>?_⟩
 . obtain ⟨j,h,e⟩:=Ts g;rw [TN] at h;rw [TO] at e;have d:=uJ c x (aF ns x+j) (by omega) (by omega);rw [e] at d;cases f:kD x a
   . exact absurd (List.mem_of_mem_drop g) (by rw [yJ d f];exact m)
   . rfl
 . obtain ⟨j,h,e⟩:=Ts g;rw [Tv] at h;rw [List.getElem_take] at e;have d:=mP ns x j (by omega) (by omega);rw [e] at d;rcases TP.1 f with rfl|f
   . exact d
   . obtain ⟨i,l,k⟩:=Ts f;rw [TN] at l;rw [TO] at k;unfold Up at c;rw [TD] at c;have:=c j (aF ns x+i) (by omega) (by omega) (by omega);rwa [e,k] at this
theorem JZ (b:Up ns) (k:Nat):Up (ns.take k++ns.drop (k+1)):=by
 refine TE ?_ b;have a:(ns.take k++ns.drop (k+1)).Sublist (ns.take k++ns.drop k):=List.Sublist.append (List.Sublist.refl _) (by rw [<- List.drop_drop];exact TM _ _);rwa [TF] at a
section
open Go.Deep
def aw (w:ZZ) (g:Nat) (e:TypeId) (cur:List ZY):Prop:=w.heap[g]?=Z1 (Z5 cur.toArray e (0,0))
theorem aw.lt (h:aw w g e cur):g<w.heap.size:=(TQ.1 h).1
theorem aw.cell (h:aw w g e cur) {j:Nat} {u:ZY} (a:cur[j]?=Z1 u):w.cell? ⟨g,j,Z2⟩=Z1 u:=by
 unfold aw at h;simp [World.cell?,h,a]
theorem aw.thaw (h:aw w g e cur) (j:Nat):w.frozen? ⟨g,j,Z2⟩=false:=by
 unfold aw at h;simp [World.frozen?,h]
theorem aw.keep (h:aw w g e cur) (a:w'.heap[g]?=w.heap[g]?):aw w' g e cur:=a.trans h
theorem wA:∀ (a:List ZY) (o:Nat) (cur:Array ZY),o+a.length<=cur.size->uy cur o a=(cur.toList.take o++a++cur.toList.drop (o+a.length)).toArray
 | [],o,cur,_=>by simp [uy]
 | v::r,o,cur,h=>by
  simp only [Ty] at h ⊢;unfold uy;rw [wA r (o+1) (cur.setIfInBounds o v) (by simp;omega),Array.toList_setIfInBounds];have e:(cur.toList.set o v).take (o+1)=cur.toList.take o++[v]:=by
   rw [Tz,List.take_set_of_le (Nat.le_refl o),List.getElem?_set_self (by simp;omega)];rfl
  have b:(cur.toList.set o v).drop (o+1+r.length)=cur.toList.drop (o+(r.length+1)):=by
   rw [List.drop_set_of_lt (by omega),show o+1+r.length=o+(r.length+1) by omega]
  rw [e,b];simp
theorem aw.set (h:aw w g e cur) (o:Nat) (a:List ZY) (ho:o+a.length<=cur.length):aw (w.setCells g o a) g e (cur.take o++a++cur.drop (o+a.length)):=by
 unfold aw at h ⊢;rw [jq a o w h,wA a o cur.toArray (by simpa using ho)]
theorem fX (w:ZZ) (l z A elem:TypeId) (k:Nat) (g o a d b h c f:Nat) (e:TypeId) (cur cs:List ZY)
 (y:P.underlying l=Z1 (.slice elem)) (q:(P.info? elem).map (·.size)=Z1 k) (x:cs.length=Nat.min c a*k)
 (s:∀ j v,cs[j]?=Z1 v->w.cell? ⟨b,h+j,Z2⟩=Z1 v) (m:aw w g e cur) (ho:o+cs.length<=cur.length) (r:∀ v∈cs,v.oneCell'=Z0) :
 (Builtin.copy_ #[l,z] A #[Z6 (Z1 ⟨g,o,Z2⟩) a d,Z6 (Z1 ⟨b,h,Z2⟩) c f]).run P w=.ok (goInt (Nat.min c a)) (w.setCells g o cs):=by
 have u:=run_loadCells_list (P:=P) w ⟨b,h,Z2⟩ cs (λj v p=>by rw [Addr.add_mid];exact s j v p);have n:=run_storeCells_cells (P:=P) g o cs 0 w (λj p=>by
  rw [Tw];rw [m.cell (Tu (by omega:o+j<cur.length))];rfl) (λj _=>m.thaw _) r
 cases hq:P.info? elem with
 | none=>simp [hq] at q
 | some i=>
  have t:i.size=k:=by simpa [hq] using q
  simp only [Tw] at n;simp [Builtin.copy_,run_underlying y,Builtin.lenOf,Builtin.firstCells,sizeOf,typeInfo,hq,t,<- x,u,n]
theorem tu (w:ZZ) (t e k:TypeId) (z:ZY) (g o n c:Nat) (d:TypeId) (cur:List ZY) (h:P.underlying t=Z1 (.slice e)) (i:∀ w,(zeroValue e).run P w=.ok z w) (p:0<n)
 (a:aw w g d cur) (ho:o+(Builtin.zeroCells z.cells n).toList.length<=cur.length) (f:∀ v∈(Builtin.zeroCells z.cells n).toList,v.oneCell'=Z0) :
 (Builtin.clear_ #[t] k #[Z6 (Z1 ⟨g,o,Z2⟩) n c]).run P w=.ok (.tuple #[]) (w.setCells g o (Builtin.zeroCells z.cells n).toList):=by
 have b:=run_storeCells_cells (P:=P) g o (Builtin.zeroCells z.cells n).toList 0 w (λj l=>by
  rw [Tw];rw [a.cell (Tu (by omega:o+j<cur.length))];rfl) (λj _=>a.thaw _) f
 simp only [Tw] at b;obtain ⟨m,rfl⟩:∃ m,n=m+1:=⟨n-1,by omega⟩;simp [Builtin.clear_,run_underlying h,i,b]
def jw (x:Ob×ZY):List ZY:=[Z3 x.1.name,Z8 Z9 (x.1.size:Nat),x.2]
def bQ (L:List (Ob×ZY)):List ZY:=L.flatMap jw
theorem cf (L:List (Ob×ZY)):(bQ L).length=L.length*3:=by
 induction L with
 | nil=>rfl
 | cons x L ih=>unfold bQ at ih ⊢;rw [TG,Tm,ih,Ty];simp [jw];omega
theorem iK (L M:List (Ob×ZY)):bQ (L++M)=bQ L++bQ M:=by unfold bQ;rw [TA]
theorem A0 (L:List (Ob×ZY)) (k:Nat):(bQ L).take (k*3)=bQ (L.take k):=by
 by_cases h:k<=L.length
 . have e:bQ L=bQ (L.take k)++bQ (L.drop k):=(by rw [<- iK,TF]);have a:(bQ (L.take k)).length=k*3:=(by rw [cf,Tv];omega);rw [e,List.take_append_of_le_length (by omega),Tp (by omega)]
 . rw [Tp (by rw [cf];omega),Tp (by omega)]
theorem tw (L:List (Ob×ZY)) (k:Nat):(bQ L).drop (k*3)=bQ (L.drop k):=by
 by_cases h:k<=L.length
 . have e:bQ L=bQ (L.take k)++bQ (L.drop k):=(by rw [<- iK,TF]);have a:(bQ (L.take k)).length=k*3:=(by rw [cf,Tv];omega);rw [e,<- a,List.drop_left]
 . rw [TR (by rw [cf];omega),TR (by omega)];rfl
theorem Kh (L:List (Ob×ZY)) (k:Nat) (d:k<L.length):(bQ L)[k*3]?=Z1 (Z3 L[k].1.name)/\(bQ L)[k*3+1]?=Z1 (Z8 Z9 (L[k].1.size:Nat))/\(bQ L)[k*3+2]?=Z1 L[k].2:=by
 have e:∀ j,(bQ L)[k*3+j]?=(bQ (L.drop k))[j]?:=λj=>by rw [<- tw,List.getElem?_drop]
 have a:=e 0;have b:=e 1;have c:=e 2;rw [List.drop_eq_getElem_cons d] at a b c;exact ⟨a,b,c⟩
theorem Ey {x:Ob×ZY} (h:∃ c sl b,x.2=.slice c sl b):∀ u∈jw x,u.oneCell'=Z0:=by
 obtain ⟨c,sl,b,e⟩:=h;intro u a;simp only [jw,TP,List.not_mem_nil,or_false] at a;rcases a with rfl|rfl|rfl
 . rfl
 . rfl
 . rw [e];rfl
def L9 (K:Nat->Prop) (w:ZZ) (L:List (Ob×ZY)):Prop:=∀ x∈L,bK K w x.2 x.1.stripes
theorem L9.one {L:List (Ob×ZY)} (h:L9 K w L):∀ u∈bQ L,u.oneCell'=Z0:=by
 intro u a;unfold bQ at a;rw [List.mem_flatMap] at a;obtain ⟨x,f,d⟩:=a;obtain ⟨b,c,e,_⟩:=h x f;exact Ey ⟨b,_,c,e⟩ u d
theorem bK.widen {K':Nat->Prop} (h:bK K w v l) (g:∀ k,K k->K' k):bK K' w v l:=by
 obtain ⟨a,c,d,e,f⟩:=h;refine ⟨a,c,d,e,λi=>?_⟩;obtain ⟨b,off,j,m,n⟩:=f i;exact ⟨b,off,j,g b m,n⟩
theorem Ma {os:List Ob} (h:gz K w v os):∃ L:List (Ob×ZY),L.map (·.1)=os/\L9 K w L/\∀ w',eM K w w'->Src ZX 3 119 v L.length (bQ L) w':=by
 obtain ⟨B,c,rfl,O,D⟩:=h;by_cases s:os=[]
 . subst s;refine ⟨[],rfl,λx l=>by simp at l,λw' _=>?_⟩;cases B with
   | none=>exact Src.ofNil w' Tryz.underlying119 c
   | some A=>exact Src.ofSlice w' Tryz.underlying119 A 0 c [] rfl (λj u a=>by simp at a) (λu J=>by simp at J)
 . obtain ⟨b,off,rfl,hK,G,r⟩:=D s;have E:∃ f:Nat->ZY,∀ i (d:i<os.length),w.cell? ⟨b,off+i*3,Z2⟩=Z1 (Z3 os[i].name)/\w.cell? ⟨b,off+i*3+1,Z2⟩=Z1 (Z8 Z9 (os[i].size:Nat))/\w.cell? ⟨b,off+i*3+2,Z2⟩=Z1 (f i)/\bK K w (f i) os[i].stripes:=by
    refine ⟨λi=>if d:i<os.length then Classical.choose (r i d) else .nilIface,λi d=>?_⟩;have:=Classical.choose_spec (r i d);simpa [d] using this
   obtain ⟨f,z⟩:=E;obtain ⟨L,y⟩:∃ L:List (Ob×ZY),L=os.zipIdx.map (λq=>(q.1,f q.2)):=⟨_,rfl⟩;have p:L.length=os.length:=(by rw [y];simp);have g:∀ i (d:i<os.length),L[i]'(by omega)=(os[i],f i):=λi d=>by subst y;simp
   have t:L9 K w L:=λx l=>by
    obtain ⟨i,d,e⟩:=Ts l;rw [g i (by omega)] at e;rw [<- e];exact (z i (by omega)).2.2.2
   refine ⟨L,?_,t,?_⟩
   . refine TS (by simp [p]) λi M C=>?_;rw [Tt,g i C]
   . intro w' H;have k:=H.2 b G hK;rw [<- p];refine Src.ofSlice w' Tryz.underlying119 ⟨b,off,Z2⟩ L.length c (bQ L) (cf L) (λj u a=>?_) t.one;rw [Addr.add_mid];have N:j<L.length*3:=(by obtain ⟨q,_⟩:=List.getElem?_eq_some_iff.1 a;rwa [cf] at q);have I:j/3<L.length:=(by omega);obtain ⟨m,n,o⟩:=Kh L (j/3) I;obtain ⟨b0,b1,b2,_⟩:=z (j/3) (by omega);rw [g (j/3) (by omega)] at m n o;have F:j=j/3*3\/j=j/3*3+1\/j=j/3*3+2:=(by omega);rcases F with q|q|q
     . rw [q,m] at a;rw [q,<- a];exact (World.cell?_of_block k).trans b0
     . rw [q,n] at a;rw [q,<- a,<- Tx];exact (World.cell?_of_block k).trans b1
     . rw [q,o] at a;rw [q,<- a,<- Tx];exact (World.cell?_of_block k).trans b2
theorem tz {u:ZY} {L:List (Ob×ZY)} (h:w.ownsRow base 123 3 u L.length (bQ L)) (q:L.length<=1000000) (hK:∀ k,base<=k->K k) (n:L9 K w L):gz K w u (L.map (·.1)):=by
 rcases h.2 with ⟨rfl,r⟩|⟨g,cap,cur,rfl,o,d,s,t,v,m⟩
 . have:L=[]:=List.eq_nil_of_length_eq_zero r;subst this;exact gz.nil _ _
 . refine ⟨Z1 ⟨g,0,Z2⟩,cap,by rw [Tq],by rw [Tq];exact q,λ_=>⟨g,0,rfl,hK g o,(TQ.1 d).1,λi b=>?_⟩⟩;rw [Tq] at b;obtain ⟨e,f,l⟩:=Kh L i b;have a:∀ j u,j<L.length*3->(bQ L)[j]?=Z1 u->w.cell? ⟨g,0+j,Z2⟩=Z1 u:=λj u p c=>by
    rw [<- m,List.getElem?_take_of_lt p] at c;rw [TC];simp [World.cell?,d];simpa using c
   refine ⟨L[i].2,?_,?_,?_,?_⟩
   . rw [Tt];exact a _ _ (by omega) e
   . rw [Tt,Tx];exact a _ _ (by omega) f
   . rw [Tx];exact a _ _ (by omega) l
   . rw [Tt];exact n _ (To b)
end
section
open Go.Deep Gf
theorem mR (n m:Nat) (h:n<=1000000) (f:1<=m/\m<=1000000) (w:ZZ):Calls ZX 100 #[Z8 Z9 n,Z8 Z9 m] w λe w'=>e=.returned (Z8 Z9 ((max 1 ((n+m-1)/m):Nat):Int))/\w'=w:=by
 have a:=sO n m (by omega) f w;obtain ⟨q,b⟩:=nM ((n+m-1)/m);rw [b] at a;rw [b];have g:∀ (d:TypeId) (w:ZZ),(Builtin.max_ #[3,3] d #[Z8 Z9 1,Z8 Z9 (q:Int)]).run ZX w=.ok (Z8 Z9 ((max 1 q:Nat):Int)) w:=λd w=>by
  rw [lj];congr 2;split<;>omega
 clear b;go_enter Tryz.func100,Tryz.ntmps100;go_wp2_with fail;refine a.mono ?_;rintro e w' ⟨rfl,c⟩;obtain rfl:w=w':=c.symm;clear a c;go_wp2;go_ret;exact ⟨rfl,rfl⟩
end
section
open Go.Deep Gf
section
variable {P:List St} {A B:List (List Nat)} (h:∀ k,k<P.length->(bI P k).k=0->A.getD (bI P k).b.toNat []=B.getD (bI P k).b.toNat [])
include h
theorem za:∀ k,k<=P.length->fl P A k=fl P B k
 | 0,_=>rfl
 | k+1,hk=>by
  have ih:=za k (by omega);unfold fl;rw [ih];cases fl P B k with
  | some n=>rfl
  | none=>
   show (if (bI P k).k=0 then _ else _)=if (bI P k).k=0 then _ else _;by_cases a:(bI P k).k=0
   . rw [if_pos a,if_pos a,h k (by omega) a]
   . rw [if_neg a,if_neg a]
theorem tS (b:List (List Nat)):∀ k,k<=P.length->bO P A b k=bO P B b k
 | 0,_=>rfl
 | k+1,hk=>by
  unfold bO;rw [tS b k (by omega)];unfold dA;by_cases a:(bI P k).k=0
  . rw [if_pos a,if_pos a,h k (by omega) a]
  . rw [if_neg a,if_neg a]
theorem tT (a:List (List Nat)):∀ k,k<=P.length->dj P A a k=dj P B a k
 | 0,_=>rfl
 | k+1,hk=>by
  unfold dj;rw [tT a k (by omega),tS h a k (by omega)]
theorem Bu:er P A=er P B:=by unfold er;rw [za h _ lR]
theorem KF {y:Nat} (f:gu P B y) (g:∀ k,k<P.length->(bI P k).k=0->¬ oz x (bI P k).b.toNat):gu P A x:=λk c a=>by
 obtain ⟨_,d,e⟩:=f k c a;rw [<- za h (k+1) (by omega),<- h k c a] at d;rw [<- h k c a] at e;exact ⟨g k c a,d,e⟩
end
theorem Mp {D L G s d:Nat} {C:Ck} {dl Dl:List (List Nat)} (y:1<=D) (n:D<=12) (o:G<=4) (t:D%L=0) (f:D+L+G<=16) (j:tells (fE D L G) (ae (av (D+L+G) s))=Z1 C) (B:d<D+L+G) (K:s.testBit d=Z0) (u:dl.length=D) (M:∀ l∈dl,∀ x∈l,x<256)
 (e:∀ i,(zk (cK D L G s C)).testBit i=Z0->Dl.getD i []=(dB (aL D L G) dl 44).getD i []/\x.testBit i=false) :
 gu (cK D L G s C) Dl x/\dj (cK D L G s C) Dl (eL (1+(ae (av (D+L+G) s)).length) (er (cK D L G s C) Dl)) (cK D L G s C).length=(ae (av (D+L+G) s)).map (λd:Nat=>((d:Int),(dB (aL D L G) dl 44).getD d [])):=by
 have h:∀ k,k<(cK D L G s C).length->(bI (cK D L G s C) k).k=0->(zk (cK D L G s C)).testBit (bI (cK D L G s C) k).b.toNat=Z0:=λk e a=>by
  rw [dI _ _ e] at a ⊢;exact (ry _ _).2 ⟨_,To e,a,rfl⟩
 have g:∀ k,k<(cK D L G s C).length->(bI (cK D L G s C) k).k=0->Dl.getD (bI (cK D L G s C) k).b.toNat []=(Hk (dB (aL D L G) dl 44) s).getD (bI (cK D L G s C) k).b.toNat []:=λk c a=>by
  rw [(e _ (h k c a)).1];rw [dI _ _ c] at a ⊢;obtain ⟨i,z,I,J⟩:=lF f (To c) a;rw [z,Int.toNat_natCast,xY _ _ _ (by rw [yt,de];exact I),if_neg (by rw [J];decide)]
 refine ⟨KF g (L1 f (by decide)) λk c a H=>?_,?_⟩
 . have:=(e _ (h k c a)).2;rw [oD.1 H] at this;cases this
 . obtain ⟨O,w,E,A⟩:=L2 (m:=44) (Dt:=dl) n o f j u M;have F:=Mo y n o t f j B K;rw [tT g _ _ lR,Bu g,w];refine TS (by simp [E]) λk r N=>?_;have v:k<(ae (av (D+L+G) s)).length:=(by omega);obtain ⟨p,q⟩:=A k r v;rw [Tt,<- p,<- q F]
end
end Go.Proofs.YtfbmmcnpjhmjaaaGreatDoor
