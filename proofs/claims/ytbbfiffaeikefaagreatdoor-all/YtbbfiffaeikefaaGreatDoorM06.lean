import Derived.Test.YtbbfiffaeikefaaGreatDoorM05
import Derived.OwnWalk
import Derived.Lib.BufferWrite
import Derived.Lib.AppendZerosOnto
import Derived.Laws.Cover1
import Derived.Lib.UnsafeStr
import Derived.Lib.Overlaps
import Derived.Laws.Externs
import Derived.Shelf.RegionOpenPlain
import Derived.RangeFuncRecord
import Derived.Deep.RegionHeld3
import Derived.Laws.BytesString
import Derived.Laws.CopyRow
import Derived.Laws.IdiomStrings
set_option maxRecDepth 100000
set_option linter.all false
set_option maxHeartbeats 8000000
open Go.IntKind renaming i64 -> Z9, u64 -> Z8
open Go.Value renaming int -> Z7, pointer -> Z6, slice -> Z5, bool -> Z1, string -> ZZ, tuple -> ZY
open Go.Obj renaming cells -> Z4
open Go.Ending renaming returned -> Z3
open Go.Operand renaming tmp -> Z0
open Go renaming undef -> ZX, World -> ZS, Value -> ZR, Calls -> ZP, Ending -> ZO, TypeId -> ZN, Operand -> ZM
open Option renaming none -> ZW, some -> ZV
open Bool renaming true -> ZU, false -> ZT
open Go.RowKit renaming Below -> ZQ
open List renaming replicate -> YE, range -> YF, takeWhile_cons -> YJ, take_take -> YK, length -> YL, drop_sublist -> YN, map_singleton -> YR, map_replicate -> YS, drop_left -> YT, drop_eq_nil_of_le -> YU
open Exists renaming intro -> YG
open ByteArray renaming empty -> YH
open Nat renaming min -> YI, min_self -> YQ, succ_lt_succ -> YV, le_of_lt_succ -> YW
open List.Pairwise renaming sublist -> YM
open List.Sublist renaming append -> YO, refl -> YP
open Array renaming toList_append -> YX
open Go.Proofs.Tryz renaming prog -> ZL
open Go.Proofs.Tryz
namespace Go.Proofs.YtbbfiffaeikefaaGreatDoor
def Yk:=@Go.ByteArray.toList_eq
def XR:=@List.mem_flatMap
def XS:=@Go.Src.ofNil
def Vw:=@Go.Proofs.Tryz.underlying133
def Yl:=@Bool.or_eq_false_iff
def XT:=@Nat.eq_or_lt_of_le
def Ym:=@List.getElem_drop
def Yn:=@Nat.div_le_div_right
def Yo:=@Go.Lib.size_eq
def WG:=@Go.Boxed.cell
def ab4:=@Go.World.grownBy_alloc
def ab5:=@Go.Proofs.Tryz.underlying228
def Yp:=@Go.Proofs.Tryz.underlying264
def abB:=@Go.Proofs.Tryz.underlying9
end Go.Proofs.YtbbfiffaeikefaaGreatDoor
namespace Go.Proofs.YtbbfiffaeikefaaGreatDoor
open Go.RowKit Go.Deep Gf Go.Shelf
variable {a:Act} {ops:Array Oper} {s:ByteArray} {C:Ck} {Q:Exit->Act->ZS->Prop} {F:aQ} {fn:Func} {regs lost room:Int} {T:List (Nat×Nat×a8)} {es:List (Nat×Nat×Nat)} {ns:List ByteArray} {l P dl P' ds:a8} {rest:List Oper} {pre:List Sh} {cur:List ZR} {g q base n size p D L G ps ho x b c i m k B t cap N d gone sp B0 bl g' cap' kept sb:Nat} {Dn:Nat->Bool} {R M:Nat->a8} {ol nw:Nat->Nat} {K K' S:Nat->Prop} {f f0:Nat->ZR} {ob:Obj} {o:Oper} {row:Option Nat} {E:Prop} {A:gQ} {r:bw} {α:Type} {e:ZN} {v u y steps ne:ZR} {w w' X Y w2:ZS}
def fG (s:ByteArray):a8:=s.toList.map (λ(b:UInt8)=>b.toNat)++YE (16-s.size) 0
def bP (o:Ob):a8:=be o.name.size 1++fG o.name++be o.size 2++o.RL.flatMap (λs=>be s 4)
def ai (os:List Ob):a8:=os.flatMap bP
structure Ob.fit (o:Ob):Prop where
 name:1<=o.name.size/\o.name.size<=16
 size:o.size<=1500
 st:∀ s∈o.RL,s<4294967296
 len:o.RL.length<=1000
def yC (l:a8):(l.flatMap (λs=>be s 4)).length=4*l.length:=by
 induction l with
 | nil=>rfl
 | cons x l ih=>rw [VN,T8,ih,aC,UD];omega
def mB (h:s.size<=16):(fG s).length=16:=by
 unfold fG;rw [T8,T9,XX,Yk];have:s.data.toList.length=s.size:=by rw [Ww];rfl
 omega
def dh {o:Ob} (h:o.fit):(bP o).length=19+4*o.RL.length:=by
 unfold bP;rw [T8,T8,T8,aC,aC,mB h.name.2,yC]
def kS (os:List Ob) (k:Nat) (a:k<os.length):ai (os.take (k+1))=ai (os.take k)++bP os[k]:=by
 unfold ai;rw [Vh,Ua a,WD];simp
theorem fZ (k:Nat) (b:k<=1000000) (w:ZS):ZP ZL 99 #[Z7 Z9 k] w λe w'=>e=Z3 (Z7 Z9 ((19+4*k:Nat):Int))/\w'=w:=by
 have a:((19+4*k:Nat):Int)=19+4*(k:Int):=by omega
 rw [a];go_enter func99,ntmps99;go_wp2;go_ret;exact ⟨rfl,rfl⟩
def LnR (w:ZS) (os:List Ob) (s i:ZR) (wr:ZS):Prop:=∃ k:Nat,k<=os.length/\i=Z7 Z9 k/\s=Z7 Z9 (((ai (os.take k)).length:Nat):Int)/\bW w wr
theorem uy {os:List Ob} (I:eN K w v os) (j:∀ o∈os,o.fit) (P:os.length<=10000):ZP ZL 84 #[v] w λe w'=>e=Z3 (Z7 Z9 (((ai os).length:Nat):Int))/\bW w w':=by
 obtain ⟨ao,c,rfl,_,l⟩:=I;have g:∀ k,k<=os.length->(ai (os.take k)).length<=k*5000:=by
  intro k D;induction k with
  | zero=>simp [ai]
  | succ k ih=>
   have f:k<os.length:=(by omega);have:=ih (by omega);have A:=j _ (TY f);rw [kS os k f,T8,dh A];have:=A.len;omega
 obtain ⟨N,p⟩:=nM (os.length);have r:=a5 l j g p;rw [p] at P ⊢;clear l j g p;go_enter func84,ntmps84;go_wp2_with fail;go_loopw [3,8] (λs i wr=>LnR w os s i wr) (λ_ i _=>N-(intOf i).toNat)
 case atStart=>exact ⟨0,T5 _,rfl,rfl,TW _ _⟩
 case round=>
  obtain ⟨k,D,rfl,rfl,d⟩:=hrel;rw [r.o.2.2.2] at D;by_cases X:k<N
  . obtain ⟨l,j,g,p⟩:=r.o;have f:k<os.length:=(by omega);obtain ⟨b,off,rfl,W,u,z⟩:=l (λe=>by rw [e] at f;cases f);obtain ⟨U,c0,c1,y,J⟩:=z k f;obtain ⟨T,Z,Q,R,_⟩:=J;have F:wr.cell? ⟨b,off+k*3,ZW⟩=ZV (ZZ os[k].name):=(Uk (d.block b u.lt)).trans c0;have d1:wr.cell? ⟨b,off+k*3+1,ZW⟩=ZV (Z7 Z9 (os[k].size:Nat)):=(Uk (d.block b u.lt)).trans c1;have G:wr.cell? ⟨b,off+k*3+2,ZW⟩=ZV U:=(Uk (d.block b u.lt)).trans y;subst Q;have M:=g k (by omega);have O:=g (k+1) (by omega);have n:(ai (os.take (k+1))).length=(ai (os.take k)).length+(19+4*os[k].RL.length):=(by rw [kS os k f,T8,dh (j _ (TY f))]);obtain ⟨a,x⟩:=nM ((ai (os.take k)).length);obtain ⟨V,h⟩:=nM ((ai (os.take (k+1))).length);obtain ⟨m,t⟩:=nM (os[k].RL.length);obtain ⟨nm,B⟩:=nM (os[k].name);obtain ⟨sz,C⟩:=nM (os[k].size);rw [x,h,t] at n;rw [x] at M ⊢;rw [h] at O;rw [t] at G;rw [B] at F;rw [C] at d1;rw [t] at R;have S:=d.size;have H:=aE d h n;have hr:((k:Nat):Int).toNat=k:=(by omega);clear d c0 c1 y l j g z n x h t B C p;go_wp2_with fail;refine (fZ m (by omega) _).mono ?_;obtain ⟨q,E⟩:=nM (19+4*m);rw [E];rintro e w2 ⟨rfl,rfl⟩;have Y:a+q<=100000000:=(by have:=H.o.2.2;omega);go_wp2;obtain ⟨d,h,n⟩:=H.o;refine ⟨⟨k+1,by rw [r.o.2.2.2];omega,by go_num,?_,d.alloc S _⟩,by simp [intOf];omega⟩;rw [h,n,E];first|rfl|(congr 1)
  . have L:k=N:=(by omega);subst L;have H:=ak d;clear d;go_wp2;go_ret;refine ⟨?_,H.o⟩;rw [UI (by rw [r.o.2.2.2];exact TV _)];rfl
theorem CC (s:ByteArray):(List.take 0 (aH (YE 16 0))++Lib.byteCells s.data.toList++List.drop (0+s.size) (aH (YE 16 0))).toArray=(aH (fG s)).toArray:=by
 congr 1;unfold fG aH Lib.byteCells;rw [Yk,YS,Wm,Uo,Ui,X1,Uv,YS,List.map_map];rfl
def Oh (w:ZS) (g:Nat) (s:ByteArray) (Dn:Nat->Bool) (w':ZS):Prop:=w'=if Dn 3=ZU then w.drew.setRow g (aH (fG s)).toArray else w.drew
def Ad (h:Oh w g s Dn w') (i:Nat) (a:3≠i):Oh w g s (mj Dn i) w':=by unfold Oh;rw [gJ a];exact h
theorem LP (h:Oh w g s Dn w') {a:Addr} (c:a.block≠g) {v:ZR} (b:w.cell? a=ZV v):w'.cell? a=ZV v:=by
 unfold Oh at h;subst h;split
 . exact (Uk ((aL w.drew g _).block a.block (Ub b) (λe=>c (UJ e)))).trans b
 . exact b
noncomputable def RK6:Array Oper:=((Tryz.f118.body.bind (DA · 6))).getD #[]
def aa7:List (Op×Option Nat×a8):=[(Op.slice 249 (Z0 6) ZW ZW ZW,ZV 18,[]),
 (Op.fieldAddr 137 (Z0 5) 0,ZV 19,[]),
 (Op.load 9 (Z0 19),ZV 20,[1]),
 (Op.call { callee:=Callee.builtin Builtin.copy,args:=#[Z0 18,Z0 20],argTypes:=#[39,9] },ZV 21,[0,2])]
def II:bD RK6 18 22 aa7:=eQ (by kernel_rfl) (by kernel_rfl)
def aa8 (g q:Nat) (s:ByteArray):List ZR:=[Z5 (ZV ⟨g,0,ZW⟩) 16 16,Z6 (ZV ⟨q,0,ZW⟩),ZZ s,Z7 Z9 (s.size:Nat)]
theorem Ae (x:s.size<=16) (D:w.heap[g]?=ZV (Z4 (aH (YE 16 0)).toArray 249 (0,0))) (G:w.cell? ⟨q,0,ZW⟩=ZV (ZZ s)) (E:q≠g) (A:RK6=ops) (t:a.tmps.size=50)
 (y:a.eval (Z0 5)=Z6 (ZV ⟨q,0,ZW⟩)) (z:a.eval (Z0 6)=Z6 (ZV ⟨g,0,ZW⟩))
 (C:∀ (w':ZS),w'=w.drew.setRow g (aH (fG s)).toArray->Q .normal (Act.RQ a 18 [Z5 (ZV ⟨g,0,ZW⟩) 16 16,Z6 (ZV ⟨q,0,ZW⟩),ZZ s,Z7 Z9 (s.size:Nat)]) w'):(Code.region 6 ops ZU).wp ZL Q a w:=by
 subst A;have t:(ZL.info? 5).map (λi=>i.size)=ZV 1:=by kernel_rfl
 refine gj (by kernel_rfl) II a w (by omega) (λi u _=>u=(aa8 g q s).getD i ZX) (Oh w g s) rfl ?_ ?_
 . intro i p;match i,p with
   | 0,_=>
    intro o d w' Dn m ho f j k l h b c;have u0:d.eval (Z0 6)=Z6 (ZV ⟨g,0,ZW⟩):=(j.slot 6 (by omega)).trans z;exact aJ (v:=Z5 (ZV ⟨g,0,ZW⟩) 16 16) (by (conv at ho=>rhs;whnf);simp only [execOp,ho,u0];go_simp) f ⟨Ad b 0 (by decide),rfl,kq⟩
   | 1,_=>
    intro o d w' Dn m ho f j k l h b c;have u0:d.eval (Z0 5)=Z6 (ZV ⟨q,0,ZW⟩):=(j.slot 5 (by omega)).trans y;exact aJ (v:=Z6 (ZV ⟨q,0,ZW⟩)) (by (conv at ho=>rhs;whnf);simp only [execOp,ho,u0];go_simp) f ⟨Ad b 1 (by decide),rfl,kq⟩
   | 2,_=>
    intro o d w' Dn m ho f j k l h b c;have u0:d.eval (Z0 19)=Z6 (ZV ⟨q,0,ZW⟩):=c 1 (h 1 (by decide));have I:w'.cell? ⟨q,0,ZW⟩=ZV (ZZ s):=LP b E G;exact aJ (v:=ZZ s) (by (conv at ho=>rhs;whnf);simp only [execOp,ho,u0];go_simp) f ⟨Ad b 2 (by decide),rfl,kq⟩
   | 3,_=>
    intro o d w' Dn m ho f j k l h b c;have u0:d.eval (Z0 18)=Z5 (ZV ⟨g,0,ZW⟩) 16 16:=c 0 (h 0 (by decide));have u1:d.eval (Z0 20)=ZZ s:=c 2 (h 2 (by decide));have H:w'=w.drew:=(by have:=b;unfold Oh at this;rw [TS (by rw [k];decide)] at this;exact this);subst H;have r:=Lib.run_copy_row_string (P:=ZL) w.drew 39 9 o.type 5 g 0 16 16 s (aH (YE 16 0)).toArray 249 Ul t D x (by rw [UH,aX];simpa using x);rw [show (aH (YE 16 0)).toArray.toList=aH (YE 16 0) from rfl,CC s] at r;exact aJ (v:=Z7 Z9 (s.size:Nat)) (by
     (conv at ho=>rhs;whnf);simp only [execOp,ho,resolve,invoke,builtin,Ux,Vf,UM,V3,UG,Vg,u0,u1,r];rfl) f ⟨by unfold Oh;rw [TT QN],rfl,kq⟩
   | n+4,hn=>exact absurd hn (by show ¬ n+4<4;omega)
 . rintro d w' F J ⟨Dn,B,b⟩ c;have e:d=Act.RQ a 18 [Z5 (ZV ⟨g,0,ZW⟩) 16 16,Z6 (ZV ⟨q,0,ZW⟩),ZZ s,Z7 Z9 (s.size:Nat)]:=F.out _ rfl (by omega) (λi p=>?_)
   . rw [e];exact C w' (by unfold Oh at b;rw [TT (B 3 (by decide))] at b;exact b)
   . match i,p with
     | 0,_=>exact c 0 (by decide)
     | 1,_=>exact c 1 (by decide)
     | 2,_=>exact c 2 (by decide)
     | 3,_=>exact c 3 (by decide)
     | n+4,hn=>exact absurd hn (by simp)
structure Pk (w:ZS) (l:a8) (v:ZR) (wr:ZS):Prop where
 own:wr.ownsRow w.heap.size 5 1 v l.length (aH l)
 some_:v.ownBlock≠ZW
 below:bW w wr
def CD {xs:List ZR} (h:w.ownsRow base e size v n xs) (c:0<n):v.ownBlock≠ZW:=by
 rcases h.2 with ⟨_,b⟩|⟨g,cap,cur,a,_⟩
 . omega
 . rw [a];simp [Value.ownBlock]
def Pk.out {wr:ZS} (h:Pk w l v wr) {S:Nat->Prop} (a:aa S wr w') (b:∀ k,S k->w.heap.size<=k) (d:∀ k,v.ownBlock=ZV k->¬ S k):Pk w l v w':=
 ⟨bV h.own a d,h.some_,⟨a.os.trans h.below.os,a.tape.trans h.below.tape,a.output.trans h.below.output,TU h.below.size a.size,λk c=>(a.block k (by have:=h.below.size;omega) (λq=>by have:=b k q;omega)).trans (h.below.block k c)⟩⟩
def Pk.num {wr:ZS} (h:Pk w l v wr) (n s:Nat) (d:s<=8) (g:0<s) (hl:l.length<=1000000000) :
 ZP ZL 147 #[v,Z7 Z8 n,Z7 Z9 s] wr λe w'=>∃ b,e=Z3 b/\Pk w (l++be n s) b w'/\aa (λj=>v.ownBlock=ZV j) wr w':=by
 refine (fQ w.heap.size v l.length (aH l) n s wr h.own h.below.size d hl).mono ?_;rintro e w' ⟨b,rfl,ho,a,f⟩;refine ⟨b,rfl,⟨?_,CD ho (by omega),?_⟩,a⟩
 . rw [bM,T8,aC];exact ho
 . exact ⟨a.os.trans h.below.os,a.tape.trans h.below.tape,a.output.trans h.below.output,TU h.below.size a.size,λk c=>(a.block k (by have:=h.below.size;omega) (λq=>by have:=eh h.own q;omega)).trans (h.below.block k c)⟩
def Oi {wr:ZS} (h:Pk w l v wr):w.heap.size<=wr.heap.size:=h.below.size
def PsR (w:ZS) (pre:a8) (st:a8) (v i:ZR) (wr:ZS):Prop:=∃ j:Nat,j<=st.length/\i=Z7 Z9 j/\Pk w (pre++(st.take j).flatMap (λs=>be s 4)) v wr
def aa9 (w:ZS) (os:List Ob) (v i:ZR) (wr:ZS):Prop:=∃ k:Nat,k<=os.length/\i=Z7 Z9 k/\Pk w (ai (os.take k)) v wr
def QU (w:ZS) (os:List Ob) (e:ZO) (w':ZS):Prop:=∃ g cap,e=Z3 (Z5 (ZV ⟨g,0,ZW⟩) (ai os).length cap)/\w'.ownsRow w.heap.size 5 1 (Z5 (ZV ⟨g,0,ZW⟩) (ai os).length cap) (ai os).length (aH (ai os))/\bW w w'
theorem yD {os:List Ob} (hC:eN K w v os) (A:∀ o∈os,o.fit) (qi:os.length<=10000):ZP ZL 118 #[v] w λe w'=>QU w os e w':=by
 obtain ⟨ib,qf,hy,hz,k0⟩:=Us Tryz.R4;have G:∀ k,k<=os.length->(ai (os.take k)).length<=k*5000:=by
  intro k D;induction k with
  | zero=>simp [ai]
  | succ k ih=>
   have z:k<os.length:=(by omega);have:=ih (by omega);have l:=A _ (TY z);rw [kS os k z,T8,dh l];have:=l.len;omega
 have kh:=uy hC A qi;have hp:=G os.length lR;rw [UI lR] at hp;obtain ⟨ao,c,rfl,_,P⟩:=hC;obtain ⟨N,J⟩:=nM (os.length);obtain ⟨M,I⟩:=nM ((ai os).length);rw [I] at kh hp;have W:=a6 P A G J I;rw [J] at qi kh hp ⊢;clear P A G J I;go_enter func118,ntmps118;go_wp2_with fail;refine kh.mono ?_;rintro e w1 ⟨rfl,kr⟩;have x6:=kr.size;have H1:=ak kr;clear kr kh;go_wp2_with (at_make;refine abY w1 rfl (.const (Z7 Z9 0)) (Z0 10) 39 rfl w.heap.size 5 ib (Z7 .u8 0) 1 Ul qf hy hz .i64 .i64 _ M (by rfl) (by rfl) rfl (by rw [k0];omega) (by unfold maxLen;omega) x6 ?_;intro w2 qh qe);have q9:Pk w [] (Z5 (ZV ⟨w1.heap.size,0,ZW⟩) 0 M) w2:=⟨qh,by simp [Value.ownBlock],H1.o.grown qe H1.o.size (λk e=>by cases e)⟩;have H2:=ak q9;clear q9 qh qe;go_loopw [3,14] (λv i wr=>aa9 w os v i wr) (λ_ i _=>N-(intOf i).toNat)
 case atStart=>exact ⟨0,T5 _,rfl,H2.o⟩
 case round=>
  clear H2;obtain ⟨k,D,rfl,a⟩:=hrel;rw [W.o.2.2.2.1] at D;by_cases xb:k<N
  . obtain ⟨P,A,G,J,I⟩:=W.o;have z:k<os.length:=(by omega);obtain ⟨b,off,rfl,x7,kv,qc⟩:=P (λe=>by rw [e] at z;cases z);obtain ⟨sv,c0,c1,c2,hI⟩:=qc k z;have l:=A _ (TY z);have d0:wr.cell? ⟨b,off+k*3,ZW⟩=ZV (ZZ os[k].name):=(Uk (a.below.block b kv.lt)).trans c0;have d1:wr.cell? ⟨b,off+k*3+1,ZW⟩=ZV (Z7 Z9 (os[k].size:Nat)):=(Uk (a.below.block b kv.lt)).trans c1;have d2:wr.cell? ⟨b,off+k*3+2,ZW⟩=ZV sv:=(Uk (a.below.block b kv.lt)).trans c2;have qx:=G k (by omega);have y:=kS os k z;obtain ⟨pre,k7⟩:=nM (ai (os.take k));obtain ⟨o,ho⟩:=nM (os[k]);rw [k7] at qx a y;rw [ho] at d0 d1 l hI y;obtain ⟨d,F,x0,x2,Q⟩:=hI;subst x0;obtain ⟨m,L⟩:=nM (o.RL.length);obtain ⟨nm,T⟩:=nM (o.name);obtain ⟨p,U⟩:=nM (o.size);have kx:=l.name;have qq:=l.size;have qp:=l.len;rw [T] at d0 kx;rw [U] at d1 qq;rw [L] at d2 x2 qp;have x5:=a.below.size;have x9:((k:Nat):Int).toNat=k:=(by omega);have ks:bW wr (wr.alloc (Z4 #[ZZ nm,Z7 Z9 (p:Int),.slice d m F] 137)):=bA wr _;have qn:(wr.alloc (Z4 #[ZZ nm,Z7 Z9 (p:Int),.slice d m F] 137)).heap.size=wr.heap.size+1:=(by simp);have q4:(wr.alloc (Z4 #[ZZ nm,Z7 Z9 (p:Int),.slice d m F] 137)).heap[wr.heap.size]?=ZV (Z4 #[ZZ nm,Z7 Z9 (p:Int),.slice d m F] 137 (0,0)):=Ug _ _;obtain ⟨r,x3⟩:=nM (wr.alloc (Z4 #[ZZ nm,Z7 Z9 (p:Int),.slice d m F] 137));rw [x3] at ks qn q4;have n:(r.alloc (Z4 (aH (YE 16 0)).toArray 249)).heap[r.heap.size]?=ZV (Z4 (aH (YE 16 0)).toArray 249 (0,0)):=Ug _ _;have ke:bW r (r.alloc (Z4 (aH (YE 16 0)).toArray 249)):=bA r _;have qo:(r.alloc (Z4 (aH (YE 16 0)).toArray 249)).heap.size=r.heap.size+1:=(by simp);obtain ⟨wb,q6⟩:=nM (r.alloc (Z4 (aH (YE 16 0)).toArray 249));rw [q6] at n ke qo;have E:=(ke.block _ (by omega)).trans q4;have x4:r.alloc (Z4 #[Z7 .u8 0,Z7 .u8 0,Z7 .u8 0,Z7 .u8 0,Z7 .u8 0,Z7 .u8 0,Z7 .u8 0,Z7 .u8 0,Z7 .u8 0,Z7 .u8 0,Z7 .u8 0,Z7 .u8 0,Z7 .u8 0,Z7 .u8 0,Z7 .u8 0,Z7 .u8 0] 249)=wb:=q6;have hr:Pk w pre u3 wb:=(a.out (aa.RN ks (λ_=>False)) (λ_ h=>h.elim) (λ_ _ h=>h)).out (aa.RN ke (λ_=>False)) (λ_ h=>h.elim) (λ_ _ h=>h);have X:=hide7 Q l y ho L T U;have HB:=a5 hr E n qo;clear a P A G J I qc c0 c1 c2 Q l y ho L T U hr E n q6 q4 ks ke k7;go_wp2_with fail;obtain ⟨hr,E,n,ka⟩:=HB.o;rw [qn] at n ka;obtain ⟨q,hq⟩:=nM (wr.heap.size);rw [hq] at E n ka x5;refine Ae (s:=nm) (q:=wr.heap.size) (g:=wr.heap.size+1) kx.2 (by rw [hq];exact n) (by rw [hq];simp [World.cell?,E]) (by omega) (by kernel_rfl) rfl rfl rfl ?_;intro w6 kj;rw [hq] at kj ⊢;have kb:aa (λk=>k=q+1) wb w6:=by
     rw [kj];have R:=aL wb.drew (q+1) (aH (fG nm)).toArray;exact ⟨R.os,R.tape,R.output,R.size,λk D qy=>R.block k D (λe=>qy (UJ e))⟩
    have B:Pk w pre u3 w6:=hr.out kb (λk D=>by omega) (λk D e=>bF hr.own n (by decide) (by rw [D,e]));have C:=(kb.block q (by omega) (by omega)).trans E;have O:w6.heap[q+1]?=ZV (Z4 (aH (fG nm)).toArray 249 (0,0)):=(by rw [kj];exact Vv _ _ _ _ _ _ n);have xc:=kb.size;have q0:w6.cell? ⟨q,0,ZW⟩=ZV (ZZ nm):=(by simp [World.cell?,C]);have qd:=B.num nm.size 1 (by omega) (by omega) (by omega);have H6:=a5 B C O qd;have qz:nm.size<=16:=kx.2;clear hr E n kb B C O qd kj d0 d1 d2;rename_i q7
    refine q7 _ _ ?_;clear q7;simp only [Act.RQ,Act.put,Ue,Uc,Uf];go_wp2_with fail;refine H6.o.2.2.2.mono ?_;rintro e w7 ⟨v7,rfl,kk,kc⟩;obtain ⟨B,C,O,hx⟩:=H6.o;clear hx;have qj:=(kc.block q (by omega) (λe=>bF B.own C (by decide) e)).trans C;have ky:=(kc.block (q+1) (by omega) (λe=>bF B.own O (by decide) e)).trans O;have xd:=kc.size;have kg:(pre++be nm.size 1).length=pre.length+1:=(by rw [T8,aC]);have ki:(fG nm).length=16:=mB qz;have he:Src ZL 1 39 (Z5 (ZV ⟨q+1,0,ZW⟩) 16 16) 16 (aH (fG nm)) w7:=Vn w7 Ul ⟨q+1,0,ZW⟩ 16 16 (aH (fG nm)) (by rw [aX,ki]) (λi u hu=>by
     have h9:w7.cell? ⟨q+1,i,ZW⟩=ZV u:=(by simp [World.cell?,ky];simpa using hu);unfold Addr.add;split
     . rename_i h0;subst h0;exact h9
     . rw [Ui];exact h9) (λu hu=>by obtain ⟨x,_,rfl⟩:=T7.1 hu;rfl)
    have h7:=kk.own;rw [kg] at h7;have t:=a6 kk qj ky he h7;clear B C O kk kc qj ky he h7 q0;have qm:=Oi t.o.1;go_wp2_with (show wpList _ _ _ ({ dst:=ZV 30,op:=_,type:=_,pos:=_,after:=_,guard:=_ }::_) _ _;refine ae _ rfl (Z0 28) (Z0 29) 39 39 rfl w.heap.size 5 ib (Z7 .u8 0) 1 1 Ul qf hy hz k0 rfl v7 (pre.length+1) (aH (pre++be nm.size 1)) (by rfl) (by exact t.o.2.2.2.2) _ (by rfl) 16 (aH (fG nm)) (by exact t.o.2.2.2.1) (by unfold maxLen;omega) (by omega) (by exact qm) ?_;intro v8 w8 kz kf kp;have q3:w8.heap[q]?=ZV (Z4 #[ZZ nm,Z7 Z9 (p:Int),.slice d m F] 137 (0,0)):=(kf.block q (by omega) (λe=>bF t.o.1.own t.o.2.1 (by decide) e.symm)).trans t.o.2.1;have q1:w8.cell? ⟨q,1,ZW⟩=ZV (Z7 Z9 (p:Int)):=(by simp [World.cell?,q3]);have qa:Pk w ((pre++be nm.size 1)++fG nm) v8 w8:=⟨(by rw [bM,T8,kg,ki];exact kz),CD kz (by omega),t.o.1.below.grown kf qm (λj e=>eh t.o.1.own e)⟩;have xe:=kf.size;have V:=al qa q3;clear kz kf kp q3 qa);refine (V.o.1.num p 2 (by omega) (by omega) (by rw [T8,kg,ki];omega)).mono ?_;rintro e w9 ⟨v9,rfl,km,q8⟩;have qk:=(q8.block q (by omega) (λe=>bF V.o.1.own V.o.2 (by decide) e)).trans V.o.2;have q2:w9.cell? ⟨q,2,ZW⟩=ZV (.slice d m F):=(by simp [World.cell?,qk]);obtain ⟨f,Y⟩:=nM (pre++be nm.size 1++fG nm++be p 2);have xa:f.length=pre.length+19:=(by rw [<- Y,T8,T8,kg,ki,aC]);rw [Y] at km;have H9:=al km Y;clear km q8 qk q1 Y;go_wp2_with fail;go_loopw [3,39] (λv i hb=>PsR w f o.RL v i hb) (λ_ i _=>m-(intOf i).toNat)
    case atStart=>exact ⟨0,T5 _,rfl,by rw [Wm,List.flatMap_nil,Wn];exact H9.o.1⟩
    case round=>
     obtain ⟨j,hj,rfl,a⟩:=hrel;rw [X.o.2.2.2.2.1] at hj;by_cases x8:j<m
     . obtain ⟨Q,l,y,ho,L,_,_⟩:=X.o;have S:j<o.RL.length:=(by omega);obtain ⟨sb,so,rfl,_,q5,k8⟩:=Q (λe=>by rw [e] at S;cases S);have cs:=(Uk (a.below.block sb q5.lt)).trans (k8 j S);have x1:=l.st _ (TY S);have hv:((o.RL.take j).flatMap (λs=>be s 4)).length=4*j:=(by rw [yC,Un];omega);have qg:f++(o.RL.take (j+1)).flatMap (λs=>be s 4)=(f++(o.RL.take j).flatMap (λs=>be s 4))++be o.RL[j] 4:=by
        rw [Vh,Ua S,WD,Uz];simp
       have Z:=a.num o.RL[j] 4 (by omega) (by omega) (by rw [T8,hv];omega);rw [<- qg] at Z;obtain ⟨x,hx⟩:=nM (o.RL[j]);rw [hx] at cs x1 Z;have HP:=ak Z;clear a Q l y ho L k8 Z qg hx hv;go_wp2_with fail;refine HP.o.mono ?_;rintro e wj ⟨vj,rfl,qb,_⟩;have Hj:=ak qb;clear qb;go_wp2;go_roundw
       case rel=>exact ⟨j+1,by have:=X.o.2.2.2.2.1;omega,by go_num,Hj.o⟩
       case measure=>simp [intOf];omega
     . have qs:j=m:=(by omega);have Hq:=ak a;clear a;go_wp2;go_roundw
       case rel=>
        refine ⟨k+1,by have:=W.o.2.2.2.1;omega,by go_num,?_⟩;obtain ⟨_,_,y,_,L,T,U⟩:=X.o;have ko:=Hq.o;rw [UI (by omega),<- H9.o.2] at ko;rw [y];unfold bP;rw [T,U];simp only [Uz] at ko ⊢;exact ko
       case measure=>simp [intOf];omega
  . have qv:k=N:=(by omega);subst qv;have H:=ak a;clear a;go_wp2;go_ret;have a:=H.o;obtain ⟨_,_,_,J,I⟩:=W.o;rw [UI (by omega)] at a;rcases a.own.2 with ⟨h0,_⟩|⟨g,cap,cur,e1,_⟩
    . exact absurd (by rw [h0];rfl) a.some_
    . have ho:=a.own;rw [e1] at ho;exact ⟨g,cap,by rw [<- e1];rfl,ho,a.below⟩
def uz {vo:ZR} {os:List Ob} (c:eN (λk=>k<w.heap.size) w vo os) (d:∀ o∈os,o.fit) (b:os.length<=10000):EF w vo (ai os):=λ_ a=>yD (c.keep ⟨a.size,λk e _=>a.block k e⟩) d b
theorem E5 (w:ZS):EF w (Z5 ZW 0 0) []:=by
 intro W _;go_enter func118,ntmps118;go_wp2_with fail;refine (length_nil W).mono ?_;rintro e w' ⟨rfl,rfl⟩;go_wp2_with (at_make;refine cQ _ rfl (.const (Z7 Z9 0)) (Z0 10) rfl _ 0 rfl rfl rfl (by omega) ?_;intro w2 b a c);have H:=al b a;clear b a;refine VC 1 ?_;rw [U5];go_wp2;go_ret;obtain ⟨b,a⟩:=H.o;exact ⟨_,0,rfl,⟨rfl,.inr ⟨_,0,_,rfl,TV _,b.SP,TV _,by unfold maxLen;omega,rfl,rfl⟩⟩,a⟩
def bg.weaken (h:bg K w v l) (f:∀ k,K k->K' k):bg K' w v l:=by
 obtain ⟨ao,c,a,d,e⟩:=h;refine ⟨ao,c,a,d,λhl=>?_⟩;obtain ⟨b,off,g,i,j⟩:=e hl;exact ⟨b,off,g,f b i,j⟩
def IJ {nb:Nat} (h:3<=nb):(aY (tk nb ([]++af [])).1 nb).take 1=[2]/\1<=(aY (tk nb ([]++af [])).1 nb).length:=by
 have e:(tk nb ([]++af [])).1=λ_=>ZT:=rfl;rw [e];have a:aY (λ_=>ZT) 3=[2]:=by simp [aY,Vy]
 obtain ⟨r,hr⟩:=kI (λ_=>ZT) h;rw [a] at hr;rw [<- hr];exact ⟨rfl,by simp⟩
def nB (A:aF) (D L G:Nat):aF:=(A.putAt (YF A.n) 1 (λ_=>.filled)).TG D L G 1 [2] []
def CE (h:w.ownsRow base 3 1 u n (jU l)) (hl:l≠[]) (hll:l.length<=1000000) {K:Nat->Prop} (hK:∀ k,base<=k->K k):∃ g c,u=Z5 (ZV ⟨g,0,ZW⟩) l.length c/\bg K w u l:=by
 have b:n=l.length:=by have:=h.1;unfold jU at this;rw [T9,We] at this;omega
 rcases h.2 with ⟨_,j⟩|⟨g,cap,cur,a,d,e,_⟩
 . exact absurd (UX (by omega)) hl
 . refine ⟨g,cap,by rw [a,b],ZV ⟨g,0,ZW⟩,cap,by rw [a,b],hll,λ_=>⟨g,0,rfl,hK g d,⟨_,_,_,e,by decide⟩,λi f=>?_⟩⟩;have:=h.cells (g:=g) (by rw [a];rfl) i (Z7 Z9 ((l[i]:Nat):Int)) (by unfold jU;simp [f]);rw [jC] at this;rw [Ui];exact this
theorem IK {ar v:Nat} {off:Bool} {A:aF} (I:bf w ar v 0 0 0 0 0 0 (Z5 ZW 0 0) (Z5 ZW 0 0) off) (m:pH w v p D L G ps ho A F) (k9:¬ F.S ar) (ki:3<=A.nb) :
 ZP ZL 97 #[Z6 (ZV ⟨ar,0,ZW⟩)] w λe w'=>e=Z3 .nilIface/\aA w' p (nB A D L G) F/\(∃ u,bf w' ar v D L G 1 2 0 u (Z5 ZW 0 0) off/\bg (λk=>w.heap.size<=k) w' u [2])/\aa (λk=>k=ar\/F.S k) w w':=by
 obtain ⟨hr,kf,hD,hL,kk,hG,kh,hy⟩:=m.par;have hn:=m.n;go_enter func97,ntmps97;go_wp2_with fail;obtain ⟨S,Y⟩:=nM (2^(D+L+G)-1);have hj:ab S=YF A.n:=by rw [<- Y,hn];exact ou hy
 have k6:S<65536:=by
  have:2^(D+L+G)<=2^16:=U8 (by decide) hy;omega
 have ke:∀ X,bW w X->ZP ZL 120 #[Z6 (ZV ⟨v,0,ZW⟩),Z7 Z9 (1:Nat),cZ .filled,Z7 Z8 S] X λe w'=>(∃ z:Nat,e=Z3 (Z7 Z8 z))/\aA w' p (A.putAt (YF A.n) 1 (λ_=>.filled)) F/\aa (F.S) w w':=λX hb=>by
  have h:=eX (m.below hb lR) 1 S (by omega) k6 (λi O=>by rw [hj] at O;simpa using O) .filled trivial;rw [hj] at h;exact h.mono λe w' q=>⟨⟨_,q.1⟩,q.2.1,(aa.RN hb _).trans q.2.2⟩
 have hm:=kJ (m.vol.keep (w':=w.drew) rfl) m.par;rw [Y] at hm;have k0:=I.cells.1;have r:=aE ke hm I;clear ke hm Y hj k6;go_cut [16] from 5 to 15 (λ_ wx=>aA wx p (A.putAt (YF A.n) 1 (λ_=>.filled)) F/\aa (F.S) w wx)
 case first=>
  go_region_with (first
   | (go_at_call 121;refine r.o.2.1.mono ?_;rintro e w5 ⟨rfl,ka⟩;have W:bW w w5:=((TW _ w).drew).trans ka;have j0:=(r.o.2.2.keep (W.block _ r.o.2.2.lt)).cells.1;have H5:=ak W;clear ka W)
   | (go_at_call 120;refine (r.o.1 w5 H5.o).mono ?_;rintro e w6 ⟨⟨z,rfl⟩,hz,k5⟩;have H6:=al hz k5;clear hz k5))
  all_goals (go_wp2_with fail;go_meet;case rel=>exact H6.o)
 case rest=>
 rename ZS=>w1;obtain ⟨Z,f⟩:=hcut;clear k0 r;obtain ⟨R,j⟩:=nM (A.putAt (YF A.n) 1 (λ_=>.filled));obtain ⟨s,t⟩:R.n=A.n/\R.nb=A.nb:=by rw [<- j];exact ⟨rfl,rfl⟩
 rw [j] at Z;have d:=I.keep (f.block _ I.lt k9);have a:=m.turn f Z s;have hq:=jb d a.vol kf (by omega) 0 (by decide);have hp:pgs D 0=1:=by unfold pgs;rw [Xy (by omega)];rfl
 rw [hp] at hq;have hs:=lN d a.vol a.arr (by rw [s];omega) [] [] (bg.nil _ _) (eN.nil _ _) 1 (by decide);obtain ⟨y,B⟩:=IJ (nb:=R.nb) (by rw [t];exact ki);rw [y,UZ B] at hs;have T:=a7 d a f hq hs j;clear d a f hq hs j Z y B;go_wp2_with fail;refine T.o.2.2.2.1.mono ?_;rintro e w2 ⟨rfl,kj⟩;subst kj;go_wp2_with fail;refine T.o.2.2.2.2.1.mono ?_;rintro e w3 ⟨u,rfl,h8,N⟩;obtain ⟨d,a,f,_,_,j⟩:=T.o;have k8:=d.keep (N.block _ d.lt);have k7:=a.below N lR;obtain ⟨g,c,hu,hh⟩:=CE (K:=λk=>w2.heap.size<=k) h8 (by simp) (by decide) (λk P=>P);subst hu;have J:bg (λk=>¬ F.S k) w3 (Z5 (ZV ⟨g,0,ZW⟩) [2].length c) [2]:=by
  obtain ⟨ao,V,q1,q2,q3⟩:=hh;refine ⟨ao,V,q1,q2,λhl=>?_⟩;obtain ⟨b,U,r1,r2,C⟩:=q3 hl;exact ⟨b,U,r1,λq=>by have:=a.arr.RO q;omega,C⟩
 have kc:=ny k8 k7 k9 ZW 0 0 [] (λx Q=>by cases Q) (by decide) (E5 w3) g 0 c [2] J (by simp) (λx Q=>by simp at Q;subst Q;rw [t];omega) (λk P=>by simp at P;subst P;simp);have E:aa (F.S) w w3:=f.trans (aa.RN N _);have H3:=a7 kc E hh a d.lt f.size;clear kc E J hh k8 k7 h8 N d a f;go_wp2_with fail;refine H3.o.1.mono ?_;rintro e w4 ⟨l,rfl,H,M⟩;have H4:=aE H M l;clear H M l;go_wp2;go_ret;obtain ⟨H,M,l⟩:=H4.o;obtain ⟨_,E,J,a,kg,hv⟩:=H3.o;refine ⟨rfl,?_,⟨_,M,?_⟩,(E.mono λ_ _ q=>.inr q).trans l⟩
 . unfold nB;rw [j];exact H
 . obtain ⟨ao,V,q1,q2,q3⟩:=J;refine ⟨ao,V,q1,q2,λhl=>?_⟩;obtain ⟨b,U,r1,r2,C,r4⟩:=q3 hl;have h7:b≠ar:=λe=>by omega
   have kb:¬ F.S b:=λq=>by have:=a.arr.RO (k:=b) q;omega
   refine ⟨b,U,r1,TU hv r2,C.keep (l.block b C.lt (λq=>q.elim h7 kb)),λi O=>?_⟩;exact (Uk (l.block b C.lt (λq=>q.elim h7 kb))).trans (r4 i O)
def Gt:Ob:=⟨YH,0,[]⟩
def Pw (a b:ByteArray):Bool:=Op.bytesLess a.toList b.toList || a.toList==b.toList
def Af (os:List Ob):Prop:=∀ i (_:i+1<os.length),Pw (os.getD (i+1) Gt).name (os.getD i Gt).name=ZT
def Tryz.RX:(ZL.info? 137).map (λi=>(i.zero,i.size,i.bytes))=ZV (ZV (.agg #[ZZ YH,Z7 Z9 0,Z5 ZW 0 0]),3,48):=by kernel_rfl
def bg.ltS (h:bg K w v l):bg (λk=>k<w.heap.size) w v l:=by
 obtain ⟨ao,c,d,e,f⟩:=h;refine ⟨ao,c,d,e,λhl=>?_⟩;obtain ⟨b,off,g,_,a,i⟩:=f hl;exact ⟨b,off,g,a.lt,a,i⟩
def eN.ltS {os:List Ob} (h:eN K w v os):eN (λk=>k<w.heap.size) w v os:=by
 obtain ⟨ao,c,d,e,f⟩:=h;refine ⟨ao,c,d,e,λhl=>?_⟩;obtain ⟨b,off,j,_,a,l⟩:=f hl;refine ⟨b,off,j,a.lt,a,λi g=>?_⟩;obtain ⟨q,m,n,o,p⟩:=l i g;exact ⟨q,m,n,o,p.ltS⟩
def an (w:ZS) (g:Nat) (e:ZN) (cur:List ZR):Prop:=w.heap[g]?=ZV (Z4 cur.toArray e (0,0))
def an.lt (h:an w g e cur):g<w.heap.size:=(TX.1 h).1
def an.cell (h:an w g e cur) {j:Nat} {u:ZR} (a:cur[j]?=ZV u):w.cell? ⟨g,j,ZW⟩=ZV u:=by
 unfold an at h;simp [World.cell?,h,a]
def an.R3 (h:an w g e cur) (j:Nat):w.frozen? ⟨g,j,ZW⟩=ZT:=by
 unfold an at h;simp [World.frozen?,h]
def an.keep (h:an w g e cur) (a:w'.heap[g]?=w.heap[g]?):an w' g e cur:=a.trans h
def yE:∀ (a:List ZR) (o:Nat) (cur:Array ZR),o+a.length<=cur.size->vZ cur o a=(cur.toList.take o++a++cur.toList.drop (o+a.length)).toArray
 | [],o,cur,_=>by simp [vZ]
 | v::r,o,cur,h=>by
  simp only [UD] at h ⊢;unfold vZ;rw [yE r (o+1) (cur.setIfInBounds o v) (by simp;omega),Yu];have e:(cur.toList.set o v).take (o+1)=cur.toList.take o++[v]:=by
   rw [Vh,List.take_set_of_le (TV o),abn (by simp;omega)];rfl
  have b:(cur.toList.set o v).drop (o+1+r.length)=cur.toList.drop (o+(r.length+1)):=by
   rw [List.drop_set_of_lt (by omega),show o+1+r.length=o+(r.length+1) by omega]
  rw [e,b];simp
def an.set (h:an w g e cur) (o:Nat) (a:List ZR) (ho:o+a.length<=cur.length):an (w.setCells g o a) g e (cur.take o++a++cur.drop (o+a.length)):=by
 unfold an at h ⊢;rw [jn a o w h,yE a o cur.toArray (by simpa using ho)]
def ea {P:Program} (w:ZS) (l y z elem:ZN) (k:Nat) (g o a d b h c f:Nat) (e:ZN) (cur cs:List ZR)
 (x:P.underlying l=ZV (.slice elem)) (q:(P.info? elem).map (·.size)=ZV k) (u:cs.length=YI c a*k)
 (s:∀ j v,cs[j]?=ZV v->w.cell? ⟨b,h+j,ZW⟩=ZV v) (m:an w g e cur) (ho:o+cs.length<=cur.length) (r:∀ v∈cs,v.oneCell'=ZU) :
 (Builtin.copy_ #[l,y] z #[Z5 (ZV ⟨g,o,ZW⟩) a d,Z5 (ZV ⟨b,h,ZW⟩) c f]).run P w=.ok (goInt (YI c a)) (w.setCells g o cs):=by
 have hl:=run_loadCells_list (P:=P) w ⟨b,h,ZW⟩ cs (λj v p=>by rw [Vr];exact s j v p);have n:=run_storeCells_cells (P:=P) g o cs 0 w (λj p=>by
  rw [VR];rw [m.cell (Ua (by omega:o+j<cur.length))];rfl) (λj _=>m.R3 _) r
 cases hq:P.info? elem with
 | none=>simp [hq] at q
 | some i=>
  have t:i.size=k:=by simpa [hq] using q
  simp only [VR] at n;simp [Builtin.copy_,UO x,Builtin.lenOf,Builtin.firstCells,sizeOf,typeInfo,hq,t,<- u,hl,n]
def uA {P:Program} (w:ZS) (t e k:ZN) (z:ZR) (g o n c:Nat) (d:ZN) (cur:List ZR) (h:P.underlying t=ZV (.slice e)) (i:∀ w,(zeroValue e).run P w=.ok z w) (p:0<n)
 (a:an w g d cur) (ho:o+(Builtin.zeroCells z.cells n).toList.length<=cur.length) (f:∀ v∈(Builtin.zeroCells z.cells n).toList,v.oneCell'=ZU) :
 (Builtin.clear_ #[t] k #[Z5 (ZV ⟨g,o,ZW⟩) n c]).run P w=.ok (ZY #[]) (w.setCells g o (Builtin.zeroCells z.cells n).toList):=by
 have b:=run_storeCells_cells (P:=P) g o (Builtin.zeroCells z.cells n).toList 0 w (λj l=>by
  rw [VR];rw [a.cell (Ua (by omega:o+j<cur.length))];rfl) (λj _=>a.R3 _) f
 simp only [VR] at b;obtain ⟨m,rfl⟩:∃ m,n=m+1:=⟨n-1,by omega⟩;simp [Builtin.clear_,UO h,i,b]
def jw (x:Ob×ZR):List ZR:=[ZZ x.1.name,Z7 Z9 (x.1.size:Nat),x.2]
def bU (L:List (Ob×ZR)):List ZR:=L.flatMap jw
def bY (L:List (Ob×ZR)):(bU L).length=L.length*3:=by
 induction L with
 | nil=>rfl
 | cons x L ih=>unfold bU at ih ⊢;rw [VN,T8,ih,UD];simp [jw];omega
def iO (L M:List (Ob×ZR)):bU (L++M)=bU L++bU M:=by unfold bU;rw [WD]
def CG (L:List (Ob×ZR)) (k:Nat):(bU L).take (k*3)=bU (L.take k):=by
 by_cases h:k<=L.length
 . have e:bU L=bU (L.take k)++bU (L.drop k):=(by rw [<- iO,Wo]);have:(bU (L.take k)).length=k*3:=(by rw [bY,Un];omega);rw [e,VV (by omega),UI (by omega)]
 . rw [UI (by rw [bY];omega),UI (by omega)]
def uB (L:List (Ob×ZR)) (k:Nat):(bU L).drop (k*3)=bU (L.drop k):=by
 by_cases h:k<=L.length
 . have e:bU L=bU (L.take k)++bU (L.drop k):=(by rw [<- iO,Wo]);have hl:(bU (L.take k)).length=k*3:=(by rw [bY,Un];omega);rw [e,<- hl,YT]
 . rw [YU (by rw [bY];omega),YU (by omega)];rfl
def LQ (L:List (Ob×ZR)) (k:Nat) (d:k<L.length):(bU L)[k*3]?=ZV (ZZ L[k].1.name)/\(bU L)[k*3+1]?=ZV (Z7 Z9 (L[k].1.size:Nat))/\(bU L)[k*3+2]?=ZV L[k].2:=by
 have e:∀ j,(bU L)[k*3+j]?=(bU (L.drop k))[j]?:=λj=>by rw [<- uB,Wd]
 have a:=e 0;have b:=e 1;have c:=e 2;rw [X7 d] at a b c;exact ⟨a,b,c⟩
def Gu {x:Ob×ZR} (h:∃ c sl b,x.2=.slice c sl b):∀ u∈jw x,u.oneCell'=ZU:=by
 obtain ⟨c,sl,b,e⟩:=h;intro u a;simp only [jw,Uw,W5,or_false] at a;rcases a with rfl|rfl|rfl
 . rfl
 . rfl
 . rw [e];rfl
def Oj (K:Nat->Prop) (w:ZS) (L:List (Ob×ZR)):Prop:=∀ x∈L,bg K w x.2 x.1.RL
def Oj.one {L:List (Ob×ZR)} (h:Oj K w L):∀ u∈bU L,u.oneCell'=ZU:=by
 intro u a;unfold bU at a;rw [XR] at a;obtain ⟨x,d,b⟩:=a;obtain ⟨ao,c,e,_⟩:=h x d;exact Gu ⟨ao,_,c,e⟩ u b
def bg.Tw (h:bg K w v l) (f:∀ k,K k->K' k):bg K' w v l:=by
 obtain ⟨ao,c,a,d,e⟩:=h;refine ⟨ao,c,a,d,λhl=>?_⟩;obtain ⟨b,off,g,i,j⟩:=e hl;exact ⟨b,off,g,f b i,j⟩
def Ol {os:List Ob} (h:eN K w v os):∃ L:List (Ob×ZR),L.map (·.1)=os/\Oj K w L/\∀ w',eu K w w'->Src ZL 3 133 v L.length (bU L) w':=by
 obtain ⟨ao,c,rfl,hl,B⟩:=h;by_cases s:os=[]
 . subst s;refine ⟨[],rfl,λx l=>by simp at l,λw' _=>?_⟩;cases ao with
   | none=>exact XS w' Vw c
   | some z=>exact Vn w' Vw z 0 c [] rfl (λj u a=>by simp at a) (λu H=>by simp at H)
 . obtain ⟨b,off,rfl,hK,E,r⟩:=B s;have C:∃ f:Nat->ZR,∀ i (d:i<os.length),w.cell? ⟨b,off+i*3,ZW⟩=ZV (ZZ os[i].name)/\w.cell? ⟨b,off+i*3+1,ZW⟩=ZV (Z7 Z9 (os[i].size:Nat))/\w.cell? ⟨b,off+i*3+2,ZW⟩=ZV (f i)/\bg K w (f i) os[i].RL:=by
    refine ⟨λi=>if d:i<os.length then Classical.choose (r i d) else .nilIface,λi d=>?_⟩;have:=Classical.choose_spec (r i d);simpa [d] using this
   obtain ⟨f,y⟩:=C;obtain ⟨L,hL⟩:∃ L:List (Ob×ZR),L=os.zipIdx.map (λq=>(q.1,f q.2)):=⟨_,rfl⟩;have p:L.length=os.length:=(by rw [hL];simp);have g:∀ i (d:i<os.length),L[i]'(by omega)=(os[i],f i):=λi d=>by subst hL;simp
   have t:Oj K w L:=λx l=>by
    obtain ⟨i,d,e⟩:=UT l;rw [g i (by omega)] at e;rw [<- e];exact (y i (by omega)).2.2.2
   refine ⟨L,?_,t,?_⟩
   . refine Vb (by simp [p]) λi I A=>?_;rw [UQ,g i A]
   . intro w' F;have k:=F.2 b E.lt hK;rw [<- p];refine Vn w' Vw ⟨b,off,ZW⟩ L.length c (bU L) (bY L) (λj u a=>?_) t.one;rw [Vr];have J:j<L.length*3:=(by obtain ⟨q,_⟩:=Va.1 a;rwa [bY] at q);have G:j/3<L.length:=(by omega);obtain ⟨m,n,o⟩:=LQ L (j/3) G;obtain ⟨b0,b1,b2,_⟩:=y (j/3) (by omega);rw [g (j/3) (by omega)] at m n o;have D:j=j/3*3\/j=j/3*3+1\/j=j/3*3+2:=(by omega);rcases D with q|q|q
     . rw [q,m] at a;rw [q,<- a];exact (Uk k).trans b0
     . rw [q,n] at a;rw [q,<- a,<- Vx];exact (Uk k).trans b1
     . rw [q,o] at a;rw [q,<- a,<- Vx];exact (Uk k).trans b2
def uC {L:List (Ob×ZR)} (h:w.ownsRow base 137 3 u L.length (bU L)) (hl:L.length<=1000000) (hK:∀ k,base<=k->K k) (n:Oj K w L):eN K w u (L.map (·.1)):=by
 rcases h.2 with ⟨rfl,q⟩|⟨g,cap,cur,rfl,o,d,r,s,t,m⟩
 . have:L=[]:=UX q;subst this;exact eN.nil _ _
 . refine ⟨ZV ⟨g,0,ZW⟩,cap,by rw [T9],by rw [T9];exact hl,λ_=>⟨g,0,rfl,hK g o,⟨_,_,_,d,by decide⟩,λi b=>?_⟩⟩;rw [T9] at b;obtain ⟨e,f,l⟩:=LQ L i b;have a:∀ j u,j<L.length*3->(bU L)[j]?=ZV u->w.cell? ⟨g,0+j,ZW⟩=ZV u:=λj u p c=>by
    rw [<- m,VO p] at c;rw [Ui];simp [World.cell?,d];simpa using c
   refine ⟨L[i].2,?_,?_,?_,?_⟩
   . rw [UQ];exact a _ _ (by omega) e
   . rw [UQ,Vx];exact a _ _ (by omega) f
   . rw [Vx];exact a _ _ (by omega) l
   . rw [UQ];exact n _ (TY b)
theorem CH (k:FuncId) (first cap:Array ZR) (p:∀ (args:Array ZR) (w:ZS),(callFunc k args).run ZL w=.ok (.enter k args) w) (w:ZS) (R:ZS->ZR->ZS->Prop)
 (h:∀ w1,bW w w1->w1.heap.size=w.heap.size+1->w1.heap[w.heap.size]?=ZV (Z4 #[.nilIface] 63 (0,0))->ZP ZL k (first++cap) w1 λe w2=>∃ v,e=Z3 v/\isErr v/\R w1 v w2/\w2.heap[w.heap.size]?=w1.heap[w.heap.size]?) :
 ZP ZL 71 #[.func (.func k) first cap] w λe w'=>∃ v w1 w2,e=Z3 v/\isErr v/\bW w w1/\w1.heap.size=w.heap.size+1/\R w1 v w2/\w'=w2.setCell ⟨w.heap.size,0,ZW⟩ v:=by
 have j:=h (w.alloc (Z4 #[.nilIface] 63)) (bA w _) (by simp) (UE w _);have d:(w.alloc (Z4 #[.nilIface] 63)).heap[w.heap.size]?=ZV (Z4 #[.nilIface] 63 (0,0)):=Ug _ _;go_enter_defers func71,ntmps71
 go_wp2_with fail;refine j.mono ?_;clear j;rintro e w2 ⟨v,rfl,l,i,g⟩;have a:w2.heap[w.heap.size]?=ZV (Z4 #[.nilIface] 63 (0,0)):=g.trans d;have m:w2.cell? ⟨w.heap.size,0,ZW⟩=ZV .nilIface:=by simp [World.cell?,a]
 have n:w2.frozen? ⟨w.heap.size,0,ZW⟩=ZT:=by simp [World.frozen?,a]
 have c:(w2.setCell ⟨w.heap.size,0,ZW⟩ v).cell? ⟨w.heap.size,0,ZW⟩=ZV v:=by simp [World.cell?,World.setCell,VL,a]
 have H:=al i l;clear i g a d h;rcases l with rfl|⟨t,u,rfl⟩
 . go_wp2;refine leaves_cons (f:=104) (args:=#[Z6 (ZV ⟨w.heap.size,0,ZW⟩)]) (by simp) (by simp [go_sem]) ?_;refine (tH ⟨w.heap.size,0,ZW⟩ _).mono ?_;rintro e u' b ⟨rfl,rfl,rfl⟩;refine ⟨.nilIface,by simp [results,results71,go_sem,c],_,_,w2,rfl,.inl rfl,(TW _ w).alloc lR (Z4 #[.nilIface] 63),by simp,H.o.1,rfl⟩
 . go_wp2;refine leaves_cons (f:=104) (args:=#[Z6 (ZV ⟨w.heap.size,0,ZW⟩)]) (by simp) (by simp [go_sem]) ?_;refine (tH ⟨w.heap.size,0,ZW⟩ _).mono ?_;rintro e u' b ⟨rfl,rfl,rfl⟩;refine ⟨.iface t u,by simp [results,results71,go_sem,c],_,_,w2,rfl,.inr ⟨t,u,rfl⟩,(TW _ w).alloc lR (Z4 #[.nilIface] 63),by simp,H.o.1,rfl⟩
theorem lX (k:FuncId) (first cap:Array ZR) (F:∀ (args:Array ZR) (w:ZS),(callFunc k args).run ZL w=.ok (.enter k args) w) (w:ZS) (a:Nat) (cs:Array ZR) (r:w.heap[a]?=ZV (Z4 cs 135 (0,0))) (E:cs[9]?=ZV (Z1 ZT)) (R:ZS->ZR->ZS->Prop)
 (u:∀ w1,bW w w1->w1.heap.size=w.heap.size+1->w1.heap[w.heap.size]?=ZV (Z4 #[.nilIface] 63 (0,0))->ZP ZL k (first++cap) w1 λe w2=>∃ v,e=Z3 v/\mZ v/\R w1 v w2/\w2.heap[w.heap.size]?=w1.heap[w.heap.size]?/\∃ cs',w2.heap[a]?=ZV (Z4 cs' 135 (0,0))/\cs'[9]?=ZV (Z1 ZT)) :
 ZP ZL 52 #[Z6 (ZV ⟨a,0,ZW⟩),.func (.func k) first cap] w λe w'=>∃ v w1 w2,e=Z3 v/\mZ v/\bW w w1/\w1.heap.size=w.heap.size+1/\R w1 v w2/\w'=(w2.setCell ⟨w.heap.size,0,ZW⟩ v).setCell ⟨a,9,ZW⟩ (Z1 ZT):=by
 have L:a<w.heap.size:=(TX.1 r).1;have I:w.cell? ⟨a,9,ZW⟩=ZV (Z1 ZT):=by simp [World.cell?,r,E]
 have p:=CH k first cap F w (λw1 v w2=>mZ v/\R w1 v w2/\∃ cs',w2.heap[a]?=ZV (Z4 cs' 135 (0,0))/\cs'[9]?=ZV (Z1 ZT)) (λw1 z A d=>(u w1 z A d).mono (by
  rintro e w2 ⟨v,rfl,d,B,C,D⟩;exact ⟨v,rfl,d.isErr,⟨d,B,D⟩,C⟩))
 go_enter func52,ntmps52;go_wp2_with fail;refine p.mono ?_;rintro e b ⟨v,w1,w2,rfl,_,t,y,⟨x,q,cs',s,m⟩,rfl⟩;have c:(w2.setCell ⟨w.heap.size,0,ZW⟩ v).heap[a]?=ZV (Z4 cs' 135 (0,0)):=(Ud _ _ _ _ (by show a≠w.heap.size;omega)).trans s;obtain ⟨b,f⟩:=nM (w2.setCell ⟨w.heap.size,0,ZW⟩ v);rw [f] at c ⊢;have J:b.cell? ⟨a,9,ZW⟩=ZV (Z1 ZT):=by simp [World.cell?,c,m]
 have K:b.frozen? ⟨a,9,ZW⟩=ZT:=by simp [World.frozen?,c]
 have H:=a6 t y q x f;clear t y q p u c m s f;rcases x with rfl|⟨n,G,rfl⟩
 . go_wp2_with fail;refine (D0 13 b).mono ?_;rintro e w' ⟨rfl,rfl⟩;go_wp2;go_ret;obtain ⟨g,h,i,j,l⟩:=H.o;exact ⟨.nilIface,w1,w2,rfl,j,g,h,i,by rw [l]⟩
 . go_wp2_with fail;refine (Kt n G b).mono ?_;rintro e w' ⟨rfl,rfl⟩;go_wp2;go_ret;obtain ⟨g,h,i,j,l⟩:=H.o;exact ⟨.iface 66 (Z7 Z9 n),w1,w2,rfl,j,g,h,i,by rw [l]⟩
def LR:∀ (x y:List UInt8),Op.bytesLess x y=decide (x<y)
 | [],[]=>by simp [Op.bytesLess]
 | _::_,[]=>by simp [Op.bytesLess]
 | [],_::_=>by simp [Op.bytesLess]
 | a::x,b::y=>by
  rw [Op.bytesLess,LR x y];simp only [List.cons_lt_cons_iff];by_cases c:a<b<;>by_cases d:a=b<;>by_cases e:x<y<;>simp [c,d,e]
def jx (a b:ByteArray):Bool:=Op.bytesLess a.toList b.toList
def Ag {a b:ByteArray}:jx a b=ZU↔a.toList<b.toList:=by unfold jx;rw [LR];simp
def Ah {a b:ByteArray}:jx a b=ZT↔¬ a.toList<b.toList:=by unfold jx;rw [LR];simp
def iP (a:ByteArray):jx a a=ZT:=Ah.2 (List.lt_irrefl _)
def jO {a b c:ByteArray} (h:jx a b=ZU) (k:jx b c=ZU):jx a c=ZU:=Ag.2 (List.lt_trans (Ag.1 h) (Ag.1 k))
def toList_inj {a b:ByteArray} (h:a.toList=b.toList):a=b:=by
 have c:a.data.toList=b.data.toList:=by rw [<- Lib.toList_data,<- Lib.toList_data];exact h
 have d:a.data=b.data:=Array.toList_inj.1 c;cases a;cases b;simpa using d
def sF {a b:ByteArray} (h:jx a b=ZT) (k:jx b a=ZT):a=b:=toList_inj (List.le_antisymm (Ah.1 k) (Ah.1 h))
def IL {a b:ByteArray} (h:Pw a b=ZT):jx b a=ZU:=by
 unfold Pw at h;rw [Yl] at h;cases hb:jx b a
 . have e:=sF (a:=a) (b:=b) h.1 hb;rw [e] at h;simp at h
 . rfl
theorem IM {a b:ByteArray} (h:jx b a=ZU):Pw a b=ZT:=by
 unfold Pw;rw [Yl];constructor
 . cases hb:Op.bytesLess a.toList b.toList
   . rfl
   . have:=jO (a:=b) (b:=a) (c:=b) h hb;rw [iP] at this;cases this
 . cases hb:(a.toList==b.toList)
   . rfl
   . have e:=toList_inj (eq_of_beq hb);rw [e,iP] at h;cases h
def Up (ns:List ByteArray):Prop:=ns.Pairwise (λa b=>jx a b=ZU)
def aS (os:List Ob):List ByteArray:=os.map (·.name)
def bm (os:List Ob):(aS os).length=os.length:=by unfold aS;rw [T9]
def sG {os:List Ob} (a:i<os.length):os.getD i Gt=os[i]:=by rw [T6,Ua a];rfl
def IN (ns:List ByteArray) (h:∀ i (c:i+1<ns.length),jx ns[i] ns[i+1]=ZU):Up ns:=by
 unfold Up;rw [V0];intro i j c a b;obtain ⟨d,rfl⟩:∃ d,j=i+1+d:=⟨j-(i+1),by omega⟩;clear b;induction d with
 | zero=>exact h i a
 | succ d ih=>exact jO (ih (by omega)) (h (i+1+d) a)
def Om {os:List Ob} (h:Af os):Up (aS os):=by
 refine IN _ λi a=>?_;rw [bm] at a;have:=IL (h i a);rw [sG a,sG (by omega:i<os.length)] at this;have e:∀ j (b:j<os.length),(aS os)[j]'(by rw [bm];exact b)=os[j].name:=λj b=>by unfold aS;rw [UQ]
 rw [e i (by omega),e (i+1) a];exact this
def Ai {os:List Ob} (h:Up (aS os)):Af os:=by
 intro i a;unfold Up at h;rw [V0] at h;have:=h i (i+1) (by rw [bm];omega) (by rw [bm];omega) (Nat.lt_succ_self i);refine IM ?_;rw [sG a,sG (by omega:i<os.length)];unfold aS at this;simpa using this
def aK (ns:List ByteArray) (x:ByteArray):Nat:=(ns.takeWhile (λn=>jx n x)).length
def yF (ns:List ByteArray) (x:ByteArray):aK ns x<=ns.length:=by unfold aK;exact (List.takeWhile_prefix _).length_le
def gH:∀ (ns:List ByteArray) (x:ByteArray) (i:Nat),i<=ns.length->(∀ j (e:j<ns.length),j<i->jx ns[j] x=ZU)->(∀ a:i<ns.length,jx ns[i] x=ZT)->aK ns x=i
 | [],x,i,a,_,_=>by simp at a;subst a;rfl
 | n::ns,x,0,a,b,c=>by
  have:=c (by simp);unfold aK;rw [YJ];simp at this;simp [this]
 | n::ns,x,i+1,a,b,c=>by
  have d:=b 0 (by simp) (by omega);simp at d;have:=gH ns x i (by simpa using a) (λj e g=>b (j+1) (YV e) (by omega)) (λf=>c (YV f));unfold aK at this ⊢;rw [YJ];simp [d,this]
def m4:∀ (ns:List ByteArray) (x:ByteArray) (j:Nat) (a:j<ns.length),j<aK ns x->jx ns[j] x=ZU
 | [],_,j,a,_=>by simp at a
 | n::ns,x,j,a,h=>by
  unfold aK at h;rw [YJ] at h;cases b:jx n x
  . simp [b] at h
  . simp [b] at h;cases j with
    | zero=>simpa using b
    | succ j=>simpa using m4 ns x j (by simpa using a) (by unfold aK;omega)
def yG:∀ (ns:List ByteArray) (x:ByteArray) (a:aK ns x<ns.length),jx ns[aK ns x] x=ZT
 | [],x,a=>by simp at a
 | n::ns,x,a=>by
  by_cases b:jx n x=ZU
  . have e:aK (n::ns) x=aK ns x+1:=(by unfold aK;rw [YJ];simp [b]);have c:=yG ns x (by rw [e] at a;simpa using a);simp only [e,Yg];exact c
  . have e:aK (n::ns) x=0:=(by unfold aK;rw [YJ];simp [b]);simp only [e,abZ];simpa using b
def wB (b:Up ns) (x:ByteArray) (j:Nat) (f:j<ns.length) (h:aK ns x<=j):jx ns[j] x=ZT:=by
 have a:=yG ns x (by omega);rcases XT h with e|d
 . subst e;exact a
 . unfold Up at b;rw [V0] at b;have c:=b _ _ (by omega) f d;cases hb:jx ns[j] x
   . rfl
   . rw [jO c hb] at a;cases a
def ig (a:Up ns) {x:ByteArray} {k:Nat} (b:k<ns.length) (e:ns[k]=x):aK ns x=k:=by
 refine gH ns x k (Nat.le_of_lt b) (λj d c=>?_) (λf=>by rw [e];exact iP x);unfold Up at a;rw [V0] at a;have:=a j k d b c;rwa [e] at this
def uD (b:Up ns) {x:ByteArray} (c:x∈ns):∃ h:aK ns x<ns.length,ns[aK ns x]=x:=by
 obtain ⟨k,a,e⟩:=UT c;have:=ig b a e;exact ⟨by omega,by simp only [this];exact e⟩
def IP (c:Up ns) {x:ByteArray} (m:x∉ns):Up (ns.take (aK ns x)++x::ns.drop (aK ns x)):=by
 have n:=yF ns x;unfold Up;rw [abG,List.pairwise_cons];refine ⟨YM (List.take_sublist _ _) c,⟨λa g=>?_,YM (YN _ _) c⟩,λa g b f=>?_⟩
 . obtain ⟨j,h,e⟩:=UT g;rw [Um] at h;rw [Ym] at e;have d:=wB c x (aK ns x+j) (by omega) (by omega);rw [e] at d;cases f:jx x a
   . exact absurd (U0 g) (by rw [sF d f];exact m)
   . rfl
 . obtain ⟨j,h,e⟩:=UT g;rw [Un] at h;rw [List.getElem_take] at e;have d:=m4 ns x j (by omega) (by omega);rw [e] at d;rcases Uw.1 f with rfl|f
   . exact d
   . obtain ⟨i,l,k⟩:=UT f;rw [Um] at l;rw [Ym] at k;unfold Up at c;rw [V0] at c;have:=c j (aK ns x+i) (by omega) (by omega) (by omega);rwa [e,k] at this
def LS (b:Up ns) (k:Nat):Up (ns.take k++ns.drop (k+1)):=by
 refine YM ?_ b;have a:(ns.take k++ns.drop (k+1)).Sublist (ns.take k++ns.drop k):=YO (YP _) (by rw [<- VK];exact YN _ _);rwa [Wo] at a
def On (a:x<256):gm 1 x=x:=by rw [fx (by decide) a,eA x a]
theorem LU (D i t:Nat) (a:i<D):(dq D i).getD t 0=if t=i then 1 else 0:=by
 unfold dq;rw [T6,Xh];by_cases e:t=i
 . subst e;simp [a]
 . rw [TS (λq=>e q.symm),TS e,WC];split<;>rfl
def CJ (D i q:Nat) (c:i<D) (Dt:List a8) (b:(Dt.getD i []).getD q 0<256):∀ t,NY (dq D i) Dt t q=if i<t then (Dt.getD i []).getD q 0 else 0
 | 0=>by rw [TS (by omega)];rfl
 | t+1=>by
  show NY (dq D i) Dt t q^^^gm ((dq D i).getD t 0) ((Dt.getD t []).getD q 0)=_;rw [CJ D i q c Dt b t,LU D i t c];by_cases e:t=i
  . subst e;rw [TS (by omega),TT rfl,On b,TT (by omega),VT]
  . rw [TS e,bK,U4];by_cases a:i<t
    . rw [TT a,TT (by omega)]
    . rw [TS a,TS (by omega)]
def IQ (D L G i:Nat) (b:i<D):∃ h:i<(aR D L G).length,(aR D L G)[i]=dq D i:=by
 have hl:i<(aR D L G).length:=by rw [cL];omega
 refine ⟨hl,?_⟩;have a:(aR D L G)[i]?=ZV (dq D i):=by
  unfold aR;rw [VD (by simp;omega),VD (by simp;omega)];simp [b]
 rw [Ua hl] at a;exact UJ a
def CK (a:∀ x∈dl,x<256):∀ x∈iJ D dl,x<256:=by
 intro x h;unfold iJ at h;rcases Uj.1 h with q|q
 . exact a x q
 . rw [VJ q];decide
theorem CL (a:i<D) (hl:dl.length<=D*44) (j:∀ x∈dl,x<256):(dm D L G dl).getD i []=((iJ D dl).drop (i*44)).take 44:=by
 obtain ⟨h,g⟩:=IQ D L G i a;have e:(dm D L G dl).getD i []=cK (aR D L G)[i] (dS D dl) 44 (dS D dl).length:=by simp [dm,fm,h]
 rw [e,g,dY];have hr:(dS D dl).getD i []=((iJ D dl).drop (i*44)).take 44:=by simp [dS,a]
 have d:=mw hl a;unfold cK;apply Vb
 . simp [d]
 . intro q k b;have c:((dS D dl).getD i []).getD q 0=(((iJ D dl).drop (i*44)).take 44)[q]:=(by rw [hr,T6,Ua b];rfl);have f:((dS D dl).getD i []).getD q 0<256:=(by rw [c];exact CK j _ (U0 (UY (TY b))));rw [UQ,List.getElem_range,CJ D i q a _ f,TT a,c]
def yH:∀ m,((YF m).map λi=>((iJ D dl).drop (i*44)).take 44).flatten=(iJ D dl).take (44*m)
 | 0=>by simp
 | m+1=>by
  rw [Vy,Uv,ab2,yH m,show 44*(m+1)=44*m+44 by omega,List.take_add];simp [Wx]
def LV (h:size<=dl.length):(iJ D dl).take size=dl.take size:=by
 unfold iJ;rw [VV h]
theorem IR (f:m=(size+43)/44) (d:m<=D) (hl:dl.length<=D*44) (c:∀ x∈dl,x<256) (b:size<=dl.length):((YF m).map λi=>(dm D L G dl).getD i []).flatten.take size=dl.take size:=by
 have e:((YF m).map λi=>(dm D L G dl).getD i [])=(YF m).map λi=>((iJ D dl).drop (i*44)).take 44:=by
  apply Wp;intro i a;exact CL (by have:=Uu.1 a;omega) hl c
 rw [e,yH,YK,show min size (44*m)=size by omega,LV b]
def CM (c:∀ x∈dl,x<256):(dS D dl).length=D/\∀ l∈dS D dl,∀ x∈l,x<256:=by
 refine ⟨dY D dl,λl hl x a=>?_⟩;obtain ⟨i,b,rfl⟩:=UT hl;rw [oG b] at a;exact CK c x (U0 (UY a))
def dA (D:Nat) (d:a8) (k:Nat):a8:=(d.drop (k*(D*44))).take (D*44)
def je (h:k<l.length):l.getD k 0=l[k]:=by rw [T6,Ua h];rfl
def lY (h:k<l.length):l.getD k 0∈l:=by rw [je h];exact TY h
def aF.at (A:aF) (b:Nat) (f:Nat->bw):Prop:=∀ i,i<A.n->A.rc i b=f i
def aF.holds (A:aF) (D L G:Nat) (S:a8) (c:Nat->a8):Prop:=∀ k,k<S.length->A.at (S.getD k 0) (Pu D L G (c k))
def jP (A:aF) (ds:a8) {b m:Nat} (f:Nat->bw) (i:Nat) (h:m≠b):(A.putAt ds b f).rc i m=A.rc i m:=TS λq=>h q.1
def uE (A:aF) (b:Nat) (f:Nat->bw) {i n:Nat} (h:i<n):(A.putAt (YF n) b f).rc i b=f i:=TT ⟨rfl,Uu.2 h⟩
def oS {A:aF} {S:a8} {c:Nat->a8} (i:Nat) {m:Nat} (h:m∉S):∀ k,k<=S.length->(A.wrTo D L G S c k).rc i m=A.rc i m
 | 0,_=>rfl
 | k+1,hk=>(jP _ _ (b:=S.getD k 0) _ _ (λe:m=S.getD k 0=>h (e▸lY hk))).trans (oS i h k (by omega))
def Gv {A:aF} {S:a8} {c:Nat->a8} (b:S.Nodup) {i:Nat} (a:i<A.n):∀ k j,j<k->k<=S.length->(A.wrTo D L G S c k).rc i (S.getD j 0)=Pu D L G (c j) i
 | 0,_,hj,_=>by omega
 | k+1,j,hj,hk=>by
  rcases XT (YW hj) with rfl|d
  . exact uE _ _ _ (by rw [(ju A D L G S c j).1];exact a)
  . refine (jP _ _ _ _ (λe=>?_)).trans (Gv b a k j d (by omega));rw [je (by omega),je (by omega)] at e;have:=(List.getElem_inj b).1 e;omega
def uF {A:aF} {S:a8} (c:Nat->a8) (d:S.Nodup):(A.wrTo D L G S c S.length).holds D L G S c:=λk b i a=>Gv d (by rw [(ju A D L G S c _).1] at a;exact a) _ k b lR
def aF.at.off {A B:aF} {f:Nat->bw} (h:A.at b f) (c:B.n=A.n) (hr:∀ i,B.rc i b=A.rc i b):B.at b f:=λi a=>(hr i).trans (h i (c▸a))
def aF.holds.off {A B:aF} {S:a8} {c:Nat->a8} (h:A.holds D L G S c) (d:B.n=A.n) (hr:∀ b∈S,∀ i,B.rc i b=A.rc i b):B.holds D L G S c:=λk a=>(h k a).off d (hr _ (lY a))
abbrev aZ:=List (Ob×a8)
def aZ.os (xs:aZ):List Ob:=xs.map (·.1)
def aZ.names (xs:aZ):List ByteArray:=aS xs.os
structure lh (D:Nat) (x:Ob×a8):Prop where
 fit:x.1.fit
 st:x.1.RL.length=max 1 ((x.1.size+D*44-1)/(D*44))
 len:x.2.length=x.1.size
 byt:∀ b∈x.2,b<256
def Aj {xs:aZ} {x:Ob×a8} (a:x∈xs) {b:Nat} (h:b∈x.1.RL):b∈af xs.os:=XR.2 ⟨x.1,List.mem_map_of_mem a,h⟩
structure cM (A:aF) (D L G t:Nat) (P:a8) (xs:aZ):Prop where
 turn:0<t
 root:A.at 0 (λ_=>.root D L G t (P.getD 0 0) (ai xs.os).length)
 fill:A.at 1 (λ_=>.filled)
 pl:P.length=pgs D (ai xs.os).length
 page:A.holds D L G P (cF D P (ai xs.os))
 nod:(P++af xs.os).Nodup
 Ti:∀ x∈P++af xs.os,2<=x/\x<A.nb
 fits:∀ x∈xs,lh D x
 up:Up xs.names
 held:∀ x∈xs,A.holds D L G x.1.RL (dA D x.2)
 room:(af xs.os).length+2*P.length+2<=A.nb
def cM.off {A B:aF} {xs:aZ} (h:cM A D L G t P xs) (a:B.n=A.n) (d:B.nb=A.nb) (hr:∀ b,(b<2\/b∈P++af xs.os)->∀ i,B.rc i b=A.rc i b):cM B D L G t P xs:=
 ⟨h.turn,h.root.off a (hr 0 (.inl (by decide))),h.fill.off a (hr 1 (.inl (by decide))),h.pl,h.page.off a λb c=>hr b (.inr (UL _ c)),h.nod,d▸h.Ti,h.fits,h.up,λx e=>(h.held x e).off a λb c=>hr b (.inr (V6 _ (Aj e c))),d▸h.room⟩
def Px (A:aF) (D L G t:Nat) (P l:a8):(A.TG D L G t P l).n=A.n/\(A.TG D L G t P l).nb=A.nb/\dZ A (A.TG D L G t P l):=have h:=ju A D L G P (cF D P l) P.length;⟨h.1,h.2.1,h.2.2.trans (dZ.put _ _ _ _)⟩
def qE {B:aF} {xs':aZ} (n:B.at 1 (λ_=>.filled))
 (o:P'.length=pgs D (ai xs'.os).length) (f:(P'++af xs'.os).Nodup) (d:∀ x∈P'++af xs'.os,2<=x/\x<B.nb) (m:∀ x∈xs',lh D x) (r:Up xs'.names) (k:∀ x∈xs',B.holds D L G x.1.RL (dA D x.2)) (l:(af xs'.os).length+2*P'.length+2<=B.nb) {t':Nat} (t:0<t') :
 cM (B.TG D L G t' P' (ai xs'.os)) D L G t' P' xs':=by
 have a:=Px B D L G t' P' (ai xs'.os);have p:=ju B D L G P' (cF D P' (ai xs'.os)) P'.length;have g:∀ b∈P'++af xs'.os,b≠0:=λb c e=>by have:=(d b c).1;omega
 refine ⟨t,λi s=>uE _ _ _ (a.1▸s),n.off a.1 λi=>(jP _ _ _ _ (by decide)).trans (oS i (λq=>by have:=(d 1 (UL _ q)).1;omega) _ lR),o,
  (uF (A:=B) (cF D P' (ai xs'.os)) (U9.1 f).1).off (a.1.trans p.1.symm) λb c i=>jP _ _ _ _ (g b (UL _ c)),f,by rw [a.2.1];exact d,m,r,λx j=>(k x j).off a.1 λb c i=>?_,by rw [a.2.1];exact l⟩
 have h:=Aj j c;exact (jP _ _ _ _ (g b (V6 _ h))).trans (oS i (λq=>(U9.1 f).2.2 b q b h rfl) _ lR)
def aZ.ins (xs:aZ) (x:Ob×a8):aZ:=xs.take (aK xs.names x.1.name)++x::xs.drop (aK xs.names x.1.name)
def aZ.del (xs:aZ) (k:Nat):aZ:=xs.take k++xs.drop (k+1)
def jQ (xs:aZ) (x:Ob×a8):(xs.ins x).Perm (x::xs):=by
 unfold aZ.ins;refine List.perm_middle.trans ?_;rw [Wo]
def LX (xs:aZ) (x:Ob×a8):(xs.ins x).os=xs.os.take (aK xs.names x.1.name)++x.1::xs.os.drop (aK xs.names x.1.name):=by
 unfold aZ.ins aZ.os;rw [Uv,UG,WA,WB]
def IS (xs:aZ) (x:Ob×a8):(xs.ins x).names=xs.names.take (aK xs.names x.1.name)++x.1.name::xs.names.drop (aK xs.names x.1.name):=by
 unfold aZ.names;rw [LX];unfold aS aZ.names aS;rw [Uv,UG,WA,WB]
def LY (xs:aZ) (k:Nat):(xs.del k).os=xs.os.take k++xs.os.drop (k+1):=by
 unfold aZ.del aZ.os;rw [Uv,WA,WB]
def IT (xs:aZ) (k:Nat):(xs.del k).names=xs.names.take k++xs.names.drop (k+1):=by
 unfold aZ.names;rw [LY];unfold aS;rw [Uv,WA,WB]
def kT (xs:aZ) (k:Nat):(xs.del k).Sublist xs:=by
 have a:(xs.take k++xs.drop (k+1)).Sublist (xs.take k++xs.drop k):=YO (YP _) (by rw [<- VK];exact YN _ _);rwa [Wo] at a
def E6 (o:Ob) (os:List Ob):af (o::os)=o.RL++af os:=by unfold af;rw [VN]
def qF (xs:aZ) (x:Ob×a8):(af (xs.ins x).os).Perm (x.1.RL++af xs.os):=by
 have h:=(jQ xs x).map (·.1);have:=h.flatMap_right (·.RL);rw [UG,VN] at this;exact this
def IU (xs:aZ) (x:Ob×a8):(ai (xs.ins x).os).length=(ai xs.os).length+(bP x.1).length:=by
 have h:=((jQ xs x).map (·.1)).flatMap_right bP;rw [UG,VN] at h;have:=h.length_eq;rw [T8] at this;unfold ai aZ.os;omega
def oT {β:Type} (f:α->List β):∀ {l m:List α},l.Sublist m->(l.flatMap f).Sublist (m.flatMap f)
 | _,_,.slnil=>by simp
 | _,_,.cons a h=>by rw [VN];exact (oT f h).trans (ace _ _)
 | _,_,.cons_cons a h=>by rw [VN,VN];exact YO (YP _) (oT f h)
def IV (xs:aZ) (k:Nat):(af (xs.del k).os).Sublist (af xs.os):=oT _ ((kT xs k).map _)
def qG (xs:aZ) (k:Nat):(ai (xs.del k).os).length<=(ai xs.os).length:=(oT bP ((kT xs k).map (Prod.fst:Ob×a8->Ob))).length_le
def uG (h:m<=n):pgs D m<=pgs D n:=by
 unfold pgs;have:(m+(D*44-4)-1)/(D*44-4)<=(n+(D*44-4)-1)/(D*44-4):=Yn (by omega);omega
def LZ {A:aF} {xs:aZ} (h:cM A D L G t P xs) (x:Ob×a8) (u:lh D x) (p:x.1.name∉xs.names) (r:P'.length=pgs D (ai (xs.ins x).os).length)
 (m:((x.1.RL++P')++(P++af xs.os)).Nodup) (j:∀ b∈(x.1.RL++P')++(P++af xs.os),2<=b/\b<A.nb) (E:(af xs.os).length+x.1.RL.length+2*P'.length+2<=A.nb) :
 cM ((A.wrTo D L G x.1.RL (dA D x.2) x.1.RL.length).TG D L G (t+1) P' (ai (xs.ins x).os)) D L G (t+1) P' (xs.ins x):=by
 obtain ⟨k,l,_⟩:=ju A D L G x.1.RL (dA D x.2) x.1.RL.length;rw [U9] at m;obtain ⟨v,w,g⟩:=m;obtain ⟨o,z,B⟩:=U9.1 v;obtain ⟨F,C,H⟩:=U9.1 w;have n:∀ b,b∉x.1.RL->∀ i,(A.wrTo D L G x.1.RL (dA D x.2) x.1.RL.length).rc i b=A.rc i b:=λb c i=>oS i c _ lR;refine qE (h.fill.off k (n 1 λe=>by have:=(j 1 (by simp [e])).1;omega)) r ?_ ?_ ?_ ?_ ?_ ?_ (by omega)
 . have s:(P'++af (xs.ins x).os).Perm (P'++(x.1.RL++af xs.os)):=(qF xs x).append_left P';rw [s.nodup_iff,U9];refine ⟨z,?_,?_⟩
   . rw [U9];exact ⟨o,C,λa f b c=>g a (by simp [f]) b (by simp [c])⟩
   . intro a f b c;rcases Uj.1 c with c|c
     . exact λe=>B b c a f e.symm
     . exact g a (by simp [f]) b (by simp [c])
 . intro b c;rw [l];refine j b ?_;rcases Uj.1 c with c|c
   . simp [c]
   . have:=(qF xs x).mem_iff.1 c;rcases Uj.1 this with q|q<;>simp [q]
 . intro y d;rcases Uw.1 ((jQ xs x).mem_iff.1 d) with rfl|d
   . exact u
   . exact h.fits y d
 . rw [IS];exact IP h.up p
 . intro y d;rcases Uw.1 ((jQ xs x).mem_iff.1 d) with rfl|d
   . exact uF _ o
   . exact (h.held y d).off k λb c=>n b λe=>g _ (UL _ e) _ (V6 _ (Aj d c)) rfl
 . rw [(qF xs x).length_eq,T8,l];omega
def L0 {A:aF} {xs:aZ} (h:cM A D L G t P xs) (k:Nat) (f:P'.length=pgs D (ai (xs.del k).os).length)
 (j:(P'++(P++af xs.os)).Nodup) (i:∀ b∈P'++(P++af xs.os),2<=b/\b<A.nb) :
 cM (A.TG D L G (t+1) P' (ai (xs.del k).os)) D L G (t+1) P' (xs.del k):=by
 have d:=IV xs k;obtain ⟨m,n,o⟩:=U9.1 j;obtain ⟨s,p,u⟩:=U9.1 n;refine qE h.fill f ?_ ?_ (λx e=>h.fits x ((kT xs k).subset e)) ?_ (λx e=>h.held x ((kT xs k).subset e)) ?_ (by omega)
 . rw [U9];exact ⟨m,p.sublist d,λa l b c=>o a l b (V6 _ (d.subset c))⟩
 . intro b c;refine i b ?_;rcases Uj.1 c with c|c
   . simp [c]
   . simp [d.subset c]
 . rw [IT];exact LS h.up k
 . have:=d.length_le;have:=h.room;have g:=uG (D:=D) (qG xs k);rw [<- f,<- h.pl] at g;omega
theorem Gw (q s:Nat) (d:1<=q):max 1 ((s+q-1)/q)<=s/q+1:=by
 have c:(s+q-1)/q<=(s+q)/q:=Yn (by omega);rw [Nat.add_div_right _ (by omega)] at c;generalize s/q=a at c ⊢;generalize (s+q-1)/q=b at c ⊢;omega
def rA (D:Nat) (xs:aZ):Nat:=(xs.map λx=>x.2.length/(D*44)+1).sum
def Gx (hD:1<=D):∀ {xs:aZ},(∀ x∈xs,lh D x)->(af xs.os).length<=rA D xs
 | [],_=>by simp [rA,af,aZ.os]
 | x::xs,h=>by
  have ih:=Gx hD (xs:=xs) (λy c=>h y (by simp [c]));have a:=h x (by simp);have b:=Gw (D*44) x.1.size (by omega);rw [<- a.st] at b;have e:af (aZ.os (x::xs))=x.1.RL++af (aZ.os xs):=by unfold aZ.os;rw [UG,E6]
  rw [e,T8];unfold rA at ih ⊢;rw [UG,XI,a.len];omega
def jf (hD:1<=D):∀ {xs:aZ},(∀ x∈xs,lh D x)->(ai xs.os).length<=xs.length*(19+4*(1500/(D*44)+1))
 | [],_=>by simp [ai,aZ.os]
 | x::xs,h=>by
  have:=jf hD (xs:=xs) (λy c=>h y (by simp [c]));have a:=h x (by simp);have b:=Gw (D*44) x.1.size (by omega);rw [<- a.st] at b;have:x.1.size/(D*44)<=1500/(D*44):=Yn a.fit.size;have e:ai (aZ.os (x::xs))=bP x.1++ai (aZ.os xs):=by unfold aZ.os ai;rw [UG,VN]
  rw [e,T8,dh a.fit,UD,XN];omega
def E7 (hD:1<=D) (k:D<=6) {xs:aZ} (h:∀ x∈xs,lh D x) {n nb count pages:Nat} (i:n<=1500) (b:count=max 1 ((n+D*44-1)/(D*44))) (c:pages=pgs D ((ai xs.os).length+(19+4*count)))
 (d:nb<(af xs.os).length+count+2*pages+2):nb<rA D xs+(n/(D*44)+1)+2*((xs.length+1)*200/(D*44)+1)+8:=by
 have e:=Gx hD h;have f:=jf hD h;have g:=Gw (D*44) n (by omega);rw [<- b] at g;have j:n/(D*44)<=1500/(D*44):=Yn i;suffices hs:pages<=(xs.length+1)*200/(D*44)+4 by omega
 obtain ⟨m,a⟩:=nM (xs.length);obtain ⟨l,hl⟩:=nM ((ai xs.os).length);rw [a,hl] at f;rw [hl] at c;rw [a];clear e b a hl d h;subst c;unfold pgs;have:D=1\/D=2\/D=3\/D=4\/D=5\/D=6:=by omega
 rcases this with rfl|rfl|rfl|rfl|rfl|rfl<;>omega
def E8 {A:aF} {xs:aZ} (h:cM A D L G t P xs) {count pages l:Nat} (c:pages=pgs D ((ai xs.os).length+l)) (d:(af xs.os).length+count+2*pages+2<=A.nb) :
 count+pages<=(aY (tk A.nb (P++af xs.os)).1 A.nb).length:=by
 have a:=lT h.nod h.Ti;have b:=uG (D:=D) (show (ai xs.os).length<=(ai xs.os).length+l by omega);rw [<- c,<- h.pl] at b;rw [T8] at a;omega
def E9 {A:aF} {xs:aZ} (h:cM A D L G t P xs) (k:Nat):pgs D (ai (xs.del k).os).length<=(aY (tk A.nb (P++af xs.os)).1 A.nb).length:=by
 have a:=lT h.nod h.Ti;have b:=uG (D:=D) (qG xs k);rw [<- h.pl] at b;rw [T8] at a;have:=h.room;omega
theorem mD (x:ByteArray) (w:ZS):ZP ZL 141 #[ZZ x] w λe w'=>e=Z3 (Z1 ZT)/\w'=w:=by
 go_enter func141,ntmps141;go_wp2;go_ret;exact ⟨by simp,rfl⟩
def rU (a b:ByteArray):Int:=if jx a b then -1 else if jx b a then 1 else 0
def Gy {a b:ByteArray}:rU a b<0↔jx a b=ZU:=by
 unfold rU;cases h1:jx a b<;>cases h2:jx b a<;>simp
theorem Gz {a b:ByteArray}:rU a b=0↔a=b:=by
 unfold rU;constructor
 . intro h;cases h1:jx a b
   . cases h2:jx b a
     . exact sF h1 h2
     . simp [h1,h2] at h
   . simp [h1] at h
 . rintro rfl;simp [iP]
theorem CN (x y:ByteArray) (w:ZS):ZP ZL 108 #[ZZ x,ZZ y] w λe w'=>e=Z3 (Z7 Z9 (rU x y))/\w'=w:=by
 by_cases a:x=y
 . subst a;have hl:Op.bytesLess x.toList x.toList=ZT:=iP x;have c:rU x x=0:=Gz.2 rfl;rw [c];go_enter func108,ntmps108;go_wp2_with fail;refine (mD x w).mono ?_;rintro e w1 ⟨rfl,rfl⟩;go_wp2_with fail;refine (mD x w1).mono ?_;rintro e w2 ⟨rfl,rfl⟩;go_wp2;go_ret;exact ⟨rfl,rfl⟩
 . have d:¬ x.toList=y.toList:=λe=>a (toList_inj e);have f:(!x.toList==y.toList)=ZU:=(by simp [d]);obtain ⟨lt,b⟩:=nM (jx x y);have hl:Op.bytesLess x.toList y.toList=lt:=b;have c:rU x y=if lt then -1 else 1:=by
    unfold rU;rw [b];cases lt
    . cases hg:jx y x
      . exact absurd (sF b hg) a
      . rfl
    . rfl
   rw [c];clear c b;go_enter func108,ntmps108;go_wp2_with fail;refine (mD x w).mono ?_;rintro e w1 ⟨rfl,rfl⟩;go_wp2_with fail;refine (mD y w1).mono ?_;rintro e w2 ⟨rfl,rfl⟩;cases lt
   . go_wp2;go_ret;exact ⟨rfl,rfl⟩
   . go_wp2;go_ret;exact ⟨rfl,rfl⟩
theorem yI (nm x:ByteArray) (b:Int) (a:ZR) (w:ZS):ZP ZL 107 #[.agg #[ZZ nm,Z7 Z9 b,a],ZZ x] w λe w'=>e=Z3 (Z7 Z9 (rU nm x))/\bW w w':=by
 have c:bW w (w.alloc (Z4 #[ZZ nm,Z7 Z9 b,a] 137)):=bA w _;go_enter func107,ntmps107;go_wp2_with fail;refine (CN nm x _).mono ?_;rintro e w1 ⟨rfl,rfl⟩;go_wp2;go_ret;exact ⟨rfl,c⟩
def mP (os:List Ob) (x:ByteArray):Bool:=match (aS os)[aK (aS os) x]? with
 | some n=>decide (n=x)
 | none=>ZT
theorem CO {os:List Ob} (d:Up (aS os)) (x:ByteArray):mP os x=ZU↔x∈aS os:=by
 unfold mP;constructor
 . intro h;split at h
   . rename_i n c
     have:=Wy h;rw [<- this];exact List.mem_of_getElem? c
   . cases h
 . intro h;obtain ⟨a,b⟩:=uD d h;rw [Ua a,b];simp
def FdR (w:ZS) (os:List Ob) (x:ByteArray) (i j:ZR) (wr:ZS):Prop:=∃ a b:Nat,a<=b/\b<=os.length/\i=Z7 Z9 a/\j=Z7 Z9 b/\(∀ k (hk:k<os.length),k<a->jx os[k].name x=ZU)/\(∀ k (hk:k<os.length),b<=k->jx os[k].name x=ZT)/\bW w wr
def Py {os:List Ob} (a:Up (aS os)) {i j:Nat} (b:i<os.length) (c:j<os.length) (h:i<j):jx os[i].name os[j].name=ZU:=by
 unfold Up at a;rw [V0] at a;have:=a i j (by rw [bm];exact b) (by rw [bm];exact c) h;unfold aS at this;rwa [UQ,UQ] at this
def eN.at' {ao:Option Addr} {os:List Ob} (h:eN K w (.slice ao n c) os) {k:Nat} (d:k<os.length):∃ b off a,ao=ZV ⟨b,off,ZW⟩/\b<w.heap.size/\K b/\w.cell? ⟨b,off+k*3,ZW⟩=ZV (ZZ os[k].name)/\w.cell? ⟨b,off+k*3+1,ZW⟩=ZV (Z7 Z9 (os[k].size:Nat))/\w.cell? ⟨b,off+k*3+2,ZW⟩=ZV a/\bg K w a os[k].RL:=by
 obtain ⟨f,s,e,_,g⟩:=h;obtain ⟨b,off,i,j,l,m⟩:=g (λe=>by rw [e] at d;simp at d);simp only [VH] at e;obtain ⟨rfl,_,_⟩:=e;obtain ⟨a,o,p,q,r⟩:=m k d;exact ⟨b,off,a,i,l.lt,j,o,p,q,r⟩
theorem Fa {os:List Ob} (L:eN (λk=>k<w.heap.size) w v os) (kb:os.length<=10000) (T:Up (aS os)) (x:ByteArray) :
 ZP ZL 106 #[v,ZZ x,.func (.func 107) #[] #[]] w λe w'=>e=Z3 (ZY #[Z7 Z9 (aK (aS os) x:Nat),Z1 (mP os x)])/\bW w w':=by
 obtain ⟨ao,c,rfl,k0,_⟩:=id L;obtain ⟨N,P⟩:=nM (os.length);have H:=al L T;clear L T;rw [P];go_enter func106,ntmps106;go_wp2;go_loopw [9,10] (λi j wr=>FdR w os x i j wr) (λi j _=>(intOf j).toNat-(intOf i).toNat)
 case atStart=>exact ⟨0,N,T5 _,by omega,rfl,rfl,λk _ h=>by omega,λk r h=>by omega,TW _ w⟩
 case round=>
  obtain ⟨a,b,k8,V,rfl,rfl,p,n,f⟩:=hrel;by_cases k9:a<b
  . obtain ⟨m,E⟩:∃ m:Nat,m=(a+b)/2:=⟨_,rfl⟩;have S:((a:Int)+(b:Int))/2=(m:Int):=(by omega);have M:m<os.length:=(by omega);obtain ⟨b0,off,O,rfl,hv,_,A,B,F,_⟩:=(H.o.1.keep (eu.RM f)).at' (k:=m) M;obtain ⟨nm,d⟩:=nM (os[m].name);obtain ⟨u,D⟩:∃ u:Int,((os[m].size:Nat):Int)=u:=⟨_,rfl⟩;rw [d] at A;rw [D] at B;have k5:m<N:=(by omega);have k6:(m:Int)<(N:Int):=(by omega);have s:=a6 p n f d E;clear p n f d E D;go_wp2_with fail;refine (yI nm x u O wr).mono ?_;rintro e w1 ⟨rfl,y⟩;obtain ⟨J,l⟩:=nM (rU nm x);rw [l];obtain ⟨p,n,f,d,E⟩:=s.o;have g:bW w w1:=f.trans (y.mono f.size);by_cases Q:J<0
    . have q:jx nm x=ZU:=Gy.1 (by rw [l];exact Q);have G:cA (FdR w os x (Z7 Z9 ((m+1:Nat):Int)) (Z7 Z9 (b:Nat)) w1):=ak ⟨m+1,b,by omega,V,rfl,rfl,(λk r h=>by
       rcases XT (YW h) with e|K
       . subst e;rw [d];exact q
       . have:=Py H.o.2 r M K;rw [d] at this;exact jO this q),(λk r h=>n k r h),g⟩
      clear p n f d y g q l s A B F;dsimp only;have ka:m<=10000:=(by omega);have k7:a<=m:=(by omega);have Z:m<b:=(by omega);clear E S;go_wp2;refine ⟨by simpa using G.o,?_⟩;show ((b:Int)).toNat-((m:Int)+1).toNat<((b:Int)).toNat-((a:Int)).toNat;omega
    . have q:jx nm x=ZT:=by
       cases h:jx nm x
       . rfl
       . exact absurd (Gy.2 h) (by rw [l];exact Q)
      have G:cA (FdR w os x (Z7 Z9 (a:Nat)) (Z7 Z9 (m:Nat)) w1):=ak ⟨a,m,by omega,by omega,rfl,rfl,(λk r h=>p k r h),(λk r h=>by
       rcases XT h with e|K
       . subst e;rw [d];exact q
       . have:=Py H.o.2 M r K;rw [d] at this;cases hx:jx os[k].name x
         . rfl
         . rw [jO this hx] at q;cases q),g⟩
      clear p n f d y g q l s A B F;dsimp only;have k7:a<=m:=(by omega);have Z:m<b:=(by omega);clear E S;go_wp2;refine ⟨G.o,?_⟩;show ((m:Int)).toNat-((a:Int)).toNat<((b:Int)).toNat-((a:Int)).toNat;omega
  . have U:a=b:=(by omega);subst U;have z:aK (aS os) x=a:=gH _ _ _ (by rw [bm];omega) (λj Y h=>by
     have hz:j<os.length:=(by rwa [bm] at Y);simpa [aS] using p j hz h) (λX=>by
     have hy:a<os.length:=(by rwa [bm] at X);simpa [aS] using n a hy lR)
    by_cases hr:a<N
    . have hs:a<os.length:=P.symm▸hr;obtain ⟨b0,off,O,rfl,hv,_,A,B,F,_⟩:=(H.o.1.keep (eu.RM f)).at' (k:=a) hs;obtain ⟨nm,d⟩:=nM (os[a].name);obtain ⟨u,D⟩:∃ u:Int,((os[a].size:Nat):Int)=u:=⟨_,rfl⟩;have C:mP os x=decide (rU nm x=0):=by
       unfold mP;rw [z,Ua (by rw [bm];omega)];simp only [aS,UQ,d];exact decide_eq_decide.2 Gz.symm
      rw [d] at A;rw [D] at B;have W:(a:Int)<(N:Int):=(by omega);have s:=ak f;have I:=al z C;clear p n f d z C D;go_wp2_with fail;refine (yI nm x u O wr).mono ?_;rintro e w1 ⟨rfl,y⟩;obtain ⟨J,l⟩:=nM (rU nm x);have t:=al I.o.1 (I.o.2.trans (by rw [l]));rw [l];have g:cA (bW w w1):=ak (s.o.trans (y.mono s.o.size));clear y s I A B F l;by_cases R:J=0
      . subst R;go_wp2;go_ret2;refine ⟨?_,g.out⟩;rw [t.out.1,t.out.2];rfl
      . go_wp2;go_ret2;refine ⟨?_,g.out⟩;rw [t.out.1,t.out.2];simp [R]
    . have C:mP os x=ZT:=by
       unfold mP;rw [z,Vo (by rw [bm];omega)]
      have W:¬ (a:Int)<(N:Int):=(by omega);have g:cA (bW w wr):=ak f;have t:=al z C;clear p n f z C;go_wp2;go_ret2;refine ⟨?_,g.out⟩;rw [t.out.1,t.out.2];rfl
theorem L2 {os:List Ob} (c:eN (λk=>k<w.heap.size) w v os) (g:os.length<=10000) (h:Up (aS os)) (x:ByteArray) :
 ZP ZL 73 #[v,ZZ x] w λe w'=>e=Z3 (ZY #[Z7 Z9 (aK (aS os) x:Nat),Z1 (mP os x)])/\bW w w':=by
 have a:=Fa c g h x;obtain ⟨n,f⟩:=nM (aK (aS os) x);obtain ⟨i,d⟩:=nM (mP os x);rw [f,d] at a ⊢;clear f d;go_enter func73,ntmps73;go_wp2_with fail;refine a.mono ?_;rintro e w1 ⟨rfl,b⟩;have H:=ak b;clear b a c;go_wp2;go_ret2;exact ⟨rfl,H.o⟩
def b9 (x:ByteArray):Bool:=decide (1<=x.size/\x.size<=16)
theorem jR (x:ByteArray) (w:ZS):ZP ZL 74 #[ZZ x] w λe w'=>e=Z3 (Z1 (b9 x))/\w'=w:=by
 have g:b9 x=(decide (1<=x.size)&&decide (x.size<=16)):=by unfold b9;simp
 rw [g];obtain ⟨n,f⟩:=nM (x.size);rw [f];by_cases b:1<=n
 . have a:(1:Int)<=(n:Int):=(by omega);by_cases c:n<=16
   . have d:(n:Int)<=16:=(by omega);go_enter func74,ntmps74;go_wp2;go_ret;exact ⟨by simp [b,c],rfl⟩
   . have d:¬ (n:Int)<=16:=(by omega);go_enter func74,ntmps74;go_wp2;go_ret;exact ⟨by simp,rfl⟩
 . have a:¬ (1:Int)<=(n:Int):=(by omega);go_enter func74,ntmps74;go_wp2;go_ret;exact ⟨by simp,rfl⟩
theorem uH (s:ByteArray) (w:ZS) (l:¬ s.size=0) (A:s.size<=1000000):ZP ZL 138 #[ZZ s] w λe w'=>e=Z3 (ZZ s)/\bW w w':=by
 obtain ⟨i,d,v,a,y⟩:=Us Tryz.R2;have m:(ZL.info? 5).map (·.size)=ZV 1:=by rw [d];simp [a]
 have r:ZL.cellsOf 5=1:=by simp [Program.cellsOf,d,a]
 obtain ⟨M,b⟩:∃ M,M=madeCells (Value.int .u8 0).cells (((s.size:Nat):Int).toNat*i.size):=⟨_,rfl⟩;have B:M.size=s.size:=by rw [b,size_madeCells,a];simp
 have D:∀ W:ZS,(Instr.makeSlice 39 (Z7 Z9 (s.size:Int)) (Z7 Z9 (s.size:Int))).run ZL W=.ok (Z5 (ZV ⟨W.heap.size,0,ZW⟩) s.size s.size) (W.alloc (Z4 M 5)):=λW=>by
  have h:=run_make (P:=ZL) W 39 5 i (Z7 .u8 0) Ul d v .i64 .i64 (s.size:Int) (s.size:Int) (by omega) (by omega) (by rw [y];omega) (by omega);rw [<- b] at h;simpa using h
 clear b;have t:=Lib.run_copy_row_string (P:=ZL) (w.alloc (Z4 M 5)) 39 9 3 5 w.heap.size 0 s.size s.size s M 5 Ul m (abq w _) lR (by omega);obtain ⟨Y,c⟩:∃ Y,Y=(M.toList.take 0++Lib.byteCells s.data.toList++M.toList.drop (0+s.size)).toArray:=⟨_,rfl⟩;rw [<- c] at t;have f:Y.toList=Lib.byteCells s.data.toList:=by
  rw [c,List.toList_toArray,Wm,Uo,WM (by rw [Ww];omega),Wn]
 have C:Y.size=s.size:=by rw [<- Ww,f,Lib.byteCells_length,<- Yo]
 have g:((w.alloc (Z4 M 5)).setRow w.heap.size Y).heap[w.heap.size]?=ZV (Z4 Y 5 (0,0)):=Vv _ _ M _ 5 (0,0) (abq w _);have u:s.data.toList≠[]:=λe=>l (by rw [Yo,e];rfl);have n:=Lib.run_unsafeString_row (P:=ZL) ((w.alloc (Z4 M 5)).setRow w.heap.size Y) 283 3 9 5 underlying283 r w.heap.size Y.size (by unfold World.shape?;rw [g]) s.data.toList u (by rw [<- Yo];omega) (by rw [<- Yo];omega)
  (λj x z=>Lib.cells_of_row g Y.size j _ (by rw [UI (by rw [Ww];exact TV _),f];simp [Lib.byteCells,z]))
 rw [<- Yo] at n;clear c;go_enter func138,ntmps138;go_wp2;go_ret;have o:bW w (w.alloc (Z4 M 5)):=bA w _;have q:ZQ w.heap.size (w.alloc (Z4 M 5)) ((w.alloc (Z4 M 5)).setRow w.heap.size Y):=⟨rfl,rfl,rfl,by simp,λk E=>setRow_other _ _ _ _ (by omega)⟩;exact ⟨rfl,Lib.below_freeze (o.trans q) (p:=⟨w.heap.size,0,ZW⟩) lR _⟩
theorem uI (s:ByteArray) (w:ZS) (c:¬ s.size=0) (d:s.size<=1000000):ZP ZL 101 #[ZZ s] w λe w'=>e=Z3 (ZZ s)/\bW w w':=by
 have b:=uH s w c d;go_enter func101,ntmps101;go_wp2_with fail;refine b.mono ?_;rintro e w1 ⟨rfl,a⟩;have H:=ak a;clear a b;go_wp2;go_ret;exact ⟨rfl,H.o⟩
theorem oU {os:List Ob} (a:eN K w v os) (hr:os.length<=10000) :
 ZP ZL 114 #[v] w λe w'=>∃ u L,e=Z3 u/\L.map (·.1)=os/\Oj K w L/\w'.ownsRow w.heap.size 137 3 u L.length (bU L)/\bW w w':=by
 obtain ⟨L,hL,j,f⟩:=Ol a;obtain ⟨ao,c,rfl,Q,d⟩:=id a;have F:L.length=os.length:=by rw [<- hL,T9]
 obtain ⟨M,I,B,C,D⟩:=Us Tryz.RX;cases ao with
 | none=>
  have t:os=[]:=Classical.byContradiction λh=>by obtain ⟨b,off,e,_⟩:=d h;cases e
  subst t;have E:L=[]:=UX F;subst E;have G:=λl=>XO (P:=ZL) l 133 137 ZW 0 c 0 0 Vw;simp only [UW];clear d a f j;go_enter func114,ntmps114;go_wp2;go_ret;exact ⟨_,[],rfl,rfl,λx J=>by simp at J,UN _ _ _ _,TW _ _⟩
 | some s=>
  have G:=λl=>XO (P:=ZL) l 133 137 (ZV s) os.length c 0 0 Vw;have g:bW w (w.alloc (Z4 #[] 137)):=bA _ _;have p:=f _ (eu.RM g);have r:(w.alloc (Z4 #[] 137)).ownsRow w.heap.size 137 3 (Z5 (ZV ⟨w.heap.size,0,ZW⟩) 0 0) 0 []:=⟨rfl,.inr ⟨w.heap.size,0,#[],rfl,TV _,UE w _,TV _,by unfold maxLen;omega,rfl,rfl⟩⟩;have H:=a6 hL j g p r;clear d a f j g p r hL;go_enter func114,ntmps114;go_wp2_with (at_builtin;refine ae _ rfl (Z0 5) (Z0 6) 133 133 rfl w.heap.size 137 M _ 3 48 Vw I B C D rfl _ 0 [] (by rfl) (by exact H.o.2.2.2.2) _ (by rfl) L.length (bU L) (by exact H.o.2.2.2.1) (by unfold maxLen;omega) (by omega) (by exact H.o.2.2.1.size) ?_;intro R S i q A;rw [Ui,Uo] at i;have m:=al i q;clear i q A);go_ret;obtain ⟨y,z,n,N,O⟩:=H.o;exact ⟨_,L,rfl,y,z,m.o.1,n.grown m.o.2 n.size (λk e=>by cases e;exact TV _)⟩
def oV {K:Act->ZS->Prop} (f:o.guard=ZW) (d x:ZM) (b c:ZN) (e:o.op=Op.call { callee:=Callee.builtin Builtin.copy,args:=#[d,x],argTypes:=#[b,c] })
 (v u:ZR) (hd:a.eval d=v) (hx:a.eval x=u) {v':ZR} {w':ZS} (hr:(Builtin.copy_ #[b,c] o.type #[v,u]).run ZL w=.ok v' w') (hK:K (a.put o.dst v') w'):if Region.wanted o (yielded ops a.tmps)=ZU then Oper.wp ZL o a w K Q else E:=by
 rw [TT (by simp [Region.wanted,f])];unfold Oper.wp;simp [execOp,e,resolve,invoke,builtin,hd,hx,hr,Result.andThen];exact hK
theorem L3 (cur c v:List α) (a m k:Nat) (g:cur.take k=c) (l:c.length=k) (h:v.length=m) (f:a<=k) (n:k+m<=cur.length) :
 ((cur.take (a+m)++c.drop a++cur.drop (a+m+(c.drop a).length)).take a++v++(cur.take (a+m)++c.drop a++cur.drop (a+m+(c.drop a).length)).drop (a+v.length)).take (k+m)=c.take a++(v++c.drop a) /\
 ((cur.take (a+m)++c.drop a++cur.drop (a+m+(c.drop a).length)).take a++v++(cur.take (a+m)++c.drop a++cur.drop (a+m+(c.drop a).length)).drop (a+v.length)).length=cur.length:=by
 have b:(cur.take (a+m)).length=a+m:=by rw [Un];omega
 have d:(cur.take (a+m)++c.drop a++cur.drop (a+m+(c.drop a).length)).take a=c.take a:=by
  rw [Uz,VV (by omega),YK,Wl (by omega),<- g,YK,Wl f]
 have e:(cur.take (a+m)++c.drop a++cur.drop (a+m+(c.drop a).length)).drop (a+v.length)=c.drop a++cur.drop (a+m+(c.drop a).length):=by
  rw [h,Uz];exact List.drop_left' b
 have i:(c.take a).length=a:=by rw [Un];omega
 have j:(c.drop a).length=k-a:=by rw [Um];omega
 rw [d,e];constructor
 . rw [Uz,<- Uz v,<- Uz (c.take a)];have:(c.take a++(v++c.drop a)).length=k+m:=by rw [T8,T8];omega
   rw [<- this,Yf]
 . simp only [T8,Um,Un];omega
def kU (b:Nat):∀ (a:List ZR) (o:Nat) (w:ZS),(w.drew.setCells b o a).heap=(w.setCells b o a).heap
 | [],_,_=>rfl
 | v::r,o,w=>kU b r (o+1) (w.setCell ⟨b,o,ZW⟩ v)
theorem GA (L:List (Ob×ZR)) (x:Ob×ZR) (i:Nat):(bU L).take (i*3)++(jw x++(bU L).drop (i*3))=bU (L.take i++x::L.drop i):=by
 rw [CG,uB,iO];congr 1
def GB:(ZL.info? 137).map (·.size)=ZV 3:=by kernel_rfl
theorem CP {vb:Nat} {cur:Array ZR} {L:List (Ob×ZR)} {x:Ob×ZR} (B:w.heap[g]?=ZV (Z4 cur 137 (0,0))) (S:base<=g) (D:cur.size=cap*3) (A:cur.toList.take (L.length*3)=bU L) (P:∀ u∈bU L,u.oneCell'=ZU) (V:∀ u∈jw x,u.oneCell'=ZU)
 (Z:i<L.length) (Y:L.length+1<=cap) (hl:L.length<=10000) (E:w.heap[vb]?=ZV (Z4 (jw x).toArray 137 (0,0))) (T:vb≠g) :
 ZP ZL 140 #[Z5 (ZV ⟨g,0,ZW⟩) L.length cap,Z7 Z9 i,Z5 (ZV ⟨vb,0,ZW⟩) 1 1] w λe w'=>e=Z3 (Z5 (ZV ⟨g,0,ZW⟩) (L.length+1) cap)/\ZQ base w w'/\∃ a,an w' g 137 a/\a.length=cap*3/\a.take ((L.length+1)*3)=bU (L.take i++x::L.drop i):=by
 obtain ⟨n,Q⟩:=nM (L.length);have m:an w g 137 cur.toList:=by unfold an;exact B
 have r:an w vb 137 (jw x):=E;have h:cur.toList.length=cap*3:=by simpa using D
 have s:((bU L).drop (i*3)).length=(n-i)*3:=by rw [Um,bY,Q];omega
 have kf:(jw x).length=3:=rfl;have U:∀ lb z ob,(callFunc 168 #[Z5 (ZV ⟨vb,0,ZW⟩) 1 1,Z5 (ZV ⟨g,ob,ZW⟩) lb z]).run ZL w=.ok (.value (Z1 ZT)) w:=λlb z ob=>by
  rw [run_callFunc_extern func168 (by kernel_rfl) (by kernel_rfl) (by kernel_rfl) (e:=Extern.SlicesOverlaps.overlaps #[132,132] #[4]) (by kernel_rfl),
   Lib.run_overlaps_apart w 132 4 137 underlying132 3 (λw=>by obtain ⟨io,ka,kb,hs,kc⟩:=Us Tryz.RX;simp [sizeOf,typeInfo,ka,hs]) ⟨vb,0,ZW⟩ ⟨g,ob,ZW⟩ 1 1 lb z T 137 137 3 (cap*3) (by simp [World.shape?,E];rfl) (by simp [World.shape?,B,D]) (by omega) (r.R3 _) (r.R3 _)]
  rfl
 have K:∀ c d l1 b F y G,d=i*3+3->l1=n-i->F=i*3->y=n+1-i->(Builtin.copy_ #[133,133] c #[Z5 (ZV ⟨g,d,ZW⟩) l1 b,Z5 (ZV ⟨g,F,ZW⟩) y G]).run ZL w.drew=.ok (goInt (YI y l1)) (w.drew.setCells g (i*3+3) ((bU L).drop (i*3))):=by
  rintro c d l1 b F y G rfl rfl rfl rfl;refine ea w.drew _ _ c 137 3 g (i*3+3) _ b g (i*3) _ G 137 cur.toList _ Vw GB (by rw [s];show _=min _ _*3;rw [Nat.min_eq_right (by omega)]) (λj u l=>?_) m (by rw [s,h];omega) (λu hu=>P u (U0 hu));refine m.cell ?_;rw [Wd] at l;have ke:i*3+j<L.length*3:=by obtain ⟨q,_⟩:=Va.1 l;rwa [bY] at q
  rw [<- A,VO ke] at l;exact l
 have f:=m.set (i*3+3) ((bU L).drop (i*3)) (by rw [s,h];omega);have J:an (w.setCells g (i*3+3) ((bU L).drop (i*3))) vb 137 (jw x):=r.keep (aU g _ _ _ _ T);obtain ⟨c1,C⟩:=nM (cur.toList.take (i*3+3)++(bU L).drop (i*3)++cur.toList.drop (i*3+3+((bU L).drop (i*3)).length));have N:=L3 cur.toList (bU L) (jw x) (i*3) 3 (L.length*3) A (bY L) rfl (by omega) (by rw [h];omega);rw [C] at f N;obtain ⟨t,v⟩:=N;have p:c1.length=cap*3:=by
  rw [<- C];simp only [T8,Um,Un,bY,h];omega
 have M:∀ (W:ZS),W.heap=(w.setCells g (i*3+3) ((bU L).drop (i*3))).heap->∀ c d l1 b,d=i*3->l1=n+1-i->(Builtin.copy_ #[133,132] c #[Z5 (ZV ⟨g,d,ZW⟩) l1 b,Z5 (ZV ⟨vb,0,ZW⟩) 1 1]).run ZL W=.ok (goInt (YI 1 l1)) (W.setCells g (i*3) (jw x)):=by
  rintro W O c d l1 b rfl rfl;have k6:an W g 137 c1:=by unfold an;rw [O];exact f
  have hm:an W vb 137 (jw x):=by unfold an;rw [O];exact J
  refine ea W _ _ c 137 3 g (i*3) _ b vb 0 1 1 137 c1 _ Vw GB (by show _=min _ _*3;rw [Wl (by omega)];rfl) (λj u l=>?_) k6 (by rw [p,kf];omega) V;rw [Ui];exact hm.cell l
 have H:=aE f t v;have k9:=ak m.lt;have p:=ak p;have hr:=ak h;have I:=al K M;have X:=ak U;rw [Q] at Z Y hl ⊢;have kp:IntKind.i64.wrap ((i:Int)+1)=(i:Int)+1:=by rw [UB];omega
 have kr:¬ (cap:Int)<(n:Int)+1:=by omega
 have km:i<=n:=by omega
 have kh:¬ (cap=i+1):=by omega
 have kj:¬ (cap=i):=by omega
 have ko:((i:Int)+1).toNat=i+1:=by omega
 have kg:(0:Int)<=(i:Int)+1:=by omega
 have ki:(i:Int)<=(n:Int)+1:=by omega
 clear m r s U K M f J C t v h D A P V E B;go_enter func140,ntmps140;go_wp2_with (simp only [X.o]);go_region_law (refine oV rfl _ _ 133 133 rfl _ _ (by simp [Act.eval,Act.put]) (by simp [Act.eval,Act.put]) (I.o.1 _ ((i+1)*3) (n-i) (cap-(i+1)) (i*3) (n+1-i) (cap-i) (by omega) (by omega) (by omega) (by omega)) ?_)
 have k8:∀ c b,(Builtin.copy_ #[133,132] c #[Z5 (ZV ⟨g,i*3,ZW⟩) (n+1-i) b,Z5 (ZV ⟨vb,0,ZW⟩) 1 1]).run ZL (w.drew.setCells g (i*3+3) ((bU L).drop (i*3)))=.ok (goInt (YI 1 (n+1-i))) ((w.drew.setCells g (i*3+3) ((bU L).drop (i*3))).setCells g (i*3) (jw x)):=λc b=>I.o.2 _ (kU _ _ _ _) c (i*3) (n+1-i) b rfl rfl;go_wp2;go_ret;obtain ⟨f,t,v⟩:=H.o;have k7:an (w.drew.setCells g (i*3+3) ((bU L).drop (i*3))) g 137 c1:=by unfold an;rw [kU];exact f
 have kk:g<w.heap.size:=k9.out;have R:ZQ base w (w.drew.setCells g (i*3+3) ((bU L).drop (i*3))):=(TW base w).drew.grown (cC _ _ _ _) (by show base<=w.heap.size;omega) (λk e=>by cases e;exact S);refine ⟨rfl,R.grown (cC _ _ _ _) (TU (by omega) R.size) (λk e=>by cases e;exact S),_,k7.set (i*3) (jw x) (by have h1:c1.length=cap*3:=p.out;have h2:(jw x).length=3:=rfl;omega),?_,?_⟩
 . rw [v];exact hr.out
 . rw [show (n+1)*3=L.length*3+3 by omega,t,GA]
theorem CQ {vb:Nat} {cur:Array ZR} {L:List (Ob×ZR)} {x:Ob×ZR} (Z:w.heap[g]?=ZV (Z4 cur 137 (0,0))) (ko:base<=w.heap.size) (kp:cur.size=cap*3) (P:cur.toList.take (L.length*3)=bU L) (hs:∀ u∈bU L,u.oneCell'=ZU) (kh:∀ u∈jw x,u.oneCell'=ZU)
 (hi:i<L.length) (kx:L.length<=cap) (hv:cap<L.length+1) (hl:L.length<=10000) (hx:w.heap[vb]?=ZV (Z4 (jw x).toArray 137 (0,0))) :
 ZP ZL 140 #[Z5 (ZV ⟨g,0,ZW⟩) L.length cap,Z7 Z9 i,Z5 (ZV ⟨vb,0,ZW⟩) 1 1] w λe w'=>∃ cap',e=Z3 (Z5 (ZV ⟨w.heap.size,0,ZW⟩) (L.length+1) cap')/\ZQ base w w'/\L.length+1<=cap'/\cap'<=9223372036854775807/\∃ c,an w' w.heap.size 137 c/\c.length=cap'*3/\c.take ((L.length+1)*3)=bU (L.take i++x::L.drop i):=by
 obtain ⟨io,kf,hq,hr,R⟩:=Us Tryz.RX;obtain ⟨n,I⟩:=nM (L.length);have v:an w g 137 cur.toList:=by unfold an;exact Z
 have S:an w vb 137 (jw x):=hx;have z:((bU L).drop (i*3)).length=(n-i)*3:=by rw [Um,bY,I];omega
 have p:((bU L).take (i*3)).length=i*3:=by rw [Un,bY,I];omega
 have A:(jw x).length=3:=rfl;have X:∀ j u,(bU L)[j]?=ZV u->w.cell? ⟨g,j,ZW⟩=ZV u:=λj u b=>by
  refine v.cell ?_;have U:j<L.length*3:=by obtain ⟨q,_⟩:=Va.1 b;rwa [bY] at q
  rw [<- P,VO U] at b;exact b
 have hold:(Builtin.firstCells io.size i (Z5 (ZV ⟨g,0,ZW⟩) i cap)).run ZL w.drew=.ok ((bU L).take (i*3)).toArray w.drew:=by
  rw [hr];exact run_firstCells_some w.drew 3 i ⟨g,0,ZW⟩ i cap _ p (λj u b=>by
   rw [Vr,Ui];rw [X6] at b;split at b
   . exact X j u b
   . cases b)
 have ke:i+(n+1-i)=n+1:=by omega
 have kg:(n:Int)+1-(i:Int)=((n+1-i:Nat):Int):=by omega
 have r:=λf=>Lib.run_append_grow_zeros w 133 3 f 137 io _ .i64 .i64 Vw WE kf hq (ZV ⟨g,0,ZW⟩) i cap _ hold (n+1-i) (by omega) (by omega) (by omega) (by omega) (by rw [R];omega) (by rw [R,ke];exact abr (by omega) (by omega));rw [ke] at r;obtain ⟨C,G⟩:=nM (grownCap w (n+1) cap 137);have kk:n+1<=C:=by rw [<- G];exact abo w _ _ _
 have km:C<=9223372036854775807:=by
  have:=abp w (n+1) cap 137 (by unfold maxLen;omega);rw [G] at this;unfold maxLen at this;omega
 rw [G] at r;obtain ⟨a,D⟩:∃ a:Array ZR,((bU L).take (i*3)).toArray++Builtin.zeroCells (Value.agg #[ZZ YH,Z7 Z9 0,Z5 ZW 0 0]).cells (n+1-i)++Builtin.zeroCells (Value.agg #[ZZ YH,Z7 Z9 0,Z5 ZW 0 0]).cells (C-(n+1))=a:=⟨_,rfl⟩;rw [D] at r;have kj:(Value.agg #[ZZ YH,Z7 Z9 0,Z5 ZW 0 0]).cells.size=3:=by rfl
 have J:a.toList.length=C*3:=by
  rw [<- D];simp only [Ww,Array.size_append,size_zeroCells,UH,kj,p];omega
 have kb:a.toList.take (i*3)=(bU L).take (i*3):=by
  rw [<- D,YX,YX,Uz,VV (by simp [p])];rw [UI (by simp [p])]
 obtain ⟨h,M⟩:=nM (w.drew.alloc (Z4 a 137));rw [M] at r;have T:an h w.heap.size 137 a.toList:=by rw [<- M];exact abq w.drew _
 have s:bW w h:=by rw [<- M];exact (TW _ w).drew.alloc lR _
 have ki:an h vb 137 (jw x):=S.keep (s.block _ S.lt);have kc:an h g 137 cur.toList:=v.keep (s.block _ v.lt);have t:∀ f m,(Builtin.copy_ #[133,132] f #[Z5 (ZV ⟨w.heap.size,i*3,ZW⟩) (n+1-i) m,Z5 (ZV ⟨vb,0,ZW⟩) 1 1]).run ZL h=.ok (goInt (YI 1 (n+1-i))) (h.setCells w.heap.size (i*3) (jw x)):=λf m=>by
  refine ea h _ _ f 137 3 w.heap.size (i*3) _ m vb 0 1 1 137 a.toList _ Vw GB (by show _=min _ _*3;rw [Wl (by omega)];rfl) (λj u b=>?_) T (by rw [J,A];omega) kh;rw [Ui];exact ki.cell b
 have y:=T.set (i*3) (jw x) (by rw [J,A];omega);obtain ⟨d,N⟩:=nM (h.setCells w.heap.size (i*3) (jw x));have kv:g<w.heap.size:=v.lt;have hp:an d g 137 cur.toList:=by rw [<- N];exact kc.keep (aU _ _ _ _ _ (by omega))
 have Q:bW w d:=by rw [<- N];exact s.grown (cC _ _ _ _) s.size (λk e=>by cases e;exact TV _)
 rw [N] at t y;obtain ⟨l,O⟩:=nM (a.toList.take (i*3)++jw x++a.toList.drop (i*3+(jw x).length));have F:l.length=C*3:=by rw [<- O];simp only [T8,Um,Un,J,A];omega
 have Y:l.take (i*3+3)=(bU L).take (i*3)++jw x:=by
  rw [<- O,kb];have:((bU L).take (i*3)++jw x).length=i*3+3:=by rw [T8,p,A]
  rw [<- this,Yf]
 rw [O] at y;have hh:∀ f m V,(Builtin.copy_ #[133,133] f #[Z5 (ZV ⟨w.heap.size,(i+1)*3,ZW⟩) (n-i) m,Z5 (ZV ⟨g,i*3,ZW⟩) (n-i) V]).run ZL d.drew=.ok (goInt (YI (n-i) (n-i))) (d.drew.setCells w.heap.size ((i+1)*3) ((bU L).drop (i*3))):=λf m V=>by
  refine ea d.drew _ _ f 137 3 w.heap.size ((i+1)*3) _ m g (i*3) _ V 137 l _ Vw GB (by rw [z];show _=min _ _*3;rw [YQ]) (λj u b=>?_) y (by rw [z,F];omega) (λu hu=>hs u (U0 hu));have h2:d.cell? ⟨g,i*3+j,ZW⟩=ZV u:=by
   refine hp.cell ?_;rw [Wd] at b;have U:i*3+j<L.length*3:=(by obtain ⟨q,_⟩:=Va.1 b;rwa [bY] at q);rw [<- P,VO U] at b;exact b
  exact h2
 have K:an (d.drew.setCells w.heap.size ((i+1)*3) ((bU L).drop (i*3))) w.heap.size 137 _:=an.set (w:=d.drew) y ((i+1)*3) ((bU L).drop (i*3)) (by rw [z,F];omega);have E:bW w (d.drew.setCells w.heap.size ((i+1)*3) ((bU L).drop (i*3))):=Q.drew.grown (cC _ _ _ _) Q.size (λk e=>by cases e;exact TV _);have hm:(l.take ((i+1)*3)++(bU L).drop (i*3)++l.drop ((i+1)*3+((bU L).drop (i*3)).length)).length=C*3/\(l.take ((i+1)*3)++(bU L).drop (i*3)++l.drop ((i+1)*3+((bU L).drop (i*3)).length)).take ((n+1)*3)=bU (L.take i++x::L.drop i):=by
  constructor
  . simp only [T8,Um,Un,bY,F,I];omega
  . rw [show (i+1)*3=i*3+3 by omega,Y];have:((bU L).take (i*3)++jw x++(bU L).drop (i*3)).length=(n+1)*3:=by rw [T8,T8,p,A,z];omega
    rw [<- this,Yf,Uz,GA]
 have H:=aE K E hm;have B:=aE r t hh;have W:=al kk km;rw [I] at hi hv hl kx ⊢;have q5:IntKind.i64.wrap ((i:Int)+1)=(i:Int)+1:=by rw [UB];omega
 have q6:(cap:Int)<(n:Int)+1:=by omega
 have q3:i<=n:=by omega
 have kz:¬ (C=i+1):=by omega
 have q1:¬ (cap=i):=by omega
 have q2:¬ (C=i):=by omega
 have q4:((i:Int)+1).toNat=i+1:=by omega
 have ky:(0:Int)<=(i:Int)+1:=by omega
 have q0:(i:Int)<=(n:Int)+1:=by omega
 clear v S z p X hold r D J kb M T s ki kc t y N hp Q O F Y hh K E hm G kj kp P hs kh hx Z kv kf hq hr R;rw [<- kg] at B;go_enter func140,ntmps140;clear kg;have t:=B.o.2.1;go_wp2_with (at_builtin;refine Lib.wpList_append_run _ rfl _ _ _ _ rfl _ _ rfl rfl _ _ (B.o.1 _) ?_);clear t;go_region_law (refine oV rfl _ _ 133 133 rfl _ _ (by simp [Act.eval,Act.put]) (by simp [Act.eval,Act.put]) (B.o.2.2 _ (C-(i+1)) (cap-i)) ?_)
 go_wp2;go_ret;obtain ⟨K,E,kr,ks⟩:=H.o;exact ⟨C,rfl,E.mono ko,W.o.1,W.o.2,_,K,kr,ks⟩
def Oo {vb:Nat} {x:Ob×ZR} (d:w.heap[vb]?=ZV (Z4 (jw x).toArray 137 (0,0))) (b:∀ u∈jw x,u.oneCell'=ZU):Src ZL 3 132 (Z5 (ZV ⟨vb,0,ZW⟩) 1 1) 1 (jw x) w:=by
 have a:an w vb 137 (jw x):=d;exact Vn w underlying132 ⟨vb,0,ZW⟩ 1 1 (jw x) rfl (λj u c=>by rw [Vr,Ui];exact a.cell c) b
theorem Fb {vb:Nat} {L:List (Ob×ZR)} {x:Ob×ZR} (ho:w.ownsRow base 137 3 u L.length (bU L)) (d:base<=w.heap.size) (l:∀ u∈jw x,u.oneCell'=ZU) (hl:L.length<=10000) (m:w.heap[vb]?=ZV (Z4 (jw x).toArray 137 (0,0))) :
 ZP ZL 140 #[u,Z7 Z9 (L.length:Nat),Z5 (ZV ⟨vb,0,ZW⟩) 1 1] w λe w'=>∃ u',e=Z3 u'/\w'.ownsRow base 137 3 u' (L.length+1) (bU (L++[x]))/\ZQ base w w':=by
 obtain ⟨z,v,q,r,s⟩:=Us Tryz.RX;have i:=Oo m l;have h:∀ k,u.ownBlock=ZV k->base<=k:=λk e=>by
  rcases ho.2 with ⟨rfl,_⟩|⟨g,cap,cur,rfl,t,_⟩
  . cases e
  . cases e;exact t
 have H:=aE ho i h;obtain ⟨n,y⟩:=nM (L.length);have j:bU (L++[x])=bU L++jw x:=by rw [iO];congr 1
 rw [j];rcases ho.2 with ⟨rfl,p⟩|⟨g,cap,cur,rfl,t,B,C,F,G,A⟩
 . rw [y] at p hl H ⊢;subst p;clear ho i h m l j;go_enter func140,ntmps140;go_wp2_with (at_builtin;refine ae _ rfl (Z0 23) (Z0 24) 133 132 rfl base 137 z _ 3 48 Vw v q r s rfl _ 0 (bU L) (by rfl) (by exact H.o.1) _ (by rfl) 1 (jw x) (by exact H.o.2.1) (by unfold maxLen;omega) (by omega) d ?_;intro D E c b f;have a:=al c b;clear c b f);go_ret;exact ⟨_,rfl,a.o.1,(TW base w).grown a.o.2 d H.o.2.2⟩
 . rw [y] at hl H C ⊢;clear ho i h m l j A B;go_enter func140,ntmps140;go_wp2_with (at_builtin;refine ae _ rfl (Z0 23) (Z0 24) 133 132 rfl base 137 z _ 3 48 Vw v q r s rfl _ n (bU L) (by rfl) (by exact H.o.1) _ (by rfl) 1 (jw x) (by exact H.o.2.1) (by unfold maxLen;omega) (by omega) d ?_;intro D E c b f;have a:=al c b;clear c b f);all_goals (go_ret;exact ⟨_,rfl,a.o.1,(TW base w).grown a.o.2 d H.o.2.2⟩)
def Ak {L:List (Ob×ZR)} (h:an w g 137 cur) (a:base<=g) (c:n=L.length) (b:n<=cap) (e:cap<=9223372036854775807) (hl:cur.length=cap*3) (d:cur.take (n*3)=bU L):w.ownsRow base 137 3 (Z5 (ZV ⟨g,0,ZW⟩) n cap) n (bU L):=
 ⟨by rw [bY,c],.inr ⟨g,cap,cur.toArray,rfl,a,h,b,by unfold maxLen;omega,by simpa using hl,by simpa using d⟩⟩
def Fe {vb:Nat} {L:List (Ob×ZR)} {x:Ob×ZR} (ho:w.ownsRow base 137 3 u L.length (bU L)) (f:base<=w.heap.size) (o:∀ u∈bU L,u.oneCell'=ZU) (j:∀ u∈jw x,u.oneCell'=ZU) (hl:L.length<=10000) (k:w.heap[vb]?=ZV (Z4 (jw x).toArray 137 (0,0))) (C:u.ownBlock≠ZV vb) (z:i<=L.length) :
 ZP ZL 140 #[u,Z7 Z9 (i:Nat),Z5 (ZV ⟨vb,0,ZW⟩) 1 1] w λe w'=>∃ u',e=Z3 u'/\w'.ownsRow base 137 3 u' (L.length+1) (bU (L.take i++x::L.drop i))/\ZQ base w w':=by
 rcases XT z with e|s
 . subst e;rw [VE,List.drop_length];exact Fb ho f j hl k
 . have n:L.length+1=(L.take i++x::L.drop i).length:=(by simp;omega);rcases ho.2 with ⟨rfl,D⟩|⟨g,cap,cur,rfl,p,q,B,A,r,m⟩
   . omega
   . have y:cap<=9223372036854775807:=(by unfold maxLen at A;omega);by_cases l:L.length+1<=cap
     . refine (CP q p r m o j s l hl k (λe=>C (by rw [e];rfl))).mono ?_;rintro e w' ⟨rfl,h,a,b,c,d⟩;exact ⟨_,rfl,Ak b p n l y c d,h⟩
     . refine (CQ q f r m o j s B (by omega) hl k).mono ?_;rintro e w' ⟨cap',rfl,h,t,v,a,b,c,d⟩;exact ⟨_,rfl,Ak b f n t v c d,h⟩
def Al {xs:List ZR} (ho:w.ownsRow base 137 3 u n xs) (c:g<base):u.ownBlock≠ZV g:=λe=>by
 rcases ho.2 with ⟨rfl,_⟩|⟨g',cap,cur,rfl,b,_⟩
 . cases e
 . have:g'=g:=(by simpa [Value.ownBlock] using e);omega
def Am {xs:List ZR} (ho:w.ownsRow base 137 3 u n xs) (c:w.heap.size<=g):u.ownBlock≠ZV g:=λe=>by
 rcases ho.2 with ⟨rfl,_⟩|⟨g',cap,cur,rfl,b,h,_⟩
 . cases e
 . have:g'=g:=(by simpa [Value.ownBlock] using e);have:=(TX.1 h).1;omega
def IW {xs:List ZR} (ho:w.ownsRow base 137 3 u n xs) (o:Obj):(w.alloc o).ownsRow base 137 3 u n xs:=by
 refine ⟨ho.1,?_⟩;rcases ho.2 with h|⟨g,cap,cur,rfl,a,h,hr⟩
 . exact .inl h
 . exact .inr ⟨g,cap,cur,rfl,a,(Wc w o g (TX.1 h).1).trans h,hr⟩
def uJ (K:Nat->Prop) (w:ZS) (os:List Ob) (e:ZO) (w':ZS):Prop:=∃ u,e=Z3 u/\eN K w' u os/\bW w w'
theorem CR {os:List Ob} (P:eN K w v os) (k8:os.length<=9999) (hK:∀ k,w.heap.size<=k->K k) {i:Nat} (hi:i<=os.length) (o:Ob) (a:ZR) (C:bg K w a o.RL) :
 ZP ZL 103 #[v,Z7 Z9 (i:Nat),.agg #[ZZ o.name,Z7 Z9 (o.size:Nat),a]] w (uJ K w (os.take i++o::os.drop i)):=by
 obtain ⟨nm,T⟩:=nM (o.name);obtain ⟨b,V⟩:∃ b:Int,((o.size:Nat):Int)=b:=⟨_,rfl⟩;have X:∀ u∈jw (o,a),u.oneCell'=ZU:=by
  obtain ⟨ao,c,e,_⟩:=C;exact Gu ⟨ao,_,c,e⟩
 have Y:(jw (o,a)).toArray=#[ZZ nm,Z7 Z9 b,a]:=by rw [<- T,<- V];rfl
 have R:∀ W,bW w W->ZP ZL 114 #[v] W λe w'=>∃ u L,e=Z3 u/\L.map (·.1)=os/\Oj K W L/\w'.ownsRow W.heap.size 137 3 u L.length (bU L)/\bW W w':=λW t=>oU (P.keep (eu.RM t)) (by omega);have S:∀ (W m:ZS) (u:ZR) (L:List (Ob×ZR)) (base vb:Nat),bW w W->bW W m->L.map (·.1)=os->Oj K W L->m.ownsRow base 137 3 u L.length (bU L)->w.heap.size<=base->W.heap.size<=base->base<=m.heap.size->m.heap[vb]?=ZV (Z4 #[ZZ nm,Z7 Z9 b,a] 137 (0,0))->u.ownBlock≠ZV vb ->
  ZP ZL 140 #[u,Z7 Z9 (i:Nat),Z5 (ZV ⟨vb,0,ZW⟩) 1 1] m (uJ K w (os.take i++o::os.drop i)):=λW m u L base vb t k0 hL f ho k9 hv k5 hx k6=>by
  have k7:L.length=os.length:=by rw [<- hL,T9]
  refine (Fe ho k5 f.one X (by omega) (by rw [Y];exact hx) k6 (by omega)).mono ?_;rintro e w' ⟨u',rfl,U,hz⟩;have z:bW W w':=k0.trans (hz.mono hv);have M:bW w w':=t.trans (z.mono t.size);have N:L.length+1=(L.take i++(o,a)::L.drop i).length:=by simp;omega
  rw [N] at U;refine ⟨u',rfl,?_,M⟩;have g:=uC (K:=K) (L:=L.take i++(o,a)::L.drop i) U (by rw [<- N];omega) (λk hk=>hK k (by omega)) (λy Z=>by
   rw [Uj,Uw] at Z;rcases Z with h|h|h
   . exact (f y (UY h)).keep (eu.RM z)
   . subst h;exact C.keep (eu.RM M)
   . exact (f y (U0 h)).keep (eu.RM z))
  have e:(L.take i++(o,a)::L.drop i).map (·.1)=os.take i++o::os.drop i:=by rw [Uv,UG,WA,WB,hL]
  rwa [e] at g
 rw [T,V];have D:=ak R;have E:=ak S;clear R S P C X Y hK;go_enter func103,ntmps103;have s:bW w (w.alloc (Z4 #[ZZ nm,Z7 Z9 b,a] 137)).drew:=(bA w _).drew;have Q:bW w ((w.alloc (Z4 #[ZZ nm,Z7 Z9 b,a] 137)).drew.alloc (Z4 #[ZZ nm,Z7 Z9 b,a] 137)):=s.alloc s.size _;have l:=al s Q;have J:=UE w (Z4 #[ZZ nm,Z7 Z9 b,a] 137);have hr:an (w.alloc (Z4 #[ZZ nm,Z7 Z9 b,a] 137)).drew w.heap.size 137 [ZZ nm,Z7 Z9 b,a]:=J;have F:=hr.cell (j:=0) (u:=ZZ nm) rfl;have G:=hr.cell (j:=1) (u:=Z7 Z9 b) rfl;have H:=hr.cell (j:=2) (u:=a) rfl;have I:=hr.lt;have O:(w.alloc (Z4 #[ZZ nm,Z7 Z9 b,a] 137)).drew.heap.size=w.heap.size+1:=by show (w.alloc _).heap.size=_;exact Uh _ _
 have B:((w.alloc (Z4 #[ZZ nm,Z7 Z9 b,a] 137)).drew.alloc (Z4 #[ZZ nm,Z7 Z9 b,a] 137)).heap[w.heap.size+1]?=ZV (Z4 #[ZZ nm,Z7 Z9 b,a] 137):=by rw [<- O];exact UE _ _
 have A:=al B (show w.heap.size+1<((w.alloc (Z4 #[ZZ nm,Z7 Z9 b,a] 137)).drew.alloc (Z4 #[ZZ nm,Z7 Z9 b,a] 137)).heap.size from (TX.1 B).1);have r:=a5 I F G H;clear s Q I F G H J hr B O;go_wp2_with fail;go_region_with (first
  | (go_at_call 114;first
   | (refine (D.o (w.alloc (Z4 #[ZZ nm,Z7 Z9 b,a] 137)).drew l.o.1).mono ?_;rintro e w1 ⟨u,L,rfl,hL,f,ho,n⟩;have b0:=λj=>n.cell (p:=⟨w.heap.size,j,ZW⟩) (r.out.1);have c0:w1.cell? ⟨w.heap.size,0,ZW⟩=ZV (ZZ nm):=(b0 0).trans r.out.2.1;have c1:w1.cell? ⟨w.heap.size,1,ZW⟩=ZV (Z7 Z9 b):=(b0 1).trans r.out.2.2.1;have c2:w1.cell? ⟨w.heap.size,2,ZW⟩=ZV a:=(b0 2).trans r.out.2.2.2;clear b0;have d:=a5 hL f ho n;clear hL f ho n)
   | (refine (D.o ((w.alloc (Z4 #[ZZ nm,Z7 Z9 b,a] 137)).drew.alloc (Z4 #[ZZ nm,Z7 Z9 b,a] 137)) l.o.2).mono ?_;rintro e w1 ⟨u,L,rfl,hL,f,ho,n⟩;have d:=a5 hL f ho n;clear hL f ho n))
  | (go_at_call 140;first
   | (refine (E.o (w.alloc (Z4 #[ZZ nm,Z7 Z9 b,a] 137)).drew (w1.alloc (Z4 #[ZZ nm,Z7 Z9 b,a] 137)) u L (w.alloc (Z4 #[ZZ nm,Z7 Z9 b,a] 137)).drew.heap.size w1.heap.size l.o.1 (d.o.2.2.2.alloc d.o.2.2.2.size _) d.o.1 d.o.2.1 (IW d.o.2.2.1 _) l.o.1.size lR (d.o.2.2.2.alloc d.o.2.2.2.size _).size (UE w1 _) (Am d.o.2.2.1 lR)).mono ?_;rintro e w2 ⟨u2,rfl,g,q⟩;have x:=al g q;clear g q)
   | (refine (E.o ((w.alloc (Z4 #[ZZ nm,Z7 Z9 b,a] 137)).drew.alloc (Z4 #[ZZ nm,Z7 Z9 b,a] 137)) w1 u L ((w.alloc (Z4 #[ZZ nm,Z7 Z9 b,a] 137)).drew.alloc (Z4 #[ZZ nm,Z7 Z9 b,a] 137)).heap.size (w.heap.size+1) l.o.2 d.o.2.2.2 d.o.1 d.o.2.1 d.o.2.2.1 l.o.2.size lR d.o.2.2.2.size ((d.o.2.2.2.block _ A.out.2).trans A.out.1) (Al d.o.2.2.1 A.out.2)).mono ?_;rintro e w2 ⟨u2,rfl,g,q⟩;have x:=al g q;clear g q)))
 all_goals (go_wp2;go_ret;exact ⟨_,rfl,x.o.1,x.o.2⟩)
def lZ {K:Act->ZS->Prop} (f:o.guard=ZW) (d x:ZM) (b c:ZN) (e:o.op=Op.call { callee:=Callee.builtin Builtin.append,args:=#[d,x],argTypes:=#[b,c] })
 (v u:ZR) (hd:a.eval d=v) (hx:a.eval x=u) {v':ZR} {w':ZS} (hr:(Builtin.append_ #[b,c] o.type #[v,u]).run ZL w=.ok v' w') (hK:K (a.put o.dst v') w'):if Region.wanted o (yielded ops a.tmps)=ZU then Oper.wp ZL o a w K Q else E:=by
 rw [TT (by simp [Region.wanted,f])];unfold Oper.wp;simp [execOp,e,resolve,invoke,builtin,hd,hx,hr,Result.andThen];exact hK
theorem L4 (cur:List ZR) (L:List (Ob×ZR)) (i N:Nat) (c:L.length=N+1) (j:i<=N) (e:cur.take (L.length*3)=bU L) (hl:(N+1)*3<=cur.length) (a:List ZR) (h:a.length=3) :
 ((cur.take (i*3)++(bU L).drop ((i+1)*3)++cur.drop (i*3+((bU L).drop ((i+1)*3)).length)).take (N*3)++a++(cur.take (i*3)++(bU L).drop ((i+1)*3)++cur.drop (i*3+((bU L).drop ((i+1)*3)).length)).drop (N*3+a.length)).take (N*3)=bU (L.take i++L.drop (i+1)) /\
 ((cur.take (i*3)++(bU L).drop ((i+1)*3)++cur.drop (i*3+((bU L).drop ((i+1)*3)).length)).take (N*3)++a++(cur.take (i*3)++(bU L).drop ((i+1)*3)++cur.drop (i*3+((bU L).drop ((i+1)*3)).length)).drop (N*3+a.length)).length=cur.length:=by
 have g:((bU L).drop ((i+1)*3)).length=(N-i)*3:=by rw [Um,bY,c];omega
 have d:cur.take (i*3)=bU (L.take i):=by
  rw [<- CG,<- e,YK,Wl (by omega)]
 have f:(cur.take (i*3)++(bU L).drop ((i+1)*3)).length=N*3:=by rw [T8,Un,g];omega
 have b:(cur.take (i*3)++(bU L).drop ((i+1)*3)++cur.drop (i*3+((bU L).drop ((i+1)*3)).length)).take (N*3)=cur.take (i*3)++(bU L).drop ((i+1)*3):=by
  conv=>lhs;rw [<- f]
  exact Yf
 constructor
 . rw [b,Uz,VV (by omega),UI (by omega),d,uB,iO]
 . rw [b];simp only [T8,Um,Un,bY,h,c];omega
theorem Ff {cur:Array ZR} {L:List (Ob×ZR)} (U:w.heap[g]?=ZV (Z4 cur 137 (0,0))) (Y:base<=g) (Z:cur.size=cap*3) (D:cur.toList.take (L.length*3)=bU L) (S:∀ u∈bU L,u.oneCell'=ZU) (G:L.length=N+1) (V:i<=N) (k0:L.length<=cap) (kb:cap<=9223372036854775807) (hl:L.length<=10000) :
 ZP ZL 113 #[Z5 (ZV ⟨g,0,ZW⟩) L.length cap,Z7 Z9 (i:Nat),Z7 Z9 ((i:Int)+1)] w λe w'=>e=Z3 (Z5 (ZV ⟨g,0,ZW⟩) N cap)/\ZQ base w w'/\∃ a,an w' g 137 a/\a.length=cap*3/\a.take (N*3)=bU (L.take i++L.drop (i+1)):=by
 obtain ⟨io,M,R,v,hr⟩:=Us Tryz.RX;have l:an w g 137 cur.toList:=by unfold an;exact U
 have n:cur.toList.length=cap*3:=by simpa using Z
 have t:((bU L).drop ((i+1)*3)).length=(N-i)*3:=by rw [Um,bY,G];omega
 have Q:∀ u∈(bU L).drop ((i+1)*3),u.oneCell'=ZU:=λu B=>S u (U0 B);have O:∀ j u,(bU L)[j]?=ZV u->w.drew.cell? ⟨g,j,ZW⟩=ZV u:=λj u b=>by
  have h2:w.cell? ⟨g,j,ZW⟩=ZV u:=by
   refine l.cell ?_;have ka:j<L.length*3:=(by obtain ⟨q,_⟩:=Va.1 b;rwa [bY] at q);rw [<- D,VO ka] at b;exact b
  exact h2
 have T:∀ d,Src ZL 3 133 (Z5 (ZV ⟨g,if cap=i+1 then 0 else (i+1)*3,ZW⟩) (N-i) d) (N-i) ((bU L).drop ((i+1)*3)) w.drew:=λd=>by
  refine Vn w.drew Vw _ (N-i) d _ t (λj u b=>?_) Q;rw [Vr];split
  . rename_i x
    have:N-i=0:=by omega
    rw [this] at t;have:=UX (by omega:((bU L).drop ((i+1)*3)).length=0);rw [this] at b;simp at b
  . rw [Wd] at b;exact O _ _ b
 have E:∀ m d,(Builtin.append_ #[133,133] m #[Z5 (ZV ⟨g,0,ZW⟩) i cap,Z5 (ZV ⟨g,if cap=i+1 then 0 else (i+1)*3,ZW⟩) (N-i) d]).run ZL w.drew=.ok (Z5 (ZV ⟨g,0,ZW⟩) N cap) (w.drew.setCells g (i*3) ((bU L).drop ((i+1)*3))):=λm d=>by
  have hs:Src ZL io.size 133 (Z5 (ZV ⟨g,if cap=i+1 then 0 else (i+1)*3,ZW⟩) (N-i) d) (N-i) ((bU L).drop ((i+1)*3)) w.drew:=by rw [v];exact T d
  have h:=run_append_room_src (P:=ZL) (w:=w.drew) 133 133 m 137 io Vw M g 0 i cap _ (N-i) _ hs (by omega) (λj b=>by
   rw [v];have:=l.cell (Ua (by rw [n];rw [t] at b;omega:0+i*3+j<cur.toList.length));show (w.cell? _).isSome=ZU;rw [this];rfl) (λj b=>l.R3 _)
  rw [v,Ui,show i+(N-i)=N by omega] at h;exact h
 have s:an (w.drew.setCells g (i*3) ((bU L).drop ((i+1)*3))) g 137 _:=an.set (w:=w.drew) l (i*3) ((bU L).drop ((i+1)*3)) (by rw [t,n];omega);obtain ⟨r,I⟩:=nM (w.drew.setCells g (i*3) ((bU L).drop ((i+1)*3)));have J:ZQ base w r:=by rw [<- I];exact (TW base w).drew.grown (cC _ _ _ _) (by show base<=w.heap.size;have:=l.lt;omega) (λk e=>by cases e;exact Y)
 rw [I] at E s;obtain ⟨c1,K⟩:=nM (cur.toList.take (i*3)++(bU L).drop ((i+1)*3)++cur.toList.drop (i*3+((bU L).drop ((i+1)*3)).length));obtain ⟨f,A,y,k8⟩:∃ f,(Builtin.zeroCells (Value.agg #[ZZ YH,Z7 Z9 0,Z5 ZW 0 0]).cells 1).toList=f/\f.length=3/\∀ u∈f,u.oneCell'=ZU:=by
  refine ⟨[ZZ YH,Z7 Z9 0,Z5 ZW 0 0],by kernel_rfl,rfl,?_⟩;intro u B;simp only [Uw,W5,or_false] at B;rcases B with rfl|rfl|rfl<;>rfl
 have C:=L4 cur.toList L i N G V D (by rw [n];omega) f y;rw [K] at s C;have F:c1.length=cap*3:=by rw [<- K];simp only [T8,Um,Un,bY,n];omega
 have k9:∀ m c,(Builtin.clear_ #[133] m #[Z5 (ZV ⟨g,N*3,ZW⟩) 1 c]).run ZL r=.ok (ZY #[]) (r.setCells g (N*3) f):=λm c=>by
  have h:=uA (P:=ZL) r 133 137 m g (N*3) 1 c 137 c1 Vw (z:=.agg #[ZZ YH,Z7 Z9 0,Z5 ZW 0 0]) (λw=>by simp [zeroValue,typeInfo,M,R]) (by omega) s (by rw [A,y,F];omega) (by rw [A];exact k8);rw [A] at h;exact h
 have W:=s.set (N*3) f (by rw [y,F];omega);have X:ZQ base w (r.setCells g (N*3) f):=J.grown (cC _ _ _ _) (TU (by have:=l.lt;omega) J.size) (λk e=>by cases e;exact Y);have H:=a5 W X C n;have p:=ak E;rw [G] at k0 hl ⊢;have k1:(0:Int)<=(i:Int)+1:=by omega
 have k2:((i:Int)+1).toNat=i+1:=by omega
 have k3:¬ cap=N:=by omega
 have k4:i<=N+1:=by omega
 have k5:(i:Int)<=(N:Int)+1:=by omega
 clear l n t Q O T E s I J K A y k8 C F W X U Z D S M R v hr;by_cases x:cap=i+1
 . rw [TT x] at p;obtain rfl:i=N:=(by omega);subst x;rw [WK] at p;clear k0 V k3;go_enter func113,ntmps113;go_wp2;go_region_law (refine lZ rfl _ _ 133 133 rfl _ _ (by simp [Act.eval,Act.put]) (by simp [Act.eval,Act.put]) (p.o _ 0) ?_)
   go_wp2;go_ret;exact ⟨rfl,H.o.2.1,_,H.o.1,H.o.2.2.1.2.trans H.o.2.2.2,H.o.2.2.1.1⟩
 . rw [TS x] at p;have k6:i<=cap:=(by omega);have k7:(i:Int)<=(cap:Int):=(by omega);go_enter func113,ntmps113;go_wp2;go_region_law (refine lZ rfl _ _ 133 133 rfl _ _ (by simp [Act.eval,Act.put]) (by simp [Act.eval,Act.put]) (p.o _ (cap-(i+1))) ?_)
   go_wp2;go_ret;exact ⟨rfl,H.o.2.1,_,H.o.1,H.o.2.2.1.2.trans H.o.2.2.2,H.o.2.2.1.1⟩
theorem uK {os:List Ob} (n:eN K w v os) (S:os.length<=9999) (hK:∀ k,w.heap.size<=k->K k) {i:Nat} (Q:i<os.length) :
 ZP ZL 81 #[v,Z7 Z9 (i:Nat)] w (uJ K w (os.take i++os.drop (i+1))):=by
 have s:=oU n (by omega);have t:∀ (W:ZS) (u:ZR) (L:List (Ob×ZR)),L.map (·.1)=os->Oj K w L->W.ownsRow w.heap.size 137 3 u L.length (bU L)->bW w W->ZP ZL 113 #[u,Z7 Z9 (i:Nat),Z7 Z9 ((i:Int)+1)] W (uJ K w (os.take i++os.drop (i+1))):=λW u L hL a ho b=>by
  have R:L.length=os.length:=by rw [<- hL,T9]
  rcases ho.2 with ⟨rfl,P⟩|⟨g,cap,cur,rfl,q,H,O,J,M,F⟩
  . omega
  . have m:cap<=9223372036854775807:=(by unfold maxLen at J;omega);obtain ⟨N,G⟩:∃ N,L.length=N+1:=⟨L.length-1,by omega⟩;refine (Ff H q M F a.one G (by omega) O m (by omega)).mono ?_;rintro e w' ⟨rfl,I,j,C,D,E⟩;have c:bW w w':=b.trans I;have d:N=(L.take i++L.drop (i+1)).length:=(by simp;omega);refine ⟨_,rfl,?_,c⟩;have x:=Ak C q d (by omega) m D E;have B:(L.take i++L.drop (i+1)).map (·.1)=os.take i++os.drop (i+1):=(by rw [Uv,WA,WB,hL]);rw [<- B,d];rw [d] at x;refine uC x (by omega) hK (λy z=>?_);rw [Uj] at z;rcases z with h|h
    . exact (a y (UY h)).keep (eu.RM c)
    . exact (a y (U0 h)).keep (eu.RM c)
 have A:=ak t;clear t n hK;go_enter func81,ntmps81;go_wp2_with fail;refine s.mono ?_;rintro e w1 ⟨u,L,rfl,hL,a,ho,b⟩;have r:=A.o w1 u L hL a ho b;clear s hL a ho b;go_wp2_with fail;refine r.mono ?_;rintro e w2 ⟨u2,rfl,l,p⟩;have f:=al l p;clear l p r;go_wp2;go_ret;exact ⟨_,rfl,f.o.1,f.o.2⟩
theorem m6 (n m:Nat) (h:n<=1000000) (f:1<=m/\m<=1000000) (w:ZS):ZP ZL 98 #[Z7 Z9 n,Z7 Z9 m] w λe w'=>e=Z3 (Z7 Z9 ((max 1 ((n+m-1)/m):Nat):Int))/\w'=w:=by
 have a:=tK n m (by omega) f w;obtain ⟨q,b⟩:=nM ((n+m-1)/m);rw [b] at a;rw [b];have g:∀ (d:ZN) (w:ZS),(Builtin.max_ #[3,3] d #[Z7 Z9 1,Z7 Z9 (q:Int)]).run ZL w=.ok (Z7 Z9 ((max 1 q:Nat):Int)) w:=λd w=>by
  rw [lA];congr 2;split<;>omega
 clear b;go_enter func98,ntmps98;go_wp2_with fail;refine a.mono ?_;rintro e w' ⟨rfl,c⟩;obtain rfl:w=w':=c.symm;clear a c;go_wp2;go_ret;exact ⟨rfl,rfl⟩
section
section
variable {P:List St} {A B:List a8} (h:∀ k,k<P.length->(bI P k).k=0->A.getD (bI P k).b.toNat []=B.getD (bI P k).b.toNat [])
include h
def An:∀ k,k<=P.length->fl P A k=fl P B k
 | 0,_=>rfl
 | k+1,hk=>by
  have ih:=An k (by omega);unfold fl;rw [ih];cases fl P B k with
  | some n=>rfl
  | none=>
   show (if (bI P k).k=0 then _ else _)=if (bI P k).k=0 then _ else _;by_cases a:(bI P k).k=0
   . rw [TT a,TT a,h k (by omega) a]
   . rw [TS a,TS a]
def uL (R0:List a8):∀ k,k<=P.length->bT P A R0 k=bT P B R0 k
 | 0,_=>rfl
 | k+1,hk=>by
  unfold bT;rw [uL R0 k (by omega)];unfold dM;by_cases a:(bI P k).k=0
  . rw [TT a,TT a,h k (by omega) a]
  . rw [TS a,TS a]
def uM (R0:List a8):∀ k,k<=P.length->dB P A R0 k=dB P B R0 k
 | 0,_=>rfl
 | k+1,hk=>by
  unfold dB;rw [uM R0 k (by omega),uL h R0 k (by omega)]
def CS:eE P A=eE P B:=by unfold eE;rw [An h _ lR]
def L5 {y:Nat} (f:gC P B y) (g:∀ k,k<P.length->(bI P k).k=0->¬ oC x (bI P k).b.toNat):gC P A x:=λk c a=>by
 obtain ⟨_,d,e⟩:=f k c a;rw [<- An h (k+1) (by omega),<- h k c a] at d;rw [<- h k c a] at e;exact ⟨g k c a,d,e⟩
end
def Oq {s:Nat} {dl Dl:List a8} (v:1<=D) (hD:D<=12) (hG:G<=4) (q:D%L=0) (f:D+L+G<=16) (j:tells (jL D L G) (ab (aq (D+L+G) s))=ZV C) (z:d<D+L+G) (H:s.testBit d=ZU) (r:dl.length=D) (I:∀ l∈dl,∀ x∈l,x<256)
 (e:∀ i,(zH (bX D L G s C)).testBit i=ZU->Dl.getD i []=(fm (aR D L G) dl 44).getD i []/\x.testBit i=ZT) :
 gC (bX D L G s C) Dl x/\dB (bX D L G s C) Dl (eV (1+(ab (aq (D+L+G) s)).length) (eE (bX D L G s C) Dl)) (bX D L G s C).length=(ab (aq (D+L+G) s)).map (λd:Nat=>((d:Int),(fm (aR D L G) dl 44).getD d [])):=by
 have h:∀ k,k<(bX D L G s C).length->(bI (bX D L G s C) k).k=0->(zH (bX D L G s C)).testBit (bI (bX D L G s C) k).b.toNat=ZU:=λk e a=>by
  rw [dR _ _ e] at a ⊢;exact (oE _ _).2 ⟨_,TY e,a,rfl⟩
 have g:∀ k,k<(bX D L G s C).length->(bI (bX D L G s C) k).k=0->Dl.getD (bI (bX D L G s C) k).b.toNat []=(JR (fm (aR D L G) dl 44) s).getD (bI (bX D L G s C) k).b.toNat []:=λk c a=>by
  rw [(e _ (h k c a)).1];rw [dR _ _ c] at a ⊢;obtain ⟨i,w,F,hl⟩:=jN f (TY c) a;rw [w,VG,z9 _ _ _ (by rw [Ab,cL];exact F),TS (by rw [hl];decide)]
 refine ⟨L5 g (Oe f (by decide)) λk c a E=>?_,?_⟩
 . have:=(e _ (h k c a)).2;rw [oR.1 E] at this;cases this
 . obtain ⟨O,u,A,y⟩:=Of (m:=44) (Dt:=dl) hD hG f j r I;have B:=Og v hD hG q f j z H;rw [uM g _ _ lR,CS g,u];refine Vb (by simp [A]) λk p J=>?_;have t:k<(ab (aq (D+L+G) s)).length:=(by omega);obtain ⟨n,o⟩:=y k p t;rw [UQ,<- n,<- o B]
end
section
attribute [local go_sem] Oper.semAt_some
def L6 (v:ZR) (w:ZS):(Instr.typeAssert (.iface 221 v) 223 221 ZU).run ZL w=.ok (ZY #[v,Z1 ZU]) w:=by
 simp [Instr.typeAssert,UO underlying221]
def IX:(ZL.info? 221).map (·.size)=ZV 44:=by kernel_rfl
def CT (w:ZS) (z:Array ZR) (c:z.size=44) (l:a8) (hl:l.length=44):(Instr.storeAt 221 (Z6 (ZV ⟨w.heap.size,0,ZW⟩)) (.agg (aH l).toArray)).run ZL (w.alloc (Z4 z 221))=.ok () (w.alloc (Z4 (aH l).toArray 221)):=by
 have a:(aH l).toArray.size=44:=by rw [UH,aX,hl]
 have:=run_storeVar_new (P:=ZL) w 221 z (aH l).toArray (by rw [a];exact IX) (by rw [a,c]) (by
  rw [List.all_toArray,Xc];intro u b;obtain ⟨x,_,rfl⟩:=T7.1 b;rfl)
 simp only [Instr.storeAt,Instr.sureAddr,Ux,Vf,UM,this]
def Ao {F:Fence} (d:o.guard=ZW) (x y:ZM) (ho:o.op=.store 221 x y) {z:Array ZR} {l:a8}
 (e:a.eval x=Z6 (ZV ⟨w.heap.size,0,ZW⟩)) (f:a.eval y=.agg (aH l).toArray) (g:z.size=44) (hl:l.length=44) (h:wpListIn F n ZL ops Q rest (a.put o.dst ZX) (w.alloc (Z4 (aH l).toArray 221))):wpListIn F n ZL ops Q (o::rest) a (w.alloc (Z4 z 221)):=by
 refine abu d λK b=>?_;unfold Oper.wpIn;refine ⟨by simp [Oper.about,ho],?_⟩;rw [VF F _ _ (by rw [ho];intro c h;cases h)];simp [execOp,ho,e,f,CT w z g l hl,Result.andThen];exact b _ _ h
def L7 {Z:ZS} {D':Nat} {R:ZO->ZS->Prop} (hr:fn.results=#[]) (b:a.defers=[{ target:=.collected D',args:=#[] }])
 (hK:Z.heap[D']?=ZV (.deferred (ZV []))) (hR:R (Z3 (ZY #[])) (Z.putObj D' (.deferred ZW))):bodyPostM Fence.wide n ZL fn R .normal a Z:=by
 obtain ⟨d,c⟩:=a;simp only at b;subst b;refine ⟨by simp,.inl ⟨_,_,rfl,Wu hK,?_⟩⟩;refine ⟨ZY #[],?_,hR⟩;simp [results,hr]
def Kn (w:ZS) (base:Nat) (f0 f:Nat->ZR) (R:Nat->a8) (ds:a8):Prop:=(∀ i,i∉ds->f i=f0 i)/\∀ i,i∈ds->∃ bl,f i=Z5 (ZV ⟨bl,0,ZW⟩) 44 44/\base<=bl/\bl<w.heap.size/\w.heap[bl]?=ZV (Z4 (aH (R i)).toArray 221 (0,0))
def Kn.keep (h:Kn w base f0 f R ds) (d:w.heap.size<=w'.heap.size) (c:∀ k o,base<=k->w.heap[k]?=ZV o->o.isCells=ZU->w'.heap[k]?=ZV o):Kn w' base f0 f R ds:=by
 refine ⟨h.1,λi b=>?_⟩;obtain ⟨bl,e,a,g,j⟩:=h.2 i b;exact ⟨bl,e,a,TZ g d,c bl _ a j rfl⟩
def Kn.nil (w:ZS) (base:Nat) (f0:Nat->ZR) (R:Nat->a8):Kn w base f0 f0 R []:=⟨λ_ _=>rfl,λ_ h=>by cases h⟩
def DC (S x:Nat):Nat:=S &&& (18446744073709551615-x)
def GC (S x:Nat) (a:S<65536) (b:x<65536):bits .andNot .u64 (S:Int) (x:Int)=(DC S x:Int):=YC S x (by omega) (by omega)
def Fg {S:Nat} (x:Nat) (a:S<65536):DC S x<65536:=Xf WW a
theorem sH {S:Nat} (d:x<65536):i∈ab (DC S x)↔i∈ab S/\x.testBit i=ZT:=by
 rw [cW,cW];unfold DC;have e:(18446744073709551615-x).testBit i=(decide (i<64) && !x.testBit i):=by
  have:=X5 (x:=x) (n:=64) (by omega) i;rwa [show 2^64-(x+1)=18446744073709551615-x by omega] at this
 rw [XG,e];constructor
 . rintro ⟨b,a⟩;simp at a;exact ⟨⟨b,a.1⟩,a.2.2⟩
 . rintro ⟨⟨b,a⟩,c⟩;refine ⟨b,?_⟩;simp [a,c];omega
def wC:Nat->ZR:=λ_=>Z5 ZW 0 0
def AN (ds l:a8):a8:=l.filter λi=>decide (i∉ds)
def QV (h:i∈ds):AN ds (l++[i])=AN ds l:=by unfold AN;rw [Wr];simp [h]
def oW (h:i∉ds):AN ds (l++[i])=AN ds l++[i]:=by unfold AN;rw [Wr];simp [h]
def GD:i∈AN ds l↔i∈l/\i∉ds:=by unfold AN;rw [Vt];simp
def L8:∃ z,∀ w:ZS,(Instr.typeAssert .nilIface 223 221 ZU).run ZL w=.ok (ZY #[z,Z1 ZT]) w:=by
 exact ⟨.agg (YE 44 (Z7 .u8 0)).toArray,λw=>by kernel_rfl⟩
def L9:∃ z,∀ w:ZS,(Instr.typeAssert .nilIface 223 238 ZU).run ZL w=.ok (ZY #[z,Z1 ZT]) w:=by
 exact ⟨.agg #[],λw=>by kernel_rfl⟩
def gnB (A:aF) (b i:Nat):Bool:=A.bad i b
def CU (A:aF) (b:Nat) (ds:a8):a8:=ds.filter λi=>!gnB A b i
def QW {A:aF} (ds:a8) {d:Nat} (h:gnB A b d=ZU):CU A b (ds++[d])=CU A b ds:=by unfold CU;rw [Wr];simp [h]
def GE {A:aF} (ds:a8) {d:Nat} (h:gnB A b d=ZT):CU A b (ds++[d])=CU A b ds++[d]:=by unfold CU;rw [Wr];simp [h]
def mF {A:aF}:d∈CU A b ds↔d∈ds/\gnB A b d=ZT:=by unfold CU;rw [Vt];simp
def Ap (A:aF) (b d:Nat):A.R9 d b=if gnB A b d=ZU then ZW else ZV (A.rc d b):=rfl
def VrK (p:Nat) (A:aF) (F:aQ) (w:ZS) (Y:ZR) (w':ZS):Prop:=
 aA w' p A F/\aa F.S w w'/\(ZP ZL 72 #[Y,.iface 66 (Z7 Z9 11)] w' λe w''=>e=Z3 (Z1 ZT)/\w''=w')
def IY {v:Nat} {A:aF} (g:bt w v p D L G ps ho) (h:aA w p A F) (d b:Nat) (j:d<A.n) (i:b<A.nb) (l:bh w) (k:¬ F.S 2) :
 ZP ZL 132 #[Z6 (ZV ⟨v,0,ZW⟩),Z7 Z9 d,Z7 Z9 b] w λe w'=>∃ Y,e=Z3 (ZY #[gD (A.R9 d b),Y])/\VrK p A F w Y w':=by
 refine (qX g h d b j i l k).mono ?_;rintro e w' ⟨a,c,⟨r,hr,rfl⟩|⟨hr,q,rfl,m,f⟩⟩
 . exact ⟨.nilIface,by rw [hr];rfl,a,c,D0 11 w'⟩
 . exact ⟨Bh q,by rw [hr];rfl,a,c,Bi f 11⟩
structure RI (w:ZS) (r v b g N p D L G ps ho gone sp B0:Nat) (ds:a8) (A:aF) (F:aQ) (M:Nat->a8) (B S:Nat) (pre:List (Mb S)) (X:ZS):Prop where
 b2:Boxed X w.heap.size 151 (Z6 (ZV ⟨r,0,ZW⟩))
 rd:ew X r v b g N (gone|||zC (gnB A b) (AN ds (iF pre))) sp
 vol:bt X v p D L G ps ho
 row:∃ f,X.rowIs g 39 N f/\Kn X B0 wC f M (ds++CU A b (AN ds (iF pre)))
 arr:aA X p A F
 out:aa (λk=>k=g\/k=r\/k=v\/F.S k) w X
 size:B<=X.heap.size
def RI.own {r v:Nat} {A:aF} {S:Nat} (H:w.heap.size+1<=B) (I:g<w.heap.size) (hr:r<w.heap.size) (J:v<w.heap.size) (t:∀ k,F.S k->k<w.heap.size):OwnFrom B (RI w r v b g N p D L G ps ho gone sp B0 ds A F M B S):=by
 rintro pre X Y row ⟨j,l,E,⟨f,m,u⟩,n,q,s⟩ a i;have c:∀ k,k<w.heap.size+1->Y.heap[k]?=X.heap[k]?:=λk c=>a.block k (by omega) (λe=>by have:=(i k e.symm).1;omega);refine ⟨(c _ (by omega)).trans j,l.keep (c _ (by omega)),E.keep (c _ (by omega)),⟨f,m.of_block (c _ (by omega)),u.keep a.size λk o _ ho x=>?_⟩,n.keep λk y=>c k (by have:=t k y;omega),q.later (T:=λk=>w.heap.size<=k) ⟨a.os,a.tape,a.output,a.size,λk z C=>c k (by omega)⟩ (λk z C=>by omega),TU s a.size⟩;refine (a.block k (TX.1 ho).1 (λe=>?_)).trans ho;obtain ⟨_,K,h,d⟩:=i k e.symm;rw [ho] at h;cases h;rw [x] at d;cases d
structure QX (w:ZS) (r v b g N p D L G ps ho gone sp B0:Nat) (ds:a8) (A:aF) (F:aQ) (M:Nat->a8) (nw:a8) (e:ZO) (w':ZS):Prop where
 ret:e=Z3 (ZY #[])
 rd:ew w' r v b g N (gone|||zC (gnB A b) nw) sp
 vol:bt w' v p D L G ps ho
 row:∃ f,w'.rowIs g 39 N f/\Kn w' B0 wC f M (ds++CU A b nw)
 arr:aA w' p A F
 out:aa (λk=>k=g\/k=r\/k=v\/F.S k) w w'
theorem IZ {r v:Nat} {A:aF} (m:pH w v p D L G ps ho A F) (hb:b<A.nb) (hM:∀ i,i<A.n->A.rc i b=.shard (M i)/\(M i).length=44) (hr:ew w r v b g N gone sp) (k8:w.rowIs g 39 N f0) (qp:Kn w B0 wC f0 M ds) (T:Nat) (hT:T<65536) (qn:gone<65536) (xf:sp<65536) (xn:∀ i,i∈ab T->i<N/\i<A.n)
 (y3:v≠r) (yh:3<=r) (yk:3<=v) (qk:¬ F.S g) (kc:¬ F.S r) (qo:r≠g) (x8:v≠g) (ye:3<=g) (qg:B0<=w.heap.size) (yd:g<B0) (yg:r<B0) (yj:v<B0) (kz:∀ k,F.S k->k<B0) :
 ZP ZL 124 #[Z6 (ZV ⟨r,0,ZW⟩),Z7 Z8 T] w (QX w r v b g N p D L G ps ho gone sp B0 ds A F M (AN ds (ab (DC (DC T gone) sp)))):=by
 obtain ⟨S1,kk⟩:=nM (DC T gone);obtain ⟨S,q5⟩:=nM (DC S1 sp);have q8:=GC T gone hT qn;have q9:=GC S1 sp (by rw [<- kk];exact Fg _ hT) xf;have J:S<65536:=by rw [<- q5,<- kk];exact Fg _ (Fg _ hT)
 rw [kk] at q8 ⊢;rw [q5] at q9 ⊢;have xm:∀ i,i∈ab S->i∈ab T:=λi a=>by
  rw [<- q5] at a;have:=((sH xf).1 a).1;rw [<- kk] at this;exact ((sH qn).1 this).1
 clear kk q5;obtain ⟨n,HN⟩:∃ n:Nat,cA (9<=n):=⟨9,TV _⟩;have kh:∀ k,F.S k->k<w.heap.size:=λk c=>TZ (kz k c) qg;have xy:=k8.lt;have y2:=hr.lt;have y5:=m.vol.lt;refine (Vc (n:=n)).1 ?_;refine Wf func124 rfl trivial ?_ rfl;simp only [ntmps124,UH,UD,UW,Nat.reduceAdd,Nat.reduceSub,Vj,Vk,Vl,Vm,Uo,UU];gi_wp2;obtain ⟨w1,kr⟩:=nM (w.alloc (Z4 #[Z6 (ZV ⟨r,0,ZW⟩)] 151));have h2:Boxed w1 w.heap.size 151 (Z6 (ZV ⟨r,0,ZW⟩)):=by rw [<- kr];exact Ut w _ _
 have x0:w1.heap.size=w.heap.size+1:=by rw [<- kr];simp
 have q6:bW w w1:=by rw [<- kr];exact bA w _
 rw [kr];clear kr;have kp:=hr.keep (q6.block _ hr.lt);have c3:=kp.cells.2.2.2.1;have c4:=kp.cells.2.2.2.2;refine dH qW 99 [(0,ZU),(1,ZU),(2,ZU),(3,ZU),(4,ZU),(5,ZU),(6,ZU),(7,ZU),(8,ZU),(9,ZU),(10,ZU),(11,ZT)] (λw'=>w'.cell? ⟨w.heap.size,0,ZW⟩=ZV (Z6 (ZV ⟨r,0,ZW⟩))/\w'.cell? ⟨r,3,ZW⟩=ZV (Z7 Z8 gone)/\w'.cell? ⟨r,4,ZW⟩=ZV (Z7 Z8 sp)) (by kernel_rfl) (by kernel_rfl) ⟨h2.cell,c3,c4⟩ ?_;iterate 11 (refine a9 rfl rfl ?_;apply YG;refine ⟨λw' J=>?_,?_⟩;(obtain ⟨s1,s2,s3⟩:=J;first|(go_simp;done)|(go_simp;exact rfl));simp only [Act.put,Ue,Uc,Uf])
 refine gB qW (dI S w1.drew) rfl rfl nofun (by go_simp) ?_;rintro e Q ⟨rfl,ks⟩;have h9:bW w1 Q:=by rw [ks];exact (TW _ w1).drew.alloc lR _
 have c5:=(kp.keep (h9.block _ kp.lt)).cells.2.2.2;refine ⟨_,rfl,λ_=>⟨WG ((h9.block _ h2.lt).trans h2),c5.1,c5.2⟩,gL ?_⟩;clear q8 q9 c3 c4 c5 h9;have x2:Q.heap.size=w1.heap.size+1:=by rw [ks];simp
 have x6:Q.cell? ⟨w1.heap.size,0,ZW⟩=ZV (Z7 Z8 (S:Int)):=by rw [ks];exact (Ut w1.drew 138 (Z7 Z8 (S:Int))).cell
 have h9:bW w1 Q:=by rw [ks];exact (TW _ w1).drew.alloc lR _
 have U:bW w Q:=q6.trans (h9.mono q6.size);have xc:AN ds (iF ([]:List (Mb S)))=[]:=rfl;have x9:RI w r v b g N p D L G ps ho gone sp B0 ds A F M (w1.heap.size+1) S [] Q:=
  ⟨(h9.block _ h2.lt).trans h2,by rw [xc,show zC (gnB A b) []=0 from rfl,Nat.or_zero];exact hr.keep (U.block _ hr.lt),m.vol.keep (U.block _ m.vol.lt),⟨f0,k8.of_block (U.block _ k8.lt),by rw [xc,show CU A b []=[] from rfl,Wn];exact qp.keep U.size λk o _ ho _=>(U.block k (TX.1 ho).1).trans ho⟩,m.arr.below U lR,aa.RN U _,by omega⟩
 have xi:=ak x6;have qd:=al x9 U;have HZ:=al x0 x2;clear x6 x9 h2 q6 U h9 kp ks x0;rename_i hK
 refine hK _ _ ?_;clear hK;simp only [Act.put,Ue,Uc,Uf];gi_wp2;obtain ⟨x0,y8,x2⟩:w.heap.size+1<=w1.heap.size/\w1.heap.size<=w.heap.size+1/\Q.heap.size=w1.heap.size+1:=by have:=HZ.o;omega
 rw [<- x2] at qd;refine Wg rfl (by have:=HN.o;omega) (gf:=151) (lb:=#[Z6 (ZV ⟨w1.heap.size,0,ZW⟩)]) rfl trivial (Ve func151 (by kernel_rfl) rfl)
  (nr (n-1) w1.heap.size S J Q (by omega) xi.out (by have:=m.room;omega) (m.tab.mono (by exact m.tab.lt) qd.out.2)) (λh k=>qZ h k) (rh (by have:=m.room;omega)) (TW _ _) (λ_=>rfl)
  (RI w r v b g N p D L G ps ho gone sp B0 ds A F M Q.heap.size S) (λ_ _ _=>False) (RI.own (by omega) xy y2 y5 kh) (λ_ _ _ _ _ h _ _=>h.elim) qd.out.1
  (λx=>{ tmps:=#[Z6 (ZV ⟨r,0,ZW⟩),Z7 Z8 (T:Int),Z6 (ZV ⟨w.heap.size,0,ZW⟩),ZX,Z7 Z9 (x.1:Int),ZX,ZX,ZX,ZX,Z7 Z8 (T:Int),Z6 (ZV ⟨r,0,ZW⟩),Z6 (ZV ⟨r,0,ZW⟩),Z6 (ZV ⟨r,3,ZW⟩),Z7 Z8 (gone:Int),Z7 Z8 (S1:Int),Z6 (ZV ⟨r,0,ZW⟩),Z6 (ZV ⟨r,0,ZW⟩),Z6 (ZV ⟨r,4,ZW⟩),Z7 Z8 (sp:Int),Z7 Z8 (S:Int),.func (.func 151) #[] #[Z6 (ZV ⟨w1.heap.size,0,ZW⟩)],Z7 Z9 (x.1:Int),ZX,ZX,ZX,ZX,ZX,ZX,ZX,ZX,ZX,ZX,ZX,ZX,ZX,ZX,ZX,ZX,ZX,ZX,ZX,ZX,ZX,ZX,ZX,ZX,ZX,ZX,ZX,ZX,ZX,ZX,ZX,ZX,ZX,ZX,ZX,ZX,ZX,ZX,ZX,ZX,ZX,ZX,ZX,ZX,ZX,ZX,ZX,ZX,ZX,ZX,ZX,ZX,ZX,ZX,ZX,ZX,ZX,ZX,ZX,ZX,ZX,ZX,ZX,ZX,ZX,ZX,ZX,ZX,ZX,ZX,ZX,ZX,ZX,ZX,ZX,ZX,ZX,ZX],defers:=[] }) ?assign ?body ?done ?stop
 case assign=>
  intro l2 x X Kk hK;unfold xG;gi_wp2;exact hK
 case body=>
  rintro l2 pre x X a qq;clear qq;have y6:x.1∈ab S:=cW.2 x.2;obtain ⟨xg,xh⟩:=xn _ (xm _ y6);have qf:=a.b2.lt;have c2:=a.b2.cell;obtain ⟨c0,c1,cs,c3,c4⟩:=a.rd.cells;obtain ⟨f,u,B⟩:=a.row;have cg:=u.cell (i:=x.1) xg;have xd:¬ F.S w.heap.size:=λq=>by have:=kh _ q;omega
  have I:=a.arr;have y0:∀ d∈AN ds (iF pre),d<16:=λd hd=>by replace hd:=(GD.1 hd).1;unfold iF at hd;obtain ⟨y,_,rfl⟩:=T7.1 hd;exact y.2.1
  have xb:=Qg (gnB A b) _ y0;obtain ⟨gn,qm⟩:=nM (zC (gnB A b) (AN ds (iF pre)));have C:=a.rd;have E:=a.vol;rw [qm] at xb C;by_cases hp:x.1∈ds++CU A b (AN ds (iF pre))
  . obtain ⟨bl,xo,xp,xq,xv⟩:=B.2 _ hp;rw [xo] at cg;have Z:=ak a;have HK:=ak B;have HR:=ak u;clear a B u I C E;gi_wp2;rename_i ki
    refine ki _ _ ?_;clear ki;simp only [Act.put,Ue,Uc,Uf,Bool.not_false];gi_wp2;have a:=Z.o;refine ⟨⟨TV _,λk o _ ho _=>ho⟩,λ_=>m.tab.keep (a.out.block _ m.tab.lt (λq=>by rcases q with q|q|q|q;omega;omega;omega;exact m.t q)),?_⟩;by_cases W:x.1∈ds
    . refine ⟨a.b2,?_,a.vol,⟨f,HR.o,?_⟩,a.arr,a.out,a.size⟩<;>rw [fT,QV W]
      . exact a.rd
      . exact HK.o
    . have kb:=(mF.1 ((Uj.1 hp).resolve_left W)).2;refine ⟨a.b2,?_,a.vol,⟨f,HR.o,?_⟩,a.arr,a.out,a.size⟩<;>rw [fT,oW W]
      . rw [KE _ kb];exact a.rd
      . rw [GE _ kb,<- Uz];refine ⟨λi V=>HK.o.1 i (λq=>V (UL _ q)),λi V=>HK.o.2 i ?_⟩;rcases Uj.1 V with q|q
        . exact q
        . rw [Vp.1 q];exact hp
  . have xx:f x.1=Z5 ZW 0 0:=B.1 _ hp;rw [xx] at cg;have W:x.1∉ds:=λq=>hp (UL _ q);have O:bh X:=m.laid.keep (a.out.block _ m.laid.lt (λq=>by rcases q with q|q|q|q;omega;omega;omega;exact m.g q));have Z:=hide7 a B u I C E O;clear a B u I C E O;gi_wp2;rename_i ki
    refine ki _ _ ?_;clear ki;simp only [Act.put,Ue,Uc,Uf];gi_wp2;obtain ⟨a,B,u,I,C,E,O⟩:=Z.o;have yf:gone|||gn<65536:=Xt (n:=16) qn xb;have q7:bW X X.drew:=(TW _ X).drew;have qy:∀ w',aa F.S X w'->w'.cell? ⟨w.heap.size,0,ZW⟩=ZV (Z6 (ZV ⟨r,0,ZW⟩))/\w'.cell? ⟨r,0,ZW⟩=ZV (Z6 (ZV ⟨v,0,ZW⟩))/\w'.cell? ⟨r,1,ZW⟩=ZV (Z7 Z9 b):=λw' hO=>⟨WG ((hO.block _ qf xd).trans a.b2),(a.rd.keep (hO.block _ a.rd.lt kc)).cells.1,(a.rd.keep (hO.block _ a.rd.lt kc)).cells.2.1⟩;refine dH (iZ _) 99 [(0,ZU),(1,ZU),(2,ZU),(3,ZU),(4,ZU),(5,ZU),(6,ZU),(7,ZU),(8,ZU),(9,ZT),(10,ZU),(11,ZU),(12,ZU),(13,ZU),(14,ZU)] (λw'=>w'.cell? ⟨w.heap.size,0,ZW⟩=ZV (Z6 (ZV ⟨r,0,ZW⟩))/\w'.cell? ⟨r,0,ZW⟩=ZV (Z6 (ZV ⟨v,0,ZW⟩))/\w'.cell? ⟨r,1,ZW⟩=ZV (Z7 Z9 b)) (by kernel_rfl) (by kernel_rfl) (qy _ (aa.drew X)) ?_;iterate 9 (refine a9 rfl rfl ?_;apply YG;refine ⟨λw' J=>?_,?_⟩;(obtain ⟨s1,s2,s3⟩:=J;first|(go_simp;done)|(go_simp;exact rfl));simp only [Act.put,Ue,Uc,Uf])
    refine gB (iZ _) (IY (E.keep (q7.block _ E.lt)) (I.below q7 lR) x.1 b xh hb (O.below q7 O.lt) m.g) rfl rfl nofun (by go_simp) ?_;rintro e w2 ⟨Y,rfl,x3,k5,qh⟩;refine ⟨_,rfl,λ_=>qy _ ((aa.drew X).trans k5),?_⟩;simp only [Act.put,Ue,Uc,Uf];iterate 5 (refine a9 rfl rfl ?_;apply YG;refine ⟨λw' J=>?_,?_⟩;(obtain ⟨s1,s2,s3⟩:=J;first|(go_simp;done)|(go_simp;exact rfl));simp only [Act.put,Ue,Uc,Uf])
    refine gL ?_;have H:aa (F.S) X w2:=(aa.drew X).trans k5;have qa:∀ k,B0<=k->k<X.heap.size->w2.heap[k]?=X.heap[k]?:=λk c K=>H.block k K (λq=>by have:=kz k q;omega);have kx:=ak x3;have qe:=al H qa;clear a B u I C E O x3 H k5 qa c0 c1 cs c3 c4 cg c2 q7 qy;rename_i hK
    refine hK _ _ ?_;clear hK;have km:∀ z,gnB A b x.1=ZU->ew z r v b g N (gone|||gn|||2^x.1) sp->bt z v p D L G ps ho->aA z p A F->aa (λk=>k=r\/k=v\/F.S k) X z->(X.heap.size<=z.heap.size/\∀ k,w.heap.size<=k->k<X.heap.size->z.heap[k]?=X.heap[k]?)/\aG z/\RI w r v b g N p D L G ps ho gone sp B0 ds A F M Q.heap.size S (pre++[x]) z:=λz x7 qx y4 xj k6=>by
     obtain ⟨a,B,u,_⟩:=Z.o;have x4:aa (λk=>k=g\/k=r\/k=v\/F.S k) w z:=a.out.trans (k6.mono λ_ _ q=>.inr q);have x5:∀ k,w.heap.size<=k->k<X.heap.size->z.heap[k]?=X.heap[k]?:=λk c K=>k6.block k K (λq=>by rcases q with q|q|q;omega;omega;have:=kh k q;omega);refine ⟨⟨k6.size,x5⟩,m.tab.keep (x4.block _ m.tab.lt (λq=>by rcases q with q|q|q|q;omega;omega;omega;exact m.t q)),?_⟩;have K:∀ k,B0<=k->k<X.heap.size->z.heap[k]?=X.heap[k]?:=λk c K=>k6.block k K (λq=>by rcases q with q|q|q;omega;omega;have:=kz k q;omega);exact ⟨(x5 _ lR qf).trans a.b2,by rw [fT,oW W,NL _ x7,qm,<- Nat.or_assoc];exact qx,y4,⟨f,u.of_block (k6.block _ u.lt (λq=>by rcases q with q|q|q;exact qo q.symm;exact x8 q.symm;exact qk q)),by rw [fT,oW W,QW _ x7];exact B.keep k6.size λk o c ho _=>(K k c (TX.1 ho).1).trans ho⟩,xj,x4,TU a.size k6.size⟩
    have HF:=ak km;clear km;obtain ⟨qi,k7⟩:=hM _ xh;rw [Ap,qi];cases kb:gnB A b x.1 with
    | false=>
     obtain ⟨l,xe⟩:=nM (M x.1);rw [xe] at k7 ⊢;clear qi qh HF;have yi:=L6;simp only [gD,cZ,Bool.false_eq_true,if_false];gi_wp2_with (show wpListIn _ _ _ _ _ ({ dst:=ZW,op:=Op.store 221 (Z0 7) (Z0 46),type:=_,pos:=_,after:=_,guard:=_ }::_) _ _;refine Ao (w:=w2) (l:=l) rfl (Z0 7) (Z0 46) rfl (by rfl) (by rfl) (by rfl) k7 ?_)
     obtain ⟨H,qa⟩:=qe.out;obtain ⟨a,B,u,I,C,E,O⟩:=Z.o;have yc:X.heap.size<=w2.heap.size:=H.size;have hm:bW w2 (w2.alloc (Z4 (aH (l)).toArray 221)):=bA w2 _;have qs:(w2.alloc (Z4 (aH (l)).toArray 221)).heap[w2.heap.size]?=ZV (Z4 (aH (l)).toArray 221 (0,0)):=Ug _ _;have yb:(w2.alloc (Z4 (aH (l)).toArray 221)).heap.size=w2.heap.size+1:=(by simp);obtain ⟨s,qb⟩:=nM (w2.alloc (Z4 (aH (l)).toArray 221));rw [qb] at hm qs yb ⊢;have k9:∀ k,k<X.heap.size->¬ F.S k->s.heap[k]?=X.heap[k]?:=λk c xz=>(hm.block k (by omega)).trans (H.block k c xz);have qj:∀ k,B0<=k->k<X.heap.size->s.heap[k]?=X.heap[k]?:=λk c K=>k9 k K (λq=>by have:=kz k q;omega);have he:s.rowIs g 39 N f:=u.of_block (k9 g u.lt qk);have R:s.cell? ⟨w.heap.size,0,ZW⟩=ZV (Z6 (ZV ⟨r,0,ZW⟩)):=WG ((qj _ qg (by omega)).trans a.b2);have hq:=(C.keep (k9 r C.lt kc)).cells.2.2.1;have qr:=he.cell (i:=x.1) xg;have yo:=he.frozen x.1;refine dH (iZ _) 99 [(0,ZU),(1,ZU),(2,ZU),(3,ZU),(4,ZU),(5,ZU),(6,ZU),(7,ZU),(8,ZT)] (λw'=>w'.cell? ⟨w.heap.size,0,ZW⟩=ZV (Z6 (ZV ⟨r,0,ZW⟩))/\w'.cell? ⟨r,2,ZW⟩=ZV (Z5 (ZV ⟨g,0,ZW⟩) N N)) (by kernel_rfl) (by kernel_rfl) ⟨R,hq⟩ ?_;iterate 8 (refine a9 rfl rfl ?_;apply YG;refine ⟨λw' J=>?_,?_⟩;(obtain ⟨s1,s2⟩:=J;first|(go_simp;done)|(go_simp;exact rfl));simp only [Act.put,Ue,Uc,Uf])
     refine lC (iZ _) (w1:=s.drew.setCell ⟨g,x.1,ZW⟩ (Z5 (ZV ⟨w2.heap.size,0,ZW⟩) 44 44)) rfl rfl nofun (by go_simp) (λ_=>⟨(Uk (Ud _ _ _ _ (by show w.heap.size≠g;omega))).trans R,(Uk (Ud _ _ _ _ qo)).trans hq⟩) (gL ?_);obtain ⟨P,kf⟩:∃ P,P=s.drew.setCell ⟨g,x.1,ZW⟩ (Z5 (ZV ⟨w2.heap.size,0,ZW⟩) 44 44):=⟨_,rfl⟩;rw [<- kf];clear R hq qr yo;have hh:∀ k,k≠g->P.heap[k]?=s.heap[k]?:=λk c=>by rw [kf];exact Ud _ _ _ _ c
     have ym:P.heap.size=s.heap.size:=(by rw [kf];simp [World.setCell]);have hf:=he.set x.1 (Z5 (ZV ⟨w2.heap.size,0,ZW⟩) 44 44);have hs:P.rowIs g 39 N (λi=>if i=x.1 then Z5 (ZV ⟨w2.heap.size,0,ZW⟩) 44 44 else f i):=(by rw [kf];exact hf);have ka:∀ k,B0<=k->k<X.heap.size->P.heap[k]?=X.heap[k]?:=λk c K=>(hh k (by omega)).trans (qj k c K);have kj:aa (λk=>k=g\/k=r\/k=v\/F.S k) w P:=by
      have h3:aa (λk=>k=g\/k=r\/k=v\/F.S k) w s:=(a.out.trans (H.mono λ_ _ q=>.inr (.inr (.inr q)))).trans (aa.RN hm _);rw [kf];exact (h3.trans (aa.drew s)).trans (aa.setCell _ _ _ (.inl rfl))
     have ky:=kx.out.keep λk c=>by
      have:=kh k c;exact (hh k (λe=>qk (by rw [<- e];exact c))).trans (hm.block k (by omega))
     have hy:Kn P B0 wC (λi=>if i=x.1 then Z5 (ZV ⟨w2.heap.size,0,ZW⟩) 44 44 else f i) M (ds++CU A b (AN ds (iF pre))++[x.1]):=by
      have xa:=B.keep (w':=P) (by omega) λk o c ho _=>(ka k c (TX.1 ho).1).trans ho;refine ⟨λi V=>?_,λi V=>?_⟩
      . have h1:i≠x.1:=λe=>V (by rw [e];simp);show (if i=x.1 then _ else f i)=_;rw [TS h1];exact xa.1 i (λq=>V (UL _ q))
      . show ∃ bl,(if i=x.1 then _ else f i)=_/\_;by_cases e:i=x.1
        . rw [TT e,e,xe];exact ⟨w2.heap.size,rfl,by omega,by omega,(hh _ (by omega)).trans qs⟩
        . rw [TS e];rcases Uj.1 V with q|q
          . exact xa.2 i q
          . exact absurd (Vp.1 q) e
     have H4:=a6 hs ka kj ky hy;have qv:=ak (C.keep ((hh r qo).trans (k9 r C.lt kc)));have qz:=ak (E.keep ((hh v x8).trans (k9 v E.lt m.v)));have x1:X.heap.size<=P.heap.size:=(by omega);clear hf hs ka kj ky hy hh kf he k9 qj hm qs a B u I C E O H qa qb qe kx;rename_i hK
     refine hK _ _ ?_;clear hK;simp only [Act.put,Ue,Uc,Uf];gi_wp2;obtain ⟨hf,ka,kj,ky,hy⟩:=H4.o;have a:=Z.o.1;have yn:=a.size;refine ⟨⟨x1,λk o c ho _=>(ka k (by omega) (TX.1 ho).1).trans ho⟩,λ_=>m.tab.keep (kj.block _ m.tab.lt (λq=>by rcases q with q|q|q|q;omega;omega;omega;exact m.t q)),?_⟩;exact ⟨(ka _ qg (by omega)).trans a.b2,by rw [fT,oW W,KE _ kb,qm];exact qv.out,qz.out,⟨_,hf,by rw [fT,oW W,GE _ kb,<- Uz];exact hy⟩,ky,kj,by omega⟩
    | true=>
     obtain ⟨z1,y9⟩:=L8;obtain ⟨z2,ya⟩:=L9;have HS:=ak qh;clear qh qi k7;simp only [gD,if_true];gi_wp2;refine eR HS.o ?_;rintro e s ⟨rfl,qb⟩;subst qb;have H:=qe.out.1;obtain ⟨a,B,u,I,C,E,O⟩:=Z.o;have kg:Boxed s w.heap.size 151 (Z6 (ZV ⟨r,0,ZW⟩)):=(H.block _ qf xd).trans a.b2;have ha:=C.keep (H.block _ C.lt kc);have ke:=E.keep (H.block _ E.lt m.v);clear a B u I C E O;have H2:=aE ha ke kg;clear ha ke kg;gi_wp2;obtain ⟨ha,ke,kg⟩:=H2.o;have R:=kg.cell;have hq:=ha.cells.2.2.2.1;have yp:s.frozen? ⟨r,3,ZW⟩=ZT:=by
      have h':s.heap[r]?=_:=ha;simp [World.frozen?,h']
     refine dH (iZ _) 99 [(0,ZU),(1,ZU),(2,ZU),(3,ZU),(5,ZU),(4,ZT),(6,ZT),(7,ZU),(8,ZU),(9,ZT)] (λw'=>w'.cell? ⟨w.heap.size,0,ZW⟩=ZV (Z6 (ZV ⟨r,0,ZW⟩))) (by kernel_rfl) (by kernel_rfl) R ?_;iterate 5 (refine a9 rfl rfl ?_;apply YG;refine ⟨λw' J=>?_,?_⟩;(first|(go_simp;done)|(go_simp;exact rfl));simp only [Act.put,Ue,Uc,Uf])
     refine NH (iZ _) (w1:=s.drew) (v:=Z7 Z8 ((gone|||gn:Nat):Int)) rfl rfl nofun (by go_simp) (λ_=>R) ?_;simp only [Act.put,Ue,Uc,Uf];refine gB (iZ _) (lD (gone|||gn) x.1 (by omega) (by omega) s.drew) rfl rfl nofun (by go_simp) ?_;rintro e z ⟨rfl,rfl⟩;refine ⟨_,rfl,λ_=>R,?_⟩;simp only [Act.put,Ue,Uc,Uf];iterate 2 (refine a9 rfl rfl ?_;apply YG;refine ⟨λw' J=>?_,?_⟩;(first|(go_simp;done)|(go_simp;exact rfl));simp only [Act.put,Ue,Uc,Uf])
     refine lC (iZ _) (w1:=s.drew.setCell ⟨r,3,ZW⟩ (Z7 Z8 ((gone|||gn|||2^x.1:Nat):Int))) rfl rfl nofun (by go_simp) (λ_=>(Uk (Ud _ _ _ _ (by show w.heap.size≠r;omega))).trans R) (gL ?_);obtain ⟨z,qc⟩:∃ z,z=s.drew.setCell ⟨r,3,ZW⟩ (Z7 Z8 ((gone|||gn|||2^x.1:Nat):Int)):=⟨_,rfl⟩;rw [<- qc];clear R hq yp;have q0:aa (λk=>k=r) s z:=by
      rw [qc];exact (aa.drew s).trans (aa.setCell _ _ _ rfl)
     have H5:=ak (HF.o z kb (by rw [qc];exact ag (j:=3) ha _) (ke.keep (q0.block _ ke.lt y3)) (kx.out.keep λk c=>q0.block k (kx.out.RO c) (λe=>kc (by rw [<- e];exact c))) ((H.mono λ_ _ q=>.inr (.inr q)).trans (q0.mono λ_ _ q=>.inl q)));clear ha ke kg qc q0;simp only [Act.put,Ue,Uc,Uf];gi_wp2;obtain ⟨⟨q1,q2⟩,q3,q4⟩:=H5.o;exact ⟨⟨q1,λk o c ho _=>(q2 k (by omega) (TX.1 ho).1).trans ho⟩,λ_=>q3,q4⟩
 case done=>
  rintro D' xs X xk y7 a hK;have kv:iF xs=ab S:=y7;obtain ⟨f,u,B⟩:=a.row;have ko:∀ k,k<w.heap.size+1->(X.putObj D' (.deferred ZW)).heap[k]?=X.heap[k]?:=λk c=>US (by omega);have I:=a.arr;refine L7 results124 rfl hK ⟨rfl,by rw [<- kv];exact a.rd.keep (ko _ (by omega)),a.vol.keep (ko _ (by omega)),⟨f,u.of_block (ko _ (by omega)),?_⟩,?_,?_⟩
  . rw [<- kv];refine B.keep (by simp [World.putObj]) λk o c ho hc=>(US (λe=>?_)).trans ho;rw [e,hK] at ho;cases ho;cases hc
  . exact I.keep λk c=>ko k (by have:=kh k c;omega)
  . exact a.out.later (T:=λk=>w.heap.size<=k) ⟨rfl,rfl,rfl,by simp [World.putObj],λk q8 q9=>ko k (by omega)⟩ (λk q8 q9=>by omega)
 case stop=>
  rintro D' cc pre X xk y1 hx hK;exact hx.elim
end
def Aq (N:Nat) (ds:a8) (R:Nat->a8):List a8:=(YF N).map λi=>if i∈ds then R i else []
def Ot (N:Nat) (ds:a8):Nat:=zH (((YF N).filter λi=>decide (i∉ds)).map λi:Nat=>⟨0,0,(i:Int),0⟩)
theorem uN (N:Nat) (ds:a8) (i:Nat):(Ot N ds).testBit i=ZU↔i<N/\i∉ds:=by
 unfold Ot;rw [oE];constructor
 . rintro ⟨s,f,_,a⟩;obtain ⟨j,e,rfl⟩:=T7.1 f;obtain ⟨c,d⟩:=Vt.1 e;have:j=i:=a;subst this;exact ⟨Uu.1 c,Wy d⟩
 . rintro ⟨b,a⟩;exact ⟨_,T7.2 ⟨i,Vt.2 ⟨Uu.2 b,UZ a⟩,rfl⟩,rfl,rfl⟩
def CV (N:Nat) (ds:a8) (R:Nat->a8):(Aq N ds R).length=N:=by simp [Aq]
def CW (a:i<N):(Aq N ds R).getD i []=if i∈ds then R i else []:=by simp [Aq,a]
def Ma (h:w.heap[bl]?=ZV (Z4 (aH l).toArray 221 (0,0))) (hl:l.length=44) (c:∀ x∈l,x<256):Bs w (Z5 (ZV ⟨bl,0,ZW⟩) 44 44) l:=by
 refine ⟨ZV ⟨bl,0,ZW⟩,44,by rw [hl],by omega,by omega,c,λ_=>⟨bl,0,rfl,λk a=>?_⟩⟩;have e:(aH l)[k]?=ZV (Z7 .u8 ((l.getD k 0:Nat):Int)):=by
  unfold aH;rw [UA,Ua a];simp [a]
 have b:(aH l).toArray[k]?=ZV (Z7 .u8 ((l.getD k 0:Nat):Int)):=by simpa using e
 simp [World.cell?,h,b]
def aaB (n:w.rowIs g 39 N f) (o:∀ i∈ds,(R i).length=44/\∀ x∈R i,x<256) (j:Kn w base wC f R ds):In w g (Aq N ds R) (Ot N ds):=by
 intro i c;have b:i<N:=by rw [CV] at c;exact c
 have p:(Aq N ds R)[i]=if i∈ds then R i else []:=by rw [<- CW b];simp [c]
 have h:=n.cell b;refine ⟨λa=>?_,λa=>?_⟩
 . rw [h,j.1 i ((uN N ds i).1 (oR.1 a)).2];rfl
 . have d:i∈ds:=by
    by_cases q:i∈ds
    . exact q
    . exact absurd (oR.2 ((uN N ds i).2 ⟨b,q⟩)) a
   obtain ⟨bl,k,_,_,l⟩:=j.2 i d;obtain ⟨e,m⟩:=o i d;rw [p,TT d,e];exact ⟨⟨bl,0,ZW⟩,44,by rw [h,k],Ma l e m⟩
theorem I0 (a:∀ i∈ds,(R i).length=44/\∀ x∈R i,x<256):∀ l∈Aq N ds R,l.length<=100000:=by
 intro l hl;unfold Aq at hl;obtain ⟨i,_,rfl⟩:=T7.1 hl;split
 . rename_i h;rw [(a i h).1];omega
 . simp
def yJ {row:a8} (h:aI w bl l) (g:m<=l.length) (e:l.take m=row):w.rangeAt bl 0 (aH row)/\row.length=m:=by
 have c:row.length=m:=by rw [<- e,Un];omega
 refine ⟨λj u a=>?_,c⟩;unfold aH at a;rw [UA,Wi] at a;obtain ⟨x,b,rfl⟩:=a;have f:j<row.length:=(Va.1 b).1;have d:=abJ h (i:=j) (by omega);rw [Ui];rw [d];unfold vb;have:l.getD j 0=x:=by
  rw [<- e,X6,TT (by omega)] at b;rw [T6,b];rfl
 rw [this]
def jg (h:w.heap[bl]?=ZV (Z4 (aH l).toArray 221 (0,0))):w.rangeAt bl 0 (aH l):=λj u a=>by simp [World.cell?,h];simpa using a
theorem sI {S:Nat} (e:gone<65536) (f:sp<65536) {i:Nat}:i∈AN ds (ab (DC (DC S gone) sp))↔i∈ab S/\gone.testBit i=ZT/\sp.testBit i=ZT/\i∉ds:=by
 rw [GD,sH f,sH e];constructor
 . rintro ⟨⟨⟨a,b⟩,c⟩,d⟩;exact ⟨a,b,c,d⟩
 . rintro ⟨a,b,c,d⟩;exact ⟨⟨⟨a,b⟩,c⟩,d⟩
def RK (T gone sp:Nat) (ds:a8):a8:=AN ds (ab (DC (DC T gone) sp))
def uO (h:¬ x.testBit i=ZU):x.testBit i=ZT:=by cases q:x.testBit i;rfl;exact absurd q h
section
attribute [local go_sem] Oper.semAt_some
structure WI (w:ZS) (C:Ck) (regs:Int) (L:List St) (X:ZS):Prop where
 ck:aD X w.heap.size C
 res:X.heap[w.heap.size+1]?=ZV (Z4 #[Z7 Z9 0,Z5 ZW 0 0] 214 (0,0))
 pb:PB X (w.heap.size+3) (w.heap.size+1+1) regs L
 below:bW w X
theorem WI.own {L:List St} (h:WI w C regs L X) (c:w.heap.size+3<=B) (a:X.grownBy Y row) (hr:∀ r,row=ZV r->B<=r/\∃ o:Obj,X.heap[r]?=ZV o/\o.isCells=ZT):WI w C regs L Y:=by
 have:=h.pb.2.1;have b:∀ k,k<w.heap.size+3->Y.heap[k]?=X.heap[k]?:=λk b=>a.block k (by omega) (λe=>by have:=(hr k e.symm).1;omega);exact ⟨h.ck.keep (b _ (by omega)),(b _ (by omega)).trans h.res,h.pb.own c a hr,h.below.grown a h.below.size (λk e=>by have:=(hr k e).1;omega)⟩
def WI.next {L:List St} {s:St} (h:WI w C regs L X) (d:X.heap[w.heap.size+1+1]?=ZV (Z4 #[Z7 Z9 regs,v] 214 (0,0))) (e:X.ownsRow (w.heap.size+3) 290 4 v L.length (eC .u8 L))
 (g:(X.alloc ob).grownBy w2 v.ownBlock) (f:w.heap.size+3<=g') (c:w2.ownsRow (w.heap.size+3) 290 4 (Z5 (ZV ⟨g',0,ZW⟩) (L.length+1) cap') (L.length+1) (eC .u8 (L++[s]))) :
 w2.cell? ⟨w.heap.size+1+1,1,ZW⟩=ZV v/\w2.frozen? ⟨w.heap.size+1+1,1,ZW⟩=ZT/\(WI w C regs (L++[s]) (w2.setCell ⟨w.heap.size+1+1,1,ZW⟩ (Z5 (ZV ⟨g',0,ZW⟩) (L.length+1) cap'))/\KeepsOthers X (w2.setCell ⟨w.heap.size+1+1,1,ZW⟩ (Z5 (ZV ⟨g',0,ZW⟩) (L.length+1) cap'))):=by
 obtain ⟨i,j,l,a,b,m,n,o⟩:=PB.next (n0:=w.heap.size+3) (Bg:=w.heap.size+1+1) (by omega) h.pb.2.1 d e g f c;refine ⟨j,l,⟨h.ck.keep (a _ (by omega) (by omega)),(a _ (by omega) (by omega)).trans h.res,i,h.below.trans ⟨m,n,o,?_,λk p=>a k (by omega) (by omega)⟩⟩,b⟩;exact b.size
def WI.told {L:List St} (h:WI w C regs L X):X.cell? ⟨w.heap.size,128,ZW⟩=ZV (Z7 Z9 (C.told:Int)):=h.ck.R5
def CX (X:ZS) (s:St):∀ j v,(HU .u8 s)[j]?=ZV v->(X.alloc (Z4 #[Z7 .u8 (s.k:Int),Z7 Z9 s.a,Z7 Z9 s.b,Z7 .u8 (s.c:Int)] 290)).cell? ((⟨X.heap.size,0,ZW⟩:Addr).add j)=ZV v:=
 BE X X.heap.size rfl _ _ _ _ _
def I1 (C:Ck) (pre:List Sh):List St:=wrTo C (pre.map (·.1))
def GF (C:Ck) (pre:List Sh) (i k:Nat):List St:=I1 C pre++[⟨0,0,(i:Int),0⟩]++gG C i k
theorem Ou (C:Ck) (a:eF C) (pre:List Sh) (s:Nat) (h:pre.length<(ab s).length) (i k:Nat) (l:k<=C.told):(I1 C pre).length<=200/\(GF C pre i k).length<=300:=by
 have b:=sE C (pre.map (·.1));have:=Cv C i k;have:(ab s).length<=16:=by rw [<- kR s];exact qC s
 have:=a.le;have:=a.Sd;have c:(pre.map (·.1)).length*(C.told+1)<=16*9:=Xg (by rw [T9];omega) (by omega);have:(I1 C pre).length<=144:=TU b c;refine ⟨by omega,?_⟩;unfold GF;simp only [T8,ab0];omega
def Mc (C:Ck) (pre:List Sh) (i:Nat):GF C pre i 0=I1 C pre++[⟨0,0,(i:Int),0⟩]:=by unfold GF;rw [uo,Wn]
def QY (pre:List Sh) {i k:Nat} (h:C.m k i≠0):GF C pre i (k+1)=GF C pre i k++[⟨1,1+(k:Int),0,C.m k i⟩]:=by unfold GF;rw [Cu C i k h,<- Uz]
def Ov (pre:List Sh) {i k:Nat} (h:C.m k i=0):GF C pre i (k+1)=GF C pre i k:=by unfold GF;rw [yB C i k h]
def Ox {x:Sh} (h:cH C x.1=ZU):GF C pre x.1 C.told=I1 C (pre++[x]):=by
 unfold GF I1;rw [Uv,YR,yA,ir h];simp
def QZ {x:Sh} (h:cH C x.1=ZT):I1 C pre=I1 C (pre++[x]):=by
 unfold I1;rw [Uv,YR,yA,lV h];simp
def I2 (X:ZS) (n:Nat) (d:n=X.heap.size) (s:St):∀ j v,(HU .u8 s)[j]?=ZV v->(X.alloc (Z4 #[Z7 .u8 (s.k:Int),Z7 Z9 s.a,Z7 Z9 s.b,Z7 .u8 (s.c:Int)] 290)).cell? ((⟨n,0,ZW⟩:Addr).add j)=ZV v:=
 BE X n d _ _ _ _ _
def Oy {s:Nat} (h:pre.map (·.1)=ab s):I1 C pre=wrTo C (ab s):=by unfold I1;rw [h]
def yK (C:Ck) (kept:Nat) (pre:List Sh):List St:=wrTo C (ab kept)++fF (pre.map (·.1))
def Oz (C:Ck) (kept:Nat):yK C kept []=wrTo C (ab kept):=by unfold yK fF;simp
def Md (C:Ck) (kept:Nat) (pre:List Sh) (x:Sh):yK C kept (pre++[x])=yK C kept pre++[⟨2,(pre.length:Int)+1,(x.1:Int),0⟩]:=by
 unfold yK;rw [Uv,YR,EV,T9,<- Uz]
def OA (h:pre.map (·.1)=ab gone):yK C kept pre=fO C gone kept:=by unfold yK fO;rw [h]
theorem Q0 (C:Ck) (a:eF C) (kept:Nat) (pre:List Sh) (s:Nat) (h:pre.length<(ab s).length):(yK C kept pre).length<=300:=by
 have c:=sE C (ab kept);have:(ab s).length<=16:=by rw [<- kR s];exact qC s
 have b:(ab kept).length<=16:=by rw [<- kR kept];exact qC kept
 have:=a.le;have:=a.Sd;have d:(ab kept).length*(C.told+1)<=16*9:=Xg b (by omega);have:(wrTo C (ab kept)).length<=144:=TU c d;unfold yK fF;simp only [T8,T9,UK];omega
def Me {n0 R:Nat} {xs:List ZR} (h:X.ownsRow n0 290 4 v k xs) (b:Boxed X R 3 u):v.ownBlock≠ZV R:=by
 rcases h.2 with ⟨rfl,_⟩|⟨g,cap,cur,rfl,_,a,_⟩
 . intro e;cases e
 . intro e;obtain rfl:g=R:=(by simpa [Value.ownBlock] using e);rw [show X.heap[g]?=_ from b] at a;have:=UJ a;cases this
theorem WI.set {L:List St} {R:Nat} {u':ZR} (h:WI w C regs L X) (g:w.heap.size+3<=R) (c:Boxed X R 3 u):WI w C regs L (X.setCell ⟨R,0,ZW⟩ u'):=by
 have a:∀ k,k≠R->(X.setCell ⟨R,0,ZW⟩ u').heap[k]?=X.heap[k]?:=λk a=>Wk _ _ _ _ a;obtain ⟨d,e,v,f,b⟩:=h.pb;exact ⟨h.ck.keep (a _ (by omega)),(a _ (by omega)).trans h.res,⟨d,by simpa [World.setCell] using e,v,(a _ (by omega)).trans f,b.kept (dz X R 0 u') (.inr (Me b c))⟩,h.below.setCell (p:=⟨R,0,ZW⟩) (by show w.heap.size<=R;omega) _⟩
structure WP (w:ZS) (C:Ck) (regs:Int) (kept R D:Nat) (pre:List Sh) (Y:ZS):Prop where
 wi:WI w C regs (yK C kept pre) Y
 box:Boxed Y R 3 (Z7 Z9 (pre.length:Int))
 mark:Y.heap[D]?=ZV (.deferred (ZV []))
theorem WP.own {R:Nat} (h:WP w C regs kept R D pre X) (c:w.heap.size+3<=B) (d:R<B) (hD:D<B) (b:X.grownBy Y row) (hr:∀ r,row=ZV r->B<=r/\∃ o:Obj,X.heap[r]?=ZV o/\o.isCells=ZT):WP w C regs kept R D pre Y:=by
 have a:∀ k,k<B->k<X.heap.size->Y.heap[k]?=X.heap[k]?:=λk a f=>b.block k f (λe=>by have:=(hr k e.symm).1;omega);exact ⟨h.wi.own c b hr,(a R d h.box.lt).trans h.box,(a D hD (TX.1 h.mark).1).trans h.mark⟩
def WP.next {R:Nat} {x:Sh} (h:WP w C regs kept R D pre X) (j:w.heap.size+3<=R)
 (g:(X.setCell ⟨R,0,ZW⟩ (Z7 Z9 ((pre.length:Int)+1))).heap[w.heap.size+1+1]?=ZV (Z4 #[Z7 Z9 regs,v] 214 (0,0))) (a:(X.setCell ⟨R,0,ZW⟩ (Z7 Z9 ((pre.length:Int)+1))).ownsRow (w.heap.size+3) 290 4 v (yK C kept pre).length (eC .u8 (yK C kept pre)))
 (d:((X.setCell ⟨R,0,ZW⟩ (Z7 Z9 ((pre.length:Int)+1))).alloc ob).grownBy w2 v.ownBlock) (i:w.heap.size+3<=g') (f:w2.ownsRow (w.heap.size+3) 290 4 (Z5 (ZV ⟨g',0,ZW⟩) ((yK C kept pre).length+1) cap') ((yK C kept pre).length+1) (eC .u8 (yK C kept pre++[⟨2,(pre.length:Int)+1,(x.1:Int),0⟩]))) :
 w2.cell? ⟨w.heap.size+1+1,1,ZW⟩=ZV v/\w2.frozen? ⟨w.heap.size+1+1,1,ZW⟩=ZT/\(WP w C regs kept R D (pre++[x]) (w2.setCell ⟨w.heap.size+1+1,1,ZW⟩ (Z5 (ZV ⟨g',0,ZW⟩) ((yK C kept pre).length+1) cap'))/\KeepsOthers X (w2.setCell ⟨w.heap.size+1+1,1,ZW⟩ (Z5 (ZV ⟨g',0,ZW⟩) ((yK C kept pre).length+1) cap'))):=by
 have k:WI w C regs (yK C kept pre) (X.setCell ⟨R,0,ZW⟩ (Z7 Z9 ((pre.length:Int)+1))):=h.wi.set j h.box;have c:Boxed (X.setCell ⟨R,0,ZW⟩ (Z7 Z9 ((pre.length:Int)+1))) R 3 (Z7 Z9 ((pre.length:Int)+1)):=h.box.set _;obtain ⟨l,m,n,o⟩:=k.next g a d i f;have b:=(V5 X ⟨R,0,ZW⟩ (Z7 Z9 ((pre.length:Int)+1))).trans o;refine ⟨l,m,⟨by rw [Md];exact n,?_,b.same D _ h.mark rfl⟩,b⟩;have b2:Boxed w2 R 3 (Z7 Z9 ((pre.length:Int)+1)):=(c.alloc ob).kept d (λe=>Me a c e.symm);have b3:=(Wk w2 ⟨w.heap.size+1+1,1,ZW⟩ (Z5 (ZV ⟨g',0,ZW⟩) ((yK C kept pre).length+1) cap') R (by show R≠w.heap.size+1+1;omega)).trans b2;rw [T8];exact b3
def iQ {x x':ZR} {t:ZN} (h:Y.heap[b]?=ZV (Z4 #[x,y] t (0,0))):(Y.setCell ⟨b,0,ZW⟩ x').heap[b]?=ZV (Z4 #[x',y] t (0,0)):=by
 obtain ⟨a,c⟩:=TX.1 h;show (Y.heap.modify b _)[b]?=_;rw [VM (by rw [abA];exact a),ab3,c];rfl
def iR {x y':ZR} {t:ZN} (h:Y.heap[b]?=ZV (Z4 #[x,y] t (0,0))):(Y.setCell ⟨b,1,ZW⟩ y').heap[b]?=ZV (Z4 #[x,y'] t (0,0)):=by
 obtain ⟨a,c⟩:=TX.1 h;show (Y.heap.modify b _)[b]?=_;rw [VM (by rw [abA];exact a),ab3,c];rfl
def ga {base':Nat} {xs:List ZR} (h:w.ownsRow base e size v n xs) (f:base'<=base):w.ownsRow base' e size v n xs:=by
 refine ⟨h.1,?_⟩;rcases h.2 with b|⟨g,cap,cur,a,c,d⟩
 . exact .inl b
 . exact .inr ⟨g,cap,cur,a,TU f c,d⟩
def I3:(ZL.info? 214).map (·.size)=ZV 2:=by kernel_rfl
theorem I4 (C:Ck) (gone kept:Nat) (w:ZS) (G:eF C) (hg:gone<65536) (hk:kept<65536) (W:aG w) (h2:3<=w.heap.size) :
 ZP ZL 207 #[.agg (aV C),Z7 Z8 gone,Z7 Z8 kept] w λe w'=>∃ v,e=Z3 (.agg #[Z7 Z9 (1+((ab gone).length:Int)),v])/\bW w w'/\w'.ownsRow w.heap.size 290 4 v (fO C gone kept).length (eC .u8 (fO C gone kept)):=by
 have qe:(ab gone).length<=16:=by rw [<- kR gone];exact qC gone
 obtain ⟨n,HN⟩:∃ n:Nat,cA (9<=n):=⟨9,TV _⟩;refine (Vc (n:=n)).1 ?_;refine Wf func207 rfl trivial ?_ rfl;simp only [ntmps207,UH,UD,UW,Nat.reduceAdd,Nat.reduceSub,Vj,Vk,Vl,Vm,Uo,UU];have q6:(((w.alloc (Z4 (aV C) 329)).alloc (Z4 #[Z7 Z9 0,Z5 ZW 0 0] 214)).alloc (Z4 #[Z7 Z9 (1+((ab gone).length:Int)),Z5 ZW 0 0] 214)).heap.size=w.heap.size+3:=by simp
 have ky:WI w C (1+((ab gone).length:Int)) [] (((w.alloc (Z4 (aV C) 329)).alloc (Z4 #[Z7 Z9 0,Z5 ZW 0 0] 214)).alloc (Z4 #[Z7 Z9 (1+((ab gone).length:Int)),Z5 ZW 0 0] 214)):=by
  obtain ⟨a1,a2,a3,a4⟩:=KU w (Z4 (aV C) 329) (Z4 #[Z7 Z9 0,Z5 ZW 0 0] 214) (Z4 #[Z7 Z9 (1+((ab gone).length:Int)),Z5 ZW 0 0] 214);refine ⟨(aD.new w C).keep (by rw [Wc _ _ _ (by simp;omega),Wc _ _ _ (by simp)]),a3,⟨by omega,by omega,_,a4,UN _ _ _ _⟩,((bA w _).alloc (by simp) _).alloc (by simp;omega) _⟩
 have N:=ak q6;have i:=ak ky;clear q6 ky;gi_wp2;refine cj (Bn gone hg _) ?_;rintro e w' ⟨rfl,F⟩;gi_wp2;obtain ⟨l,km⟩:=nM ((((w.alloc (Z4 (aV C) 329)).alloc (Z4 #[Z7 Z9 0,Z5 ZW 0 0] 214)).alloc (Z4 #[Z7 Z9 (1+((ab gone).length:Int)),Z5 ZW 0 0] 214)));rw [km] at N i;rw [km];clear km F w';refine cj (dI kept l) ?_;rintro e w' ⟨rfl,rfl⟩;have q7:(l.alloc (Z4 #[Z7 Z8 (kept:Int)] 138)).heap.size=l.heap.size+1:=by simp
 have ks:(l.alloc (Z4 #[Z7 Z8 (kept:Int)] 138)).cell? ⟨l.heap.size,0,ZW⟩=ZV (Z7 Z8 (kept:Int)):=(Bx.new l 138 (Z7 Z8 (kept:Int))).cell;have kz:WI w C (1+((ab gone).length:Int)) [] (l.alloc (Z4 #[Z7 Z8 (kept:Int)] 138)):=i.o.own (B:=l.heap.size) (row:=ZW) (by have:=N.o;omega) (ab4 _ _ _) (λr e=>by cases e);obtain ⟨w4,q4⟩:=nM (l.alloc (Z4 #[Z7 Z8 (kept:Int)] 138));have P:=ak q7;have ka:=ak ks;have k6:=ak kz;clear q7 ks kz i;gi_wp2;rw [q4] at P ka k6;clear q4;refine Wg rfl (by have:=HN.o;omega) (gf:=151) (lb:=#[Z6 (ZV ⟨l.heap.size,0,ZW⟩)]) rfl trivial (Ve func151 (by kernel_rfl) rfl)
  (eS (n-1) l.heap.size kept hk w4 (by have:=P.out;omega) ka.out (by have:=P.out;have:=N.o;omega) (W.mono (by omega) k6.out.below)) (λh k=>qZ h k) (rh (by have:=P.out;have:=N.o;omega)) (TW _ _) (λ_=>rfl)
  (λpre X=>WI w C (1+((ab gone).length:Int)) (I1 C pre) X/\w4.heap.size<=X.heap.size) (λ_ _ _=>False)
  (λpre X Y row H V hr=>⟨H.1.own (by have:=P.out;have:=N.o;omega) V hr,TU H.2 V.size⟩) (λc pre X Y row H _ _=>H.elim) ⟨k6.out,TV _⟩
  (λx=>{ tmps:=#[.agg (aV C),Z7 Z8 (gone:Int),Z7 Z8 (kept:Int),Z6 (ZV ⟨w.heap.size,0,ZW⟩),ZX,ZX,Z6 (ZV ⟨w.heap.size+1,0,ZW⟩),Z6 (ZV ⟨w.heap.size+1+1,0,ZW⟩),Z7 Z9 (x.1:Int),ZX,ZX,ZX,ZX,Z7 Z8 (gone:Int),Z7 Z9 ((ab gone).length:Int),Z7 Z9 (1+((ab gone).length:Int)),.agg #[Z7 Z9 (1+((ab gone).length:Int)),Z5 ZW 0 0],Z7 Z8 (kept:Int),.func (.func 151) #[] #[Z6 (ZV ⟨l.heap.size,0,ZW⟩)],Z7 Z9 (x.1:Int),ZX,ZX,ZX,ZX,ZX,ZX,ZX,ZX,ZX,ZX,ZX,ZX,ZX,ZX,ZX,ZX,ZX,ZX,ZX,ZX,ZX,ZX,ZX,ZX,ZX,ZX,ZX,ZX,ZX,ZX,ZX,ZX,ZX,ZX,ZX,ZX,ZX,ZX,ZX,ZX,ZX,ZX,ZX,ZX,ZX,ZX,ZX],defers:=[] }) ?assign ?body ?done ?stop
 case assign=>
  intro l2 x X Kk hK;unfold qY;gi_wp2;exact hK
 case body=>
  rintro l2 pre x X ⟨a,hX⟩ R;have q3:=xU w.heap.size x.1 C X a.ck G x.2;obtain ⟨_,_,v,f,b⟩:=a.pb;have K:w.heap.size+3<=X.heap.size:=a.pb.2.1;obtain ⟨c0,c1,O,_⟩:=aw f;have ko:=x.2;have hL:=λk hk=>Ou C G pre kept R x.1 k hk;have HH:=ak a;have Q:=ak f;have t:=ak b;have HL:=ak hL;have HX:=ak hX;have S:=ak K;clear a f b hL hX R K;gi_wp2;refine eR q3 ?_;clear q3;rintro e w' ⟨rfl,F⟩;subst F;cases k9:cH C x.1 with
  | false=>
   have HE:=ak (QZ (pre:=pre) k9);clear k9;gi_wp2;refine ⟨Yh _ _,F6.refl _,?_,HX.o⟩;rw [<- HE.o];exact HH.o
  | true=>
   have HE:=ak (Ox (pre:=pre) k9);clear k9;gi_wp2_with (
    refine z7 rfl (Z0 24) (Z0 27) rfl (w.heap.size+3) w'.heap.size (I1 C pre) ⟨0,0,(x.1:Int),0⟩ v rfl rfl (t.o.alloc _) (CX w' ⟨0,0,(x.1:Int),0⟩) (by have:=S.out;simp;omega) (by have:=(HL.o 0 (T5 _)).1;omega) ?_;
    rintro g' cap' w2 T I J;
    obtain ⟨c1,O,E⟩:=HH.o.next Q.o t.o J T I;
    have ct:=E.1.told;
    have q:=ak E;
    clear E J I)
   rw [<- Mc] at q;gi_loopw [32] (λp wr=>∃ k:Nat,p=Z7 Z9 (k:Int)/\k<=C.told/\WI w C (1+((ab gone).length:Int)) (GF C pre x.1 k) wr/\KeepsOthers w' wr) (λp _=>C.told-(intOf p).toNat)
   case atStart=>exact ⟨0,rfl,T5 _,q.out.1,q.out.2⟩
   case round=>
    obtain ⟨k,rfl,qc,a,z⟩:=hrel;have qi:=G.le;have qj:=G.Sd;by_cases qq:k<C.told
    . have cm:=a.ck.at k x.1 (by omega) ko;have ki:(k:Int)<C.told:=(by omega);have qn:(k:Int)<8:=(by omega);have qv:(x.1:Int)<16:=(by omega);by_cases h0:C.m k x.1=0
      . rw [h0] at cm;have i:=ak a;have u:=ak z;clear a z;gi_wp2;go_roundw
        case rel=>exact ⟨k+1,by go_num,by omega,by rw [Ov pre h0];exact i.o,u.o⟩
        case measure=>simp [intOf];omega
      . have qs:((C.m k x.1:Nat):Int)≠0:=(by omega);obtain ⟨_,_,v,f,b⟩:=a.pb;have K:w.heap.size+3<=wr.heap.size:=a.pb.2.1;obtain ⟨c0,c1,O,_⟩:=aw f;have qm:=(HL.o k qc).2;have i:=ak a;have u:=ak z;have Q:=ak f;have t:=ak b;have S:=ak K;clear a z f b K;gi_wp2_with (
         refine z7 rfl (Z0 44) (Z0 49) rfl (w.heap.size+3) wr.heap.size (GF C pre x.1 k) ⟨1,1+(k:Int),0,C.m k x.1⟩ v rfl rfl (t.o.alloc _) (CX wr ⟨1,1+(k:Int),0,C.m k x.1⟩) (by have:=S.out;simp;omega) (by omega) ?_;
         rintro g' cap' w2 T I J;
         obtain ⟨c1,O,E⟩:=i.o.next Q.o t.o J T I;
         have q:=ak E;
         clear E J I)
        go_roundw
        case rel=>exact ⟨k+1,by go_num,by omega,by rw [QY pre h0];exact q.out.1,u.o.trans q.out.2⟩
        case measure=>simp [intOf];omega
    . have ki:¬ (k:Int)<C.told:=(by omega);obtain rfl:k=C.told:=(by omega);have i:=ak a;have u:=ak z;clear a z;gi_wp2;refine ⟨u.o.from _,λ_=>W.mono (by omega) i.o.below,?_,TU HX.o u.o.size⟩;rw [<- HE.o];exact i.o
 case done=>
  rintro D xs X hD q5 ⟨a,hX⟩ hK;rw [Oy q5] at a;have qo:w.heap.size+3<=D:=by have:=P.out;have:=N.o;omega
  have qb:D<X.heap.size:=(TX.1 hK).1;clear q5 xs ka k6 hX;have i:=ak a;have u:=ak hK;clear a hK;gi_wp2;refine cj (dI gone _) ?_;rintro e w' ⟨rfl,F⟩;have q8:w'.heap.size=X.heap.size+1+1:=by rw [F];simp
  have kv:w'.cell? ⟨X.heap.size+1,0,ZW⟩=ZV (Z7 Z8 (gone:Int)):=by
   have:=(Bx.new (X.alloc (Z4 #[Z7 Z9 0] 3)) 138 (Z7 Z8 (gone:Int))).cell;rw [Uq] at this;rw [F];exact this
  have kf:X.grownBy w' ZW:=by rw [F];exact BF (ab4 X _ ZW) _
  have q2:WP w C (1+((ab gone).length:Int)) kept X.heap.size D [] w':=by
   refine ⟨by rw [Oz];exact i.o.own (B:=w.heap.size+3) lR kf (λr e=>by cases e),?_,(kf.block D qb (λe=>by cases e)).trans u.o⟩;rw [F];exact (Ut X 3 (Z7 Z9 0)).alloc _
  have y:=ak q8;have q9:=ak kv;have kp:=ak q2;clear q8 kv q2 kf F i u;gi_wp2;refine Wg rfl (by have:=HN.o;omega) (gf:=151) (lb:=#[Z6 (ZV ⟨X.heap.size+1,0,ZW⟩)]) rfl trivial (Ve func151 (by kernel_rfl) rfl)
   (eS (n-1) (X.heap.size+1) gone hg w' (by have:=y.out;omega) q9.out (by have:=y.out;omega) (W.mono (by omega) kp.out.wi.below)) (λh k=>qZ h k) (rh (by have:=y.out;omega)) (TW _ _) (λ_=>rfl)
   (λpre Y=>WP w C (1+((ab gone).length:Int)) kept X.heap.size D pre Y/\w'.heap.size<=Y.heap.size) (λ_ _ _=>False)
   (λpre A Y row H V hr=>⟨H.1.own (B:=w'.heap.size) (by have:=y.out;omega) (by have:=y.out;omega) (by have:=y.out;omega) V hr,TU H.2 V.size⟩) (λc pre X Y row H _ _=>H.elim) ⟨kp.out,TV _⟩
   (λx=>{ tmps:=#[.agg (aV C),Z7 Z8 (gone:Int),Z7 Z8 (kept:Int),Z6 (ZV ⟨w.heap.size,0,ZW⟩),ZX,ZX,Z6 (ZV ⟨w.heap.size+1,0,ZW⟩),Z6 (ZV ⟨w.heap.size+1+1,0,ZW⟩),ZX,ZX,ZX,Z6 (ZV ⟨X.heap.size,0,ZW⟩),Z7 Z9 (x.1:Int),Z7 Z8 (gone:Int),Z7 Z9 ((ab gone).length:Int),Z7 Z9 (1+((ab gone).length:Int)),.agg #[Z7 Z9 (1+((ab gone).length:Int)),Z5 ZW 0 0],Z7 Z8 (kept:Int),.func (.func 151) #[] #[Z6 (ZV ⟨l.heap.size,0,ZW⟩)],ZX,ZX,ZX,ZX,ZX,ZX,ZX,ZX,ZX,ZX,ZX,ZX,ZX,ZX,ZX,ZX,ZX,ZX,ZX,ZX,ZX,ZX,ZX,ZX,ZX,ZX,ZX,ZX,ZX,ZX,ZX,ZX,ZX,ZX,Z7 Z8 (gone:Int),.func (.func 151) #[] #[Z6 (ZV ⟨X.heap.size+1,0,ZW⟩)],Z7 Z9 (x.1:Int),ZX,ZX,ZX,ZX,ZX,ZX,ZX,ZX,ZX,ZX,ZX],defers:=[] }) ?assign2 ?body2 ?done2 ?stop2
  case assign2=>
   intro l2 x Y Kk hK;unfold qY;gi_wp2;exact hK
  case body2=>
   rintro l2 pre x Y ⟨s,hY⟩ R;have qp:=Q0 C G kept pre gone R;have qf:pre.length<16:=(by omega);have kc:w.heap.size+3<=X.heap.size:=(by omega);have hs:=s.wi.set (u':=Z7 Z9 ((pre.length:Int)+1)) kc s.box;obtain ⟨_,_,v,f,b⟩:=hs.pb;have K:w.heap.size+3<=(Y.setCell ⟨X.heap.size,0,ZW⟩ (Z7 Z9 ((pre.length:Int)+1))).heap.size:=hs.pb.2.1;obtain ⟨c0,c1,O,_⟩:=aw f;have cb:=s.box.cell;have fb:=s.box.frozen;have hb:=(s.box.set (Z7 Z9 ((pre.length:Int)+1))).cell;have HP:=ak s;have Q:=ak f;have t:=ak b;have S:=ak K;have HY:=ak hY;have qa:=ak kc;clear s f b K hY hs R kc;gi_wp2_with (
    refine z7 rfl (Z0 59) (Z0 63) rfl (w.heap.size+3) Y.heap.size (yK C kept pre) ⟨2,(pre.length:Int)+1,(x.1:Int),0⟩ v rfl rfl (t.o.alloc _) (I2 _ Y.heap.size (by simp) ⟨2,(pre.length:Int)+1,(x.1:Int),0⟩) (by have:=S.out;simp at this ⊢;omega) (by omega) ?_;
    rintro g' cap' w2 T I J;
    obtain ⟨c1,O,E⟩:=HP.o.next qa.out Q.o t.o J T I;
    have q:=ak E;
    clear E J I)
   refine ⟨q.out.2.from _,λ_=>W.mono (by omega) q.out.1.wi.below,q.out.1,TU HY.o q.out.2.size⟩
  case done2=>
   rintro M ys Y qk qh ⟨s,hY⟩ k7;have L:=s.wi;rw [OA qh] at L;have hm:=s.mark;obtain ⟨_,_,v,f,b⟩:=L.pb;obtain ⟨c0,c1,O,f0⟩:=aw f;obtain ⟨r0,r1,g1,g0⟩:=aw L.res;obtain ⟨ao,m,j,rfl⟩:∃ ao m j,v=.slice ao m j:=by
    rcases b.2 with ⟨rfl,_⟩|⟨g,cap,cur,rfl,_⟩
    . exact ⟨_,_,_,rfl⟩
    . exact ⟨_,_,_,rfl⟩
   have t:=a5 L hm b k7;clear L hm b k7 s hY f;gi_wp2;obtain ⟨L,hm,b,k7⟩:=t.o;have k5:((Y.setCell ⟨w.heap.size+1,0,ZW⟩ (Z7 Z9 (1+((ab gone).length:Int)))).setCell ⟨w.heap.size+1,1,ZW⟩ (.slice ao m j)).heap[w.heap.size+1]?=ZV (Z4 #[Z7 Z9 (1+((ab gone).length:Int)),.slice ao m j] 214 (0,0)):=
    iR (iQ L.res)
   have z:=(V5 Y ⟨w.heap.size+1,0,ZW⟩ (Z7 Z9 (1+((ab gone).length:Int)))).trans (V5 _ ⟨w.heap.size+1,1,ZW⟩ (.slice ao m j));have kr:bW w ((Y.setCell ⟨w.heap.size+1,0,ZW⟩ (Z7 Z9 (1+((ab gone).length:Int)))).setCell ⟨w.heap.size+1,1,ZW⟩ (.slice ao m j)):=(L.below.setCell (p:=⟨w.heap.size+1,0,ZW⟩) (Nat.le_succ _) _).setCell (p:=⟨w.heap.size+1,1,ZW⟩) (Nat.le_succ _) _;have hq:((Y.setCell ⟨w.heap.size+1,0,ZW⟩ (Z7 Z9 (1+((ab gone).length:Int)))).setCell ⟨w.heap.size+1,1,ZW⟩ (.slice ao m j)).ownsRow (w.heap.size+3) 290 4 (.slice ao m j) (fO C gone kept).length (eC .u8 (fO C gone kept)):=
    (b.kept (dz Y (w.heap.size+1) 0 _) (.inr λe=>by have:=jM b e;omega)).kept (dz _ (w.heap.size+1) 1 _) (.inr λe=>by have:=jM b e;omega)
   have k8:=z.same M _ k7 rfl;have ke:=z.same D _ hm rfl;have kb:D≠M:=(by have:=y.out;omega);have q0:=(TX.1 k8).1;have qd:=(TX.1 ke).1;have kj:M≠w.heap.size+1:=(by have:=y.out;omega);generalize ((Y.setCell ⟨w.heap.size+1,0,ZW⟩ (Z7 Z9 (1+((ab gone).length:Int)))).setCell ⟨w.heap.size+1,1,ZW⟩ (.slice ao m j))=Z at k5 kr hq k8 ke q0 qd ⊢;have hn:(Z.putObj M (.deferred ZW)).heap[D]?=ZV (.deferred (ZV [])):=(US kb).trans ke;refine ⟨by simp,.inl ⟨_,_,rfl,Wu k8,by simp,.inl ⟨_,_,rfl,Wu hn,?_⟩⟩⟩;have qg:((Z.putObj M (.deferred ZW)).putObj D (.deferred ZW)).heap[w.heap.size+1]?=ZV (Z4 #[Z7 Z9 (1+((ab gone).length:Int)),.slice ao m j] 214 (0,0)):=((US (by omega)).trans (US (Vq kj))).trans k5;have kg:=Xe Z M (.deferred ZW);have kh:=Xe (Z.putObj M (.deferred ZW)) D (.deferred ZW);have q1:∀ (U:ZS) (d:Nat),U.heap[d]?=ZV (.deferred (ZV []))->U.ownsRow (w.heap.size+3) 290 4 (.slice ao m j) (fO C gone kept).length (eC .u8 (fO C gone kept))->(Value.slice ao m j).ownBlock≠ZV d:=by
    intro U d hd hU e;rcases hU.2 with ⟨e1,_⟩|⟨g,cap,cur,e1,_,kx,_⟩
    . cases e1;cases e
    . cases e1;obtain rfl:g=d:=(by simpa [Value.ownBlock] using e);rw [hd] at kx;cases kx
   have k0:=hq.kept kg (.inr (q1 _ _ k8 hq));have kk:=k0.kept kh (.inr (q1 _ _ hn k0));exact ⟨_,V4 results207 _ _ (w.heap.size+1) 214 #[Z7 Z9 (1+((ab gone).length:Int)),.slice ao m j] (0,0) _ rfl qg underlying214 rfl I3,_,rfl,Below.RR (Below.RR kr (by have:=y.out;omega) q0 _) (by omega) (TX.1 hn).1 _,ga kk (by omega)⟩
  case stop2=>
   rintro D c pre X _ _ G;exact G.elim
 case stop=>
  rintro D c pre X _ _ G;exact G.elim
end
structure CI (w:ZS) (D L G:Int) (X:ZS):Prop where
 par:X.heap[w.heap.size]?=ZV (Z4 #[Z7 Z9 D,Z7 Z9 L,Z7 Z9 G] 27 (0,0))
 res:X.heap[w.heap.size+1]?=ZV (Z4 #[Z7 Z9 0,Z5 ZW 0 0] 214 (0,0))
 below:bW w X
def CI.mono {D L G:Int} (h:CI w D L G X) (a:ZQ B X Y) (b:w.heap.size+2<=B):CI w D L G Y:=
 ⟨(a.block _ (by omega)).trans h.par,(a.block _ (by omega)).trans h.res,h.below.trans (a.mono (by omega))⟩
def CI.new (w:ZS) (D L G:Int):CI w D L G ((w.alloc (Z4 #[Z7 Z9 D,Z7 Z9 L,Z7 Z9 G] 27)).alloc (Z4 #[Z7 Z9 0,Z5 ZW 0 0] 214)):=by
 refine ⟨?_,?_,(bA w _).alloc (by simp) _⟩
 . rw [Wc _ _ _ (by simp)];exact X3 _ _
 . have:=X3 (w.alloc (Z4 #[Z7 Z9 D,Z7 Z9 L,Z7 Z9 G] 27)) (Z4 #[Z7 Z9 0,Z5 ZW 0 0] 214);rwa [Uq] at this
def Q2 (n:Nat):Nat:=2^n-1
def Mf (lost n:Nat) (hl:lost<18446744073709551616) (a:n<=16):bits .and .u64 (lost:Int) (Q2 n:Int)=((aq n lost:Nat):Int):=by
 have:=jJ a;have:0<2^n:=Vz n;exact fC lost (2^n-1) hl (by omega)
def Mg (lost n:Nat) (a:n<=16):bits .andNot .u64 (Q2 n:Int) ((aq n lost:Nat):Int)=((bC n lost:Nat):Int):=by
 have:=jJ a;have:=oN lost a;exact YC (2^n-1) (aq n lost) (by omega) (by omega)
def Q3 (D L G lost:Nat) (w:ZS) (e:ZO) (w':ZS):Prop:=
 bW w w'/\((tells (jL D L G) (ab (aq (D+L+G) lost))=ZW/\e=Z3 (ZY #[.agg #[Z7 Z9 0,Z5 ZW 0 0],.iface 66 (Z7 Z9 3)])) \/
  (∃ C v,tells (jL D L G) (ab (aq (D+L+G) lost))=ZV C/\e=Z3 (ZY #[.agg #[Z7 Z9 (1+((ab (aq (D+L+G) lost)).length:Int)),v],.nilIface]) /\
   w'.ownsRow w.heap.size 290 4 v (fO (aP 8 C (bC (D+L+G) lost)).1 (aq (D+L+G) lost) (bC (D+L+G) lost)).length (eC .u8 (fO (aP 8 C (bC (D+L+G) lost)).1 (aq (D+L+G) lost) (bC (D+L+G) lost)))))
def Mh {z:Int} (k:Nat) (a:k<=16) (b:z=(k:Int)) (w:ZS) :
 ZP ZL 111 #[Z7 Z9 z] w λe w'=>e=Z3 (Z7 Z8 (Q2 k:Int))/\w'=w:=by subst b;exact mu k a w
theorem wD (D L G lost:Nat) (hr:de D L G=ZU) (kb:1<=D) (hD:D<=12) (hL:1<=L) (U:L<=4) (hG:G<=4) (hs:D%L=0) (c:D+L+G<=16) (hl:lost<18446744073709551616) (w:ZS) (E:aG w) (h2:3<=w.heap.size) :
 ZP ZL 194 #[.agg #[Z7 Z9 D,Z7 Z9 L,Z7 Z9 G],Z7 Z8 lost] w λe w'=>Q3 D L G lost w e w':=by
 have h:=CI.new w D L G;have j:((w.alloc (Z4 #[Z7 Z9 (D:Int),Z7 Z9 (L:Int),Z7 Z9 (G:Int)] 27)).alloc (Z4 #[Z7 Z9 0,Z5 ZW 0 0] 214)).heap.size=w.heap.size+2:=by simp
 obtain ⟨p0,p1,p2⟩:=ft h.par;have K:=al h j;clear h j;go_enter func194,ntmps194;go_wp2_with fail;refine (pG D L G _).mono ?_;rintro e w1 ⟨rfl,q⟩;obtain ⟨h,j⟩:=K.o;try change ZQ _ _ _ at q
 rw [j] at q;have kc:=q.size;try change ZQ _ _ _ at kc
 rw [j] at kc;have A:=h.mono q lR;obtain ⟨p0,p1,p2⟩:=ft A.par;have M:=ak A;clear K h j q A;go_wp2_with fail;refine (dL D L G _ (by omega) (by omega) (by omega)).mono ?_;rintro e w2 ⟨rfl,F⟩;have kh:=F.size;have B:=M.o.mono F (by omega);obtain ⟨p0,p1,p2⟩:=ft B.par;have r:=ak B;clear B F M;go_wp2_with fail;refine (Mh (D+L+G) c (by omega) w2).mono ?_;rintro e J ⟨rfl,hx⟩;subst hx;have kf:=Mf lost (D+L+G) hl c;go_wp2_with fail;refine (lg D L G (aq (D+L+G) lost) hr kb hD hL U hG hs c (oN lost c) J (E.mono (by omega) r.o.below) (by omega)).mono ?_;rintro e a ⟨x,hg⟩;have ki:=x.size;have t:=r.o.mono x (by omega);have hz:=zeroCk;rcases hg with ⟨y,rfl⟩|⟨C,u,rfl⟩
 . have S:=b8 dO;have n:bW a ((a.alloc (Z4 (aV dO) 329)).setRow a.heap.size (aV dO)):=(bA _ _).grown (aM _ _ _) (by simp) (λk e=>by cases e;exact TV _);have d:=t.mono n (by omega);obtain ⟨r0,r1,g1,g0⟩:=aw d.res;have b:=al d y;clear t d x n r y;go_wp2_with (refine Wv rfl 329 (Z0 8) (Z0 25) rfl a.heap.size (aV dO) rfl rfl 329 (aV dO) (aD.new a dO).heap (dV _) rfl (mx _) ?_);obtain ⟨R,y⟩:=b.o;have z:=iR (y':=Z5 ZW 0 0) (iQ (x':=Z7 Z9 0) R.res);obtain ⟨n0,I,_⟩:=aw z;refine Ur (v:=ZY #[.agg #[Z7 Z9 0,Z5 ZW 0 0],.iface 66 (Z7 Z9 3)]) (by simp [results,results194,go_sem,n0,I]) rfl ?_;exact ⟨(R.below.setCell (p:=⟨w.heap.size+1,0,ZW⟩) (by show w.heap.size<=w.heap.size+1;omega) _).setCell (p:=⟨w.heap.size+1,1,ZW⟩) (by show w.heap.size<=w.heap.size+1;omega) _,.inl ⟨y,rfl⟩⟩
 . have s:=(oP hD hG u).1;have Q:=zZ hD U hG u;have O:eF (aP 8 C (bC (D+L+G) lost)).1:=⟨s.byt,s.le,by have:=s.Sd;omega⟩;have kg:=Mg lost (D+L+G) c;have S:=b8 C;have n:bW a ((a.alloc (Z4 (aV dO) 329)).setRow a.heap.size (aV C)):=(bA _ _).grown (aM _ _ _) (by simp) (λk e=>by cases e;exact TV _);have X:aD ((a.alloc (Z4 (aV dO) 329)).setRow a.heap.size (aV C)) a.heap.size C:=(aD.new a dO).setRow C;have d:=t.mono n (by omega);have ka:((a.alloc (Z4 (aV dO) 329)).setRow a.heap.size (aV C)).heap.size=a.heap.size+1:=(by simp [World.setRow]);have V:=E.mono (by omega) d.below;have b:=a6 d X ka V u;have N:=al Q O;clear t d x n X ka V r u s Q O;go_wp2_with (first
    | refine Wv rfl 329 (Z0 8) (Z0 25) rfl a.heap.size (aV C) rfl rfl 329 (aV dO) (aD.new a dO).heap (dV _) (by rw [b8,b8]) (mx _) ?_
    | refine abl rfl 329 (Z0 8) rfl a.heap.size rfl 329 (aV C) (0,0) _ b.o.2.1.heap XQ rfl (dV _) ?_)
   obtain ⟨w5,Z⟩:=nM ((a.alloc (Z4 (aV dO) 329)).setRow a.heap.size (aV C));rw [Z] at b ⊢;clear Z S hz;refine (ES C (bC (D+L+G) lost) w5 N.o.1 (Ct lost c) b.o.2.2.2.1 (by have:=b.o.2.2.1;omega)).mono ?_;rintro e w7 ⟨rfl,H⟩;have kj:=H.size;have Y:=b.o.1.mono H (by have:=b.o.2.2.1;omega);have ke:a.heap.size+1<=w7.heap.size:=(by have:=b.o.2.2.1;omega);have T:=ak Y;clear Y H;go_wp2_with fail;refine (I4 (aP 8 C (bC (D+L+G) lost)).1 (aq (D+L+G) lost) (bC (D+L+G) lost) w7 N.o.2 (oN lost c) (Ct lost c) (E.mono (by omega) T.out.below) (by omega)).mono ?_;rintro e w8 ⟨v,rfl,W,l⟩;obtain ⟨ao,m,f,rfl⟩:∃ ao m f,v=.slice ao m f:=by
    rcases l.2 with ⟨rfl,_⟩|⟨g,cap,cur,rfl,_⟩
    . exact ⟨_,_,_,rfl⟩
    . exact ⟨_,_,_,rfl⟩
   have i:=T.out.mono W (by omega);obtain ⟨r0,r1,g1,g0⟩:=aw i.res;have H8:=al i l;clear i l W;go_wp2;obtain ⟨i,l⟩:=H8.o;have z:=iR (y':=.slice ao m f) (iQ (x':=Z7 Z9 (1+((ab (aq (D+L+G) lost)).length:Int))) i.res);obtain ⟨n0,I,_⟩:=aw z;have P:(Value.slice ao m f).ownBlock≠ZV (w.heap.size+1):=λe=>by have:=jM l e;omega
   have hv:=(l.kept (dz w8 (w.heap.size+1) 0 (Z7 Z9 (1+((ab (aq (D+L+G) lost)).length:Int)))) (.inr P)).kept (dz _ (w.heap.size+1) 1 (.slice ao m f)) (.inr P);refine Ur (v:=ZY #[.agg #[Z7 Z9 (1+((ab (aq (D+L+G) lost)).length:Int)),.slice ao m f],.nilIface]) (by simp [results,results194,go_sem,n0,I]) rfl ?_;exact ⟨(i.below.setCell (p:=⟨w.heap.size+1,0,ZW⟩) (by show w.heap.size<=w.heap.size+1;omega) _).setCell (p:=⟨w.heap.size+1,1,ZW⟩) (by show w.heap.size<=w.heap.size+1;omega) _,.inr ⟨C,_,b.o.2.2.2.2,rfl,ga hv (by omega)⟩⟩
def bJ (D L G lost:Int) (rd:Bool):ZR:=.agg #[Z7 Z9 D,Z7 Z9 L,Z7 Z9 G,Z7 Z8 lost,Z1 rd]
def oX (e:Bool) (D L G lost:Int) (rd:Bool) (w:ZS):(Instr.checkKey e 10000 228 (bJ D L G lost rd)).run ZL w=.ok () w:=by kernel_rfl
theorem OB (D L G lost:Int) (rd:Bool) (w:ZS):(Op.equal 228 (bJ D L G lost rd) (bJ D L G lost rd)).run ZL w=.ok ZU w:=by
 unfold bJ Op.equal Op.maxDepth;go_simp
def uP {es:Array MapEntry} (h:w.heap[m]?=ZV (.map es n)):(getObj m).run ZL w=.ok (.map es n) w:=by simp [getObj,Sem.run,h]
def Mi {es:Array MapEntry} (h:w.heap[m]?=ZV (.map es n)) (o:Obj):(setObj m o).run ZL w=.ok () (w.putObj m o):=by simp [setObj,Sem.run,h,World.putObj]
def jy (w:ZS) (n:Nat) (D L G lost:Int) (rd:Bool) (regs:Int) (steps:ZR) (ne ol:ZR):Prop:=w.heap[n]?=ZV (Z4 (mX D L G lost rd regs steps ne ol) 263 (0,0))
def jy.lt {D L G:Int} {rd:Bool} {ol:ZR} (h:jy w n D L G lost rd regs steps ne ol):n<w.heap.size:=(TX.1 h).1
def jy.cells {D L G:Int} {rd:Bool} {ol:ZR} (h:jy w n D L G lost rd regs steps ne ol):w.cell? ⟨n,7,ZW⟩=ZV ne/\w.cell? ⟨n,8,ZW⟩=ZV ol/\w.frozen? ⟨n,7,ZW⟩=ZT/\w.frozen? ⟨n,8,ZW⟩=ZT:=by
 have a:w.heap[n]?=ZV (Z4 (mX D L G lost rd regs steps ne ol) 263 (0,0)):=h;simp [World.cell?,World.frozen?,a,mX]
def jy.SS {D L G:Int} {rd:Bool} {ol:ZR} (h:jy w n D L G lost rd regs steps ne ol) (x:ZR):jy (w.setCell ⟨n,7,ZW⟩ x) n D L G lost rd regs steps x ol:=ag (j:=7) h x
def jy.SO {D L G:Int} {rd:Bool} {ol:ZR} (h:jy w n D L G lost rd regs steps ne ol) (x:ZR):jy (w.setCell ⟨n,8,ZW⟩ x) n D L G lost rd regs steps ne x:=ag (j:=8) h x
def jy.keep {D L G:Int} {rd:Bool} {ol:ZR} (h:jy w n D L G lost rd regs steps ne ol) (e:w'.heap[n]?=w.heap[n]?):jy w' n D L G lost rd regs steps ne ol:=e.trans h
def fH (w:ZS) (b i j:Nat) (x y:ZR):aa (λk=>k=b) w ((w.setCell ⟨b,i,ZW⟩ x).setCell ⟨b,j,ZW⟩ y):=by
 have a:aa (λk=>k=b) w (w.setCell ⟨b,i,ZW⟩ x):=aa.setCell _ _ _ rfl;have c:aa (λk=>k=b) (w.setCell ⟨b,i,ZW⟩ x) ((w.setCell ⟨b,i,ZW⟩ x).setCell ⟨b,j,ZW⟩ y):=aa.setCell _ _ _ rfl;exact a.trans c
def aaC (w:ZS) (sb n:Nat):Prop:=jy w sb 0 0 0 0 ZT 0 (Z5 ZW 0 0) (Z6 (ZV ⟨n,0,ZW⟩)) (Z6 (ZV ⟨n,0,ZW⟩))
def fI (w:ZS) (sb:Nat) (room:Int):Prop:=w.heap[sb+1+1]?=ZV (Z4 #[Z7 Z9 room,.map (ZV (sb+1)),Z6 (ZV ⟨sb,0,ZW⟩)] 266 (0,0))
def jy.value {D L G:Int} {rd:Bool} {ol:ZR} (h:jy w n D L G lost rd regs steps ne ol):w.cell? ⟨n,5,ZW⟩=ZV (Z7 Z9 regs)/\w.cell? ⟨n,6,ZW⟩=ZV steps:=by
 have a:w.heap[n]?=ZV (Z4 (mX D L G lost rd regs steps ne ol) 263 (0,0)):=h;simp [World.cell?,a,mX]
def gd (hl:fI w sb room):w.cell? ⟨sb+1+1,0,ZW⟩=ZV (Z7 Z9 room)/\w.cell? ⟨sb+1+1,1,ZW⟩=ZV (.map (ZV (sb+1)))/\w.cell? ⟨sb+1+1,2,ZW⟩=ZV (Z6 (ZV ⟨sb,0,ZW⟩)):=by
 have a:w.heap[sb+1+1]?=_:=hl;simp [World.cell?,a]
def aa.putObj (w:ZS) (m:Nat) (o:Obj) (h:S m):aa S w (w.putObj m o):=⟨rfl,rfl,rfl,by simp [World.putObj],λk _ a=>US (λe=>a (e▸h))⟩
section
theorem Fh (s i:Nat) (g:s<65536) (f:i<16) (w:ZS):ZP ZL 205 #[Z7 Z8 s,Z7 Z9 i] w λe w'=>e=Z3 (Z1 (s.testBit i))/\w'=w:=by
 have key:(bits .and .u64 ((s:Int)/2^i) 1==1)=s.testBit i:=by
  have e:((s:Int)/2^i)=((s/2^i:Nat):Int):=by rw [X8,XJ];rfl
  have d:s/2^i<=s:=VU _ _;have b:=fC (s/2^i) 1 (by omega) (by decide);rw [e,show ((1:Int))=((1:Nat):Int) from rfl,b,Nat.and_one_is_mod,WV];by_cases c:s/2^i%2=1
  . rw [c];rfl
  . have a:s/2^i%2=0:=(by omega);rw [a];rfl
 go_enter func205,ntmps205;go_wp2;go_ret;exact ⟨by rw [<- key];rfl,rfl⟩
def OC {e s:Nat} {xs:List ZR} (b:w.ownsRow base e s v n xs):∃ ao m a,v=.slice ao m a:=by
 rcases b.2 with ⟨rfl,_⟩|⟨g,cap,cur,rfl,_⟩
 . exact ⟨_,_,_,rfl⟩
 . exact ⟨_,_,_,rfl⟩
def yL {lost:Nat} (h:lost<2^n):aq n lost=lost:=by unfold aq;rw [abS,VW h]
def GG {lost:Nat} (hD:D<=12) (hG:G<=4) (h:D+L+G<=16) (b:tells (jL D L G) (ab (aq (D+L+G) lost))=ZW):¬ iT D L G lost:=λq=>by
 obtain ⟨C,a⟩:=(EY hD hG h).1 q;rw [b] at a;cases a
theorem OD {s:Nat} (hD:D<=12) (hG:G<=4) (h16:D+L+G<=16) {K:a8} {C:Ck} (hK:tells (jL D L G) K=ZV C) (f:∀ i,i∈K↔i<D+L+G/\s.testBit i=ZU):iT D L G s:=by
 have b:=jK D L G hD hG;have e:D+(L+G)=D+L+G:=by omega
 unfold iT;rw [Cw _ _ _ h16];rcases b.told K with ⟨h,_,d⟩|⟨c,_⟩
 . have:=b.full d;rw [e] at this;have g:(λi=>i∉ab (aq (D+L+G) s))=λi=>i∉K:=funext λi=>propext (not_congr ((bO h16).trans (f i).symm));rw [g];exact this
 . have a:tells (jL D L G) K=ZW:=c;rw [hK] at a;cases a
def uQ:ZO:=Z3 (ZY #[.agg #[Z7 Z9 0,Z5 ZW 0 0],.iface 66 (Z7 Z9 3)])
def GrA (D L G lost:Nat) (w w':ZS) (z:Int) (ao:Option Addr) (m c:Nat) (er:ZR):Prop:=bW w w'/\((er=.iface 66 (Z7 Z9 3)/\z=0/\ao=ZW/\m=0/\c=0/\¬ iT D L G lost)\/(er=.nilIface/\∃ s C,(∀ i,lost.testBit i=ZU->s.testBit i=ZU)/\tells (jL D L G) (ab (aq (D+L+G) s))=ZV C/\z=1+((ab (aq (D+L+G) s)).length:Int)/\w'.ownsRow w.heap.size 290 4 (.slice ao m c) (bX D L G s C).length (eC .u8 (bX D L G s C))))
def Q4 (D L G lost:Nat) (w:ZS) (e:ZO) (w':ZS):Prop:=∃ z ao m c er,e=Z3 (ZY #[.agg #[Z7 Z9 z,.slice ao m c],er])/\GrA D L G lost w w' z ao m c er
def Q4.no {lost:Nat} (h:bW w w') (a:¬ iT D L G lost):Q4 D L G lost w uQ w':=⟨0,ZW,0,0,_,rfl,h,.inl ⟨rfl,rfl,rfl,rfl,rfl,a⟩⟩
def aaD (w:ZS) (D L G lost cb:Nat) (lv iv:ZR) (wr:ZS):Prop:=
 ∃ (k s:Nat) (C:Ck),k<=D+L+G/\lv=Z7 Z8 (s:Nat)/\iv=Z7 Z9 ((D+L+G:Nat)-1-(k:Int))/\aD wr cb C/\(∃ K,tells (jL D L G) K=ZV C/\∀ i,i∈K↔i<D+L+G/\s.testBit i=ZU)/\(∀ i,lost.testBit i=ZU->s.testBit i=ZU)/\s<2^(D+L+G)/\CI w D L G wr/\cb<wr.heap.size/\w.heap.size+2<=cb
section
variable (D L G lost:Nat) (hr:de D L G=ZU) (hD1:1<=D) (hD:D<=12) (hL:1<=L) (hL4:L<=4) (hG:G<=4) (hdiv:D%L=0) (h16:D+L+G<=16) (hl:lost<2^(D+L+G))
include hr hD1 hD hL hL4 hG hdiv h16 hl
def rB (w:ZS) (k:aG w) (g:3<=w.heap.size):ZP ZL 194 #[.agg #[Z7 Z9 D,Z7 Z9 L,Z7 Z9 G],Z7 Z8 lost] w (Q4 D L G lost w):=by
 have:lost<65536:=TZ hl (jJ h16);refine (wD D L G lost hr hD1 hD hL hL4 hG hdiv h16 (by omega) w k g).mono ?_;rintro e w1 ⟨a,f⟩;rcases f with ⟨j,rfl⟩|⟨c,v,h,rfl,b⟩
 . exact Q4.no a (GG hD hG h16 j)
 . obtain ⟨ao,m,d,rfl⟩:=OC b;exact ⟨_,ao,m,d,_,rfl,a,.inr ⟨rfl,lost,c,λi q=>q,h,rfl,b⟩⟩
theorem CY (w:ZS) (hT:aG w) (d:3<=w.heap.size):ZP ZL 193 #[.agg #[Z7 Z9 D,Z7 Z9 L,Z7 Z9 G],Z7 Z8 lost] w (Q4 D L G lost w):=by
 have kx:lost<65536:=TZ hl (jJ h16);have g:=CI.new w D L G;have r:((w.alloc (Z4 #[Z7 Z9 (D:Int),Z7 Z9 (L:Int),Z7 Z9 (G:Int)] 27)).alloc (Z4 #[Z7 Z9 0,Z5 ZW 0 0] 214)).heap.size=w.heap.size+2:=by simp
 obtain ⟨S,T,U⟩:=ft g.par;have kh:=lg D L G lost hr hD1 hD hL hL4 hG hdiv h16 kx _ (hT.mono (by omega) g.below) (TU d g.below.size);have W:=aE g r kh;clear g r kh;go_enter func193,ntmps193;go_wp2_with fail;refine W.o.2.2.mono ?_;rintro e w1 ⟨E,hx⟩;obtain ⟨g,r,_⟩:=W.o;try change ZQ _ _ _ at E
 rw [r] at E;have t:=E.size;try change ZQ _ _ _ at t
 rw [r] at t;have Y:=g.mono E lR;have hz:=zeroCk;have k7:∀ C,bW w1 ((w1.alloc (Z4 (aV dO) 329)).setRow w1.heap.size (aV C)):=λC=>(bA _ _).grown (aM _ _ _) (by simp) (λk e=>by cases e;exact TV _);rcases hx with ⟨kk,rfl⟩|⟨C,N,rfl⟩
 . have f:=Y.mono (k7 dO) t;obtain ⟨r0,r1,g1,g0⟩:=aw f.res;have x:=ak f;have kr:=ak (GG hD hG h16 (by rw [yL hl];exact kk));clear kk W g r E Y k7 f;go_wp2_with (refine Wv rfl 329 (Z0 6) (Z0 13) rfl w1.heap.size (aV dO) rfl rfl 329 (aV dO) (aD.new w1 dO).heap (dV _) rfl (mx _) ?_);obtain ⟨n0,n1,_⟩:=aw (iR (y':=Z5 ZW 0 0) (iQ (x':=Z7 Z9 0) x.o.res));refine Ur (v:=ZY #[.agg #[Z7 Z9 0,Z5 ZW 0 0],.iface 66 (Z7 Z9 3)]) (by simp [results,results193,go_sem,n0,n1]) rfl (Q4.no ?_ kr.out);exact (x.o.below.setCell (p:=⟨w.heap.size+1,0,ZW⟩) (by show w.heap.size<=w.heap.size+1;omega) _).setCell (p:=⟨w.heap.size+1,1,ZW⟩) (by show w.heap.size<=w.heap.size+1;omega) _
 have B:aD ((w1.alloc (Z4 (aV dO) 329)).setRow w1.heap.size (aV C)) w1.heap.size C:=(aD.new w1 dO).setRow C;have f:=Y.mono (k7 C) t;obtain ⟨S,T,U⟩:=ft f.par;have x:=a5 B f t N;clear W g r E Y k7 B f N;go_wp2_with (refine Wv rfl 329 (Z0 6) (Z0 13) rfl w1.heap.size (aV C) rfl rfl 329 (aV dO) (aD.new w1 dO).heap (dV _) rfl (mx _) ?_);obtain ⟨w5,ko⟩:=nM ((w1.alloc (Z4 (aV dO) 329)).setRow w1.heap.size (aV C));rw [ko] at x S T U ⊢;clear ko hz;refine (dL D L G _ (by omega) (by omega) (by omega)).mono ?_;rintro e w6 ⟨rfl,k8⟩;obtain ⟨B,f,t,N⟩:=x.o;have l:=(TX.1 B.heap).1;have he:aaD w D L G lost w1.heap.size (Z7 Z8 (lost:Nat)) (Z7 Z9 ((D:Int)+L+G-1)) w6:=⟨0,lost,C,T5 _,rfl,by congr 1;omega,B.keep (k8.block _ l),⟨_,N,λi=>by have:=bO (lost:=lost) (i:=i) h16;rwa [yL hl] at this⟩,λ_ q=>q,hl,f.mono k8 (by omega),TZ l k8.size,t⟩;have kf:=ak he;clear S T U B f l k8 he x N;go_wp2;go_loopw [1,8] (λlv iv wr=>aaD w D L G lost w1.heap.size lv iv wr) (λ_ iv _=>(intOf iv+1).toNat)
 case atStart=>exact kf.out
 case round=>
  clear kf;rename ZS=>wo;obtain ⟨k,s,C1,hk,rfl,rfl,k9,⟨K,hK⟩,A,R,a,l,kg⟩:=hrel;have kz:s<65536:=TZ R (jJ h16);by_cases kj:k<D+L+G
  . obtain ⟨i,hi⟩:∃ i,i=D+L+G-1-k:=⟨_,rfl⟩;have P:((D+L+G:Nat):Int)-1-(k:Int)=(i:Int):=(by omega);rw [P];have q4:=uj w1.heap.size i C1 wo k9 (zZ hD hL4 hG hK.1) (by omega);have kc:i<16:=(by omega);have HN:=hide7 a k9 l kg A R hK;have b:=aE hi kj P;clear a k9 l kg P hi kj A R hK;go_wp2_with fail;refine (Fh s i kz kc wo).mono ?_;rintro e w2 ⟨rfl,q5⟩;subst q5;cases hb:s.testBit i with
    | true=>
     go_wp2;go_roundw
     case rel=>
      obtain ⟨d,X,F,I,J,M,y⟩:=HN.o;exact ⟨k+1,s,C1,by have:=b.o;omega,rfl,by have:=b.o;congr 1;omega,X,⟨K,y⟩,J,M,d,F,I⟩
     case measure=>have:=b.o;simp [intOf]<;>omega
    | false=>
     go_wp2_with fail;refine q4.mono ?_;rintro e w3 (⟨q8,rfl,q6⟩|⟨C',ka,rfl,k6,n⟩)
     . subst q6;go_wp2;go_roundw
       case rel=>
        obtain ⟨d,X,F,I,J,M,y⟩:=HN.o;exact ⟨k+1,s,C1,by have:=b.o;omega,rfl,by have:=b.o;congr 1;omega,X,⟨K,y⟩,J,M,d,F,I⟩
       case measure=>have:=b.o;simp [intOf]<;>omega
     . have H3:=aE ka k6 n;clear ka k6 n;go_wp2_with fail;refine (lD s i (by omega) (by omega) w3).mono ?_;rintro e w4 ⟨rfl,q7⟩;subst q7;go_wp2;go_roundw
       case rel=>
        obtain ⟨d,X,F,I,J,M,y⟩:=HN.o;obtain ⟨ka,k6,n⟩:=H3.o;have ky:=d.below.size;exact ⟨k+1,s|||2^i,C',by have:=b.o;omega,rfl,by have:=b.o;congr 1;omega,k6,⟨K++[i],by rw [jX,y.1];exact ka,λj=>by rw [Uj,Vp,y.2 j,Wh,XF,XH,decide_eq_true_iff];have:=b.o;constructor;rintro (⟨V,u⟩|q);exact ⟨V,.inl u⟩;exact ⟨by omega,.inr q.symm⟩;rintro ⟨V,u|u⟩;exact .inl ⟨V,u⟩;exact .inr u.symm⟩,λj q=>by rw [Wh,J j q];rfl,Xt M (V8 (by decide) (by have:=b.o;omega)),
         ⟨(n.block _ (by omega) (λe=>by have:=UJ e;omega)).trans d.par,(n.block _ (by omega) (λe=>by have:=UJ e;omega)).trans d.res,d.below.grown n ky (λq e=>by have:=UJ e;omega)⟩,TZ F n.size,I⟩
       case measure=>have:=b.o;simp [intOf]<;>omega
  . have kv:k=D+L+G:=(by omega);subst kv;have P:((D+L+G:Nat):Int)-1-((D+L+G:Nat):Int)=-1:=(by omega);rw [P];have ki:=rB D L G s hr hD1 hD hL hL4 hG hdiv h16 R wo (hT.mono (by omega) a.below) (TU d a.below.size);obtain ⟨S,T,U⟩:=ft a.par;have H:=aE A ki a;have ks:=ak (OD hD hG h16 hK.1 hK.2);clear ki a k9 l A hK R;go_wp2_with fail;refine H.o.2.1.mono ?_;rintro e w3 ⟨z,ao,m,c,er,rfl,O,Z⟩;have a:=H.o.2.2;have kp:=(TX.1 a.res).1;have Q:=(O.block _ kp).trans a.res;obtain ⟨r0,r1,g1,g0⟩:=aw Q;have H3:=a5 Z O Q kp;clear Z O Q S T U a;go_wp2;obtain ⟨Z,O,Q,hs⟩:=H3.o;obtain ⟨n0,n1,_⟩:=aw (iR (y':=.slice ao m c) (iQ (x':=Z7 Z9 z) Q));refine Ur (v:=ZY #[.agg #[Z7 Z9 z,.slice ao m c],er]) (by simp [results,results193,go_sem,n0,n1]) rfl ?_;obtain ⟨A,_,a⟩:=H.o;have kb:bW w w3:=a.below.trans (O.mono a.below.size);refine ⟨z,ao,m,c,er,rfl,(kb.setCell (p:=⟨w.heap.size+1,0,ZW⟩) (by show w.heap.size<=w.heap.size+1;omega) _).setCell (p:=⟨w.heap.size+1,1,ZW⟩) (by show w.heap.size<=w.heap.size+1;omega) _,?_⟩;rcases Z with q|⟨q0,s',C,V,u,q3,km⟩
    . exact absurd ks.out q.2.2.2.2.2
    . have hp:(Value.slice ao m c).ownBlock≠ZV (w.heap.size+1):=λe=>by have:=jM km e;omega
      have ke:=(km.kept (dz w3 (w.heap.size+1) 0 (Z7 Z9 z)) (.inr hp)).kept (dz _ (w.heap.size+1) 1 (.slice ao m c)) (.inr hp);exact .inr ⟨q0,s',C,λi h=>V i (A i h),u,q3,ga ke (by have:=a.below.size;omega)⟩
end
end
def Fi (k n:Nat):eV (k+1) n=eV k n++[YE n 0]:=by
 unfold eV;rw [List.replicate_succ']
def MkR (w:ZS) (B g r n:Nat) (i:ZR) (wr:ZS):Prop:=
 ∃ k T,k<=r/\i=Z7 Z9 (k:Nat)/\oH wr B g r T/\cO T n (eV k n)/\ZQ B w wr/\B<=wr.heap.size
def Q5 (r n:Nat) (w:ZS) (e:ZO) (w':ZS):Prop:=∃ g T,e=Z3 (Z5 (ZV ⟨g,0,ZW⟩) r r)/\ez w' w.heap.size (Z5 (ZV ⟨g,0,ZW⟩) r r) T/\cO T n (eV r n)/\bW w w'
def qH {M:List a8} (h:cO T D M):T.length=M.length:=by simpa using Uy YL h
theorem Ar (r n:Nat) (w:ZS) (hr:r<=32) (M:n<=4096) :
 ZP ZL 175 #[Z7 Z9 r,Z7 Z9 n] w λe w'=>Q5 r n w e w':=by
 go_enter func175,ntmps175;go_wp2_with (at_make;refine m3 _ rfl (Z0 7) (Z0 7) rfl _ r rfl rfl rfl (by omega) ?_;intro wc j f H;clear H);have m:oH wc w.heap.size w.heap.size r []:=⟨j.congr (λi _=>by simp [shv]),λp h=>by simp at h,by simp⟩;have v:=f.size;clear j;go_loopw [11] (λi wr=>MkR w w.heap.size w.heap.size r n i wr) (λi _=>r-(intOf i).toNat)
 case atStart=>exact ⟨0,[],T5 _,rfl,m,rfl,f,v⟩
 case round=>
  clear m f v;rename ZS=>wo;obtain ⟨k,T,L,rfl,g,a,u,F⟩:=hrel;have s:=qH a;have B:T.length=k:=by rw [s];simp [eV]
  by_cases E:k<r
  . have c:=ak a;clear a s
    go_wp2_with (at_make;refine cQ _ rfl (Z0 16) (Z0 16) rfl _ n rfl rfl rfl (by omega) ?_;intro w2 C t K
                 have d:=g.below t;have I:=d.tab.cell (i:=k) E;have J:=d.tab.frozen k)
    have q:=d.push (b:=wo.heap.size) (n:=n) (l:=YE n 0) (by omega) C (by simp) (by simp;omega) (by intro x G;have:=VJ G;omega) (λp h e=>by have:=(g.row p h).2.1.lt;omega);rw [B,XX] at q;refine ⟨⟨k+1,_,by omega,by go_num,q,?_,(u.trans (t.mono F)).setCell (by simp) _,by simp;omega⟩,by simp [intOf];omega⟩;have z:=c.o;unfold cO at z ⊢;rw [Fi,Uv,Uv,z];rfl
  . have D:k=r:=(by omega);subst D;have y:=g.done (by omega) lR (by unfold maxLen;omega);have A:=ak y;have c:=ak a;clear y a;go_wp2;go_ret;exact ⟨_,T,rfl,A.o,c.o,u⟩
def Mj (w:ZS) (f:ZN) (g n cap:Nat) (old src:a8) (ao:Option Addr) (c:Nat) (d:aI w g old) (B:Bs w (.slice ao src.length c) src) (D:src.length=n) (ho:old.length=n) :
 ∃ w',(Builtin.copy_ #[39,39] f #[Z5 (ZV ⟨g,0,ZW⟩) n cap,.slice ao src.length c]).run ZL w=.ok (Z7 Z9 (n:Nat)) w'/\aI w' g src/\w.grownBy w' (ZV g):=by
 subst D;have o:(ZL.info? 5).map (λi=>i.size)=ZV 1:=by kernel_rfl
 by_cases a:src.length=0
 . have A:src=[]:=UX a;have z:old=[]:=UX (by omega);subst A z;exact ⟨w,run_copy_none (P:=ZL) w 39 39 f 5 (ZV ⟨g,0,ZW⟩) ao 0 cap 0 c Ul o (by simp),d,Ws _ _⟩
 . obtain ⟨s,E,e,_,_,G,u⟩:=B;simp at e;obtain ⟨b,off,h,C⟩:=u (by intro e;rw [e] at a;simp at a);rw [<- e.1] at h;subst h;have l:=run_copy_row (P:=ZL) w 39 39 f 5 g 0 src.length cap ⟨b,off,ZW⟩ src.length c _ 5 (bv src) Ul o d.heap (by simp [bv]) (λj v p=>by
    have m:j<src.length:=by
     obtain ⟨q,_⟩:=Va.1 p;simpa [bv] using q
    rw [Vr,C j m,<- p];simp [bv,m]) (by simp [bv];omega) (by intro v r;simp [bv] at r;obtain ⟨x,_,rfl⟩:=r;rfl)
   have t:(List.take 0 (List.map (λx=>Value.int .u8 ((x:Nat):Int)) old).toArray.toList++bv src++List.drop (0+(bv src).length) (List.map (λx=>Value.int .u8 ((x:Nat):Int)) old).toArray.toList)=src.map (λx=>Value.int .u8 ((x:Nat):Int)):=by
    simp [bv];omega
   rw [t] at l;refine ⟨w.setRow g (src.map (λx=>Value.int .u8 ((x:Nat):Int))).toArray,by rw [l];simp [bv,goInt],?_,?_⟩
   . exact aI.of_heap (Vv w g (old.map (λx=>Value.int .u8 ((x:Nat):Int))).toArray (src.map (λx=>Value.int .u8 ((x:Nat):Int))).toArray 5 _ d.heap)
   . refine ⟨rfl,rfl,rfl,by simp [World.setRow],λk F y=>setRow_other w g k _ (λe=>y (by rw [e]))⟩
def I5 {K:Act->ZS->Prop} (b:o.guard=ZW) (d s:ZM) (ho:o.op=.call { callee:=.builtin .copy,args:=#[d,s],argTypes:=#[39,39] })
 (vd vs v':ZR) (hd:a.eval d=vd) (hs:a.eval s=vs) (h0:(Builtin.copy_ #[39,39] o.type #[vd,vs]).run ZL w=.ok v' w') (h:K (a.put o.dst v') w'):if Region.wanted o (yielded ops a.tmps)=ZU then Oper.wp ZL o a w K Q else E:=by
 rw [TT (by simp [Region.wanted,b])];unfold Oper.wp;simp [execOp,ho,resolve,invoke,builtin,hd,hs,h0,Result.andThen];exact h
def As {xs:List ZR} (h:w.ownsRow base 256 2 v n xs) {b:Nat} {l:a8} (i:aI w b l):v.ownBlock≠ZV b:=by
 intro e;rcases h.2 with ⟨f,_⟩|⟨g,cap,cur,d,k,a,_⟩
 . rw [f] at e;simp [Value.ownBlock] at e
 . rw [d] at e;simp [Value.ownBlock] at e;subst e;obtain ⟨c,j,_⟩:=i;rw [j] at a;simp at a
def mO.aside {O:List (Int×Nat×Nat×a8)} (h:mO 256 w base v O) (j:aI w b l) (f:w.grownBy w' (ZV b)) (i:∀ q∈O,q.2.1≠b):mO 256 w' base v O:=
 ⟨h.own.kept f (.inr (As h.own j)),λq g=>by
  obtain ⟨a,c,d⟩:=h.row q g;exact ⟨a,c.grown f (by intro e;simp at e;exact i q g e),d⟩,h.nodup⟩
def I6 {R:List a8} (h:cO T n R) (i:Nat) (b:i<T.length) (l:a8):cO (T.set i (T[i].1,T[i].2.1,l)) n (R.set i l):=by
 have:=qH h;have a:=h.at b (by omega);unfold cO at *;rw [List.map_set,List.map_set,h,a]
section
def uR (x y:a8) (c:Nat):(iI x y c).length=x.length:=by simp [iI]
def I7 {x y:a8} (e:∀ a∈x,a<256) (d:c<256):∀ a∈iI x y c,a<256:=by
 intro a b;simp only [iI,T7,Uu] at b;obtain ⟨j,_,rfl⟩:=b;exact V7 (n:=8) (dw e j) (bx _ d)
theorem At (b d n c:Nat) (x y:a8) (w:ZS) (p:c<256) (q:aI w b x) (r:aI w d y) (f:x.length=n) (s:y.length=n) (l:d≠b) (m:∀ a∈x,a<256) (o:∀ a∈y,a<256) (v:n<=100000) :
 ZP ZL 176 #[Z5 (ZV ⟨b,0,ZW⟩) n n,Z5 (ZV ⟨d,0,ZW⟩) n n,Z7 .u8 c] w λe w'=>e=Z3 (ZY #[])/\aI w' b (iI x y c)/\w.grownBy w' (ZV b):=by
 have hr:w.rowIs b 5 n (tv (λi=>x.getD i 0)):=by
  have:=q;unfold aI at this;rw [f] at this;exact this
 refine (jm b 5 n 0 n n d 0 n c (λi=>x.getD i 0) (λi=>y.getD i 0) w p hr (λj=>dw m j) (λj=>dw o j) (by omega) (by omega) (λi t=>by rw [Ui];exact r.cell i (by omega)) (.inl l)).mono ?_;rintro e w' ⟨rfl,g,h⟩;refine ⟨rfl,?_,h⟩;unfold aI;rw [uR,f];refine g.congr λj u=>?_;have k:j<x.length:=by omega
 unfold tv vb gS iI;rw [TT (by omega)];simp [k]
structure Rn (w0:ZS) (B:Nat) (P:List St) (D R0:List a8) (n r gR k:Nat) (vO:ZR) (T:List (Nat×Nat×a8)) (O:List (Int×Nat×Nat×a8)) (wr:ZS):Prop where
 tab:ez wr B (Z5 (ZV ⟨gR,0,ZW⟩) r r) T
 hold:cO T n (bT P D R0 k)
 len:∀ l∈bT P D R0 k,l.length=n
 outs:mO 256 wr B vO O
 vals:O.map (λq=>(q.1,q.2.2.2.take q.2.2.1))=dB P D R0 k
 apart:∀ p∈T,∀ q∈O,p.1≠q.2.1
 below:ZQ B w0 wr
 size:B<=wr.heap.size
variable {w0:ZS} {B:Nat} {P:List St} {D R0:List a8} {n r gR k:Nat} {vO:ZR} {T:List (Nat×Nat×a8)} {O:List (Int×Nat×Nat×a8)} {w:ZS}
def Rn.next (h:Rn w0 B P D R0 n r gR k vO T O w) {w':ZS} (a:bW w w'):Rn w0 B P D R0 n r gR k vO T O w':=
 ⟨h.tab.below a,h.hold,h.len,h.outs.below a,h.vals,h.apart,h.below.trans (a.mono h.size),TU h.size a.size⟩
def Rn.tlen (h:Rn w0 B P D R0 n r gR k vO T O w):T.length=r:=by
 rcases h.tab.shape with ⟨e,_⟩|⟨g,cap,e,_⟩
 . simp at e
 . simp at e;omega
def Rn.reg (h:Rn w0 B P D R0 n r gR k vO T O w) (A:Nat) (C:A<r):∃ g,(∃ a:A<T.length,T[A]=(g,n,(bT P D R0 k).getD A []))/\w.cell? ⟨gR,A,ZW⟩=ZV (Z5 (ZV ⟨g,0,ZW⟩) n n)/\aI w g ((bT P D R0 k).getD A [])/\((bT P D R0 k).getD A []).length=n/\(∀ x∈(bT P D R0 k).getD A [],x<256)/\g≠gR/\B<=g/\g<w.heap.size/\gR<w.heap.size/\B<=gR:=by
 have:=h.tlen;have a:A<T.length:=by omega
 have:=qH h.hold;have c:A<(bT P D R0 k).length:=by omega
 have d:=h.hold.at a c;have o:(bT P D R0 k).getD A []=(bT P D R0 k)[A]:=by simp [c]
 have l:=h.len _ (TY c);obtain ⟨m,b,y,z,i⟩:=h.tab.row _ (TY a);rw [o];have p:T[A]=(T[A].1,n,(bT P D R0 k)[A]):=by rw [<- d]
 have j:T[A].2.2=(bT P D R0 k)[A]:=by rw [d]
 have q:T[A].2.1=n:=by rw [d]
 rcases h.tab.shape with ⟨e,_⟩|⟨g,cap,e,v,_,_,s,u,_,t⟩
 . simp at e
 . simp at e;obtain ⟨rfl,_⟩:=e;have f:=u A a;unfold fP at f;rw [j,q,l] at f;rw [j] at b i;exact ⟨T[A].1,⟨a,p⟩,f,b,l,i,t _ (TY a),m,b.lt,s,v⟩
def Rn.write (h:Rn w0 B P D R0 n r gR k vO T O w) {w':ZS} {A g:Nat} {l0 src:a8} (s:∃ s:A<T.length,T[A]=(g,n,l0)) (z:l0.length=n) (b:w.grownBy w' (ZV g)) (v:aI w' g src) (hl:src.length=n) (y:∀ x∈src,x<256)
 (hr:bT P D R0 (k+1)=(bT P D R0 k).set A src) (ho:dB P D R0 (k+1)=dB P D R0 k):∃ T',Rn w0 B P D R0 n r gR (k+1) vO T' O w':=by
 obtain ⟨f,e⟩:=s;have d:=TY f;obtain ⟨m,o,_⟩:=h.tab.row _ d;have a:T[A].1=g:=by rw [e]
 have u:T[A].2.2=l0:=by rw [e]
 rw [a] at m o;refine ⟨T.set A (T[A].1,T[A].2.1,src),?_,?_,?_,?_,?_,?_,?_,?_⟩
 . exact h.tab.wrote f (by rw [a];exact b) (by rw [a];exact v) (by rw [u];omega) y
 . rw [hr];exact I6 h.hold A f src
 . rw [hr];intro l i;rcases Yb i with i|rfl
   . exact h.len l i
   . exact hl
 . exact h.outs.aside o b (λq c t=>h.apart _ d q c (by rw [a,t]))
 . rw [ho];exact h.vals
 . intro p j q c;rcases Yb j with j|rfl
   . exact h.apart p j q c
   . exact h.apart _ d q c
 . exact gx h.below b h.size m
 . exact TU h.size b.size
def Rn.reg_ne (h:Rn w0 B P D R0 n r gR k vO T O w) {A X g g':Nat} {l o:a8} (c:∃ c:A<T.length,T[A]=(g,n,l)) (a:∃ c:X<T.length,T[X]=(g',n,o)) (m:A≠X):g'≠g:=by
 obtain ⟨d,e⟩:=c;obtain ⟨a,j⟩:=a;have f:=V0.1 h.tab.nodup;intro q;have i:T[A].1=T[X].1:=by rw [e,j];exact q.symm
 rcases Ys m with b|b
 . exact f A X (by simpa using d) (by simpa using a) b (by simpa using i)
 . exact f X A (by simpa using a) (by simpa using d) b (by simpa using i.symm)
def uS {B':Nat} {xs ys:List ZR} {vO:ZR} (h:w.ownsRow B 39 1 (Z5 (ZV ⟨g,0,ZW⟩) c m) n xs) {n':Nat} (l:w.ownsRow B' 256 2 vO n' ys):vO.ownBlock≠ZV g:=by
 intro e;rcases h.2 with ⟨a,_⟩|⟨q,cap,cur,f,o,j,_⟩
 . simp at a
 . simp at f;obtain ⟨rfl,_⟩:=f;rcases l.2 with ⟨a,_⟩|⟨r,b,d,k,p,i,_⟩
   . rw [a] at e;simp [Value.ownBlock] at e
   . rw [k] at e;simp [Value.ownBlock] at e;subst e;rw [j] at i;simp at i
theorem yM (P:List St) (D R0:List a8):∀ k,(dB P D R0 k).length<=k
 | 0=>TV _
 | k+1=>by
  have:=yM P D R0 k;unfold dB ia;split<;>simp<;>omega
def Rn.olen (h:Rn w0 B P D R0 n r gR k vO T O w):O.length<=k:=by
 have:=Uy YL h.vals;rw [T9] at this;rw [this];exact yM P D R0 k
def Rn.put (h:Rn w0 B P D R0 n r gR k vO T O w) {w1 v:ZS} {o:Obj} {b m:Nat} {l:a8} {sh:Int} {vO':ZR} (F:bW w w1) (H:w.heap.size<=b) (C:aI w1 b (l++YE m 0)) (hl:l.length=n) (J:n<=100000) (I:n+m<=9223372036854775807) (G:∀ x∈l,x<256)
 (g:(w1.alloc o).grownBy v vO.ownBlock) (A:v.ownsRow B 256 2 vO' (O.length+1) (qt O++[Z7 Z9 sh,Z5 (ZV ⟨b,0,ZW⟩) n (n+m)]))
 (hr:bT P D R0 (k+1)=bT P D R0 k) (ho:dB P D R0 (k+1)=dB P D R0 k++[(sh,l)]):Rn w0 B P D R0 n r gR (k+1) vO' T (O++[(sh,b,n,l++YE m 0)]) v:=by
 have f:=(h.next F).next ((TW w1.heap.size w1).alloc lR o);have:=h.size;have hll:(l++YE m 0).length=n+m:=by simp [hl]
 have y:=C.alloc o;refine ⟨?_,by rw [hr];exact h.hold,by rw [hr];exact h.len,?_,?_,?_,?_,?_⟩
 . refine ⟨f.tab.own.kept g (.inr λe=>?_),λp s=>?_,f.tab.nodup⟩
   . exact uS f.tab.own f.outs.own (by rw [<- e];rfl)
   . obtain ⟨t,i,u⟩:=f.tab.row p s;exact ⟨t,i.grown g (λe=>As f.outs.own i e.symm),u⟩
 . refine ⟨?_,λq d=>?_,?_⟩
   . rw [ru];simpa [qt,fP,hll,hl] using A
   . rcases Uj.1 d with d|d
     . obtain ⟨t,i,u⟩:=f.outs.row q d;exact ⟨t,i.grown g (λe=>As f.outs.own i e.symm),u⟩
     . simp at d;subst d;refine ⟨by show B<=b;omega,y.grown g (λe=>As f.outs.own y e.symm),by show n<=(l++YE m 0).length;omega,⟨by show n<=140737488355328;omega,by show (l++YE m 0).length<=9223372036854775807;omega⟩,?_⟩;intro x j;rcases Uj.1 j with j|j
       . exact G x j
       . have:=VJ j;omega
   . rw [Uv,U9];refine ⟨h.outs.nodup,by simp,?_⟩;intro a E c z;obtain ⟨q,d,rfl⟩:=T7.1 E;simp at z;subst z;have:=(h.outs.row q d).2.1.lt;omega
 . rw [ho,Uv,h.vals];simp [<- hl]
 . intro p s q d;rcases Uj.1 d with d|d
   . exact h.apart p s q d
   . simp at d;subst d;have:=(h.tab.row p s).2.1.lt;show p.1≠b;omega
 . exact f.below.grown g f.size (λq d=>(f.outs.own.lt q d).1)
 . exact TU f.size g.size
end
def eL (x:Nat):Nat:=x/2
def fJ (x:Nat):Bool:=decide (x%2=1)
theorem GH (D L G:Int) {x y:Nat} (h:x≠y) (w:ZS):(Op.equal 228 (bJ D L G (eL x:Nat) (fJ x)) (bJ D L G (eL y:Nat) (fJ y))).run ZL w=.ok ZT w:=by
 by_cases a:eL x=eL y
 . have b:fJ x≠fJ y:=λe=>h (by
    unfold eL at a;unfold fJ at e;have:(x%2=1)↔(y%2=1):=by
     constructor
     . intro q;exact Wy (by rw [<- e];exact UZ q)
     . intro q;exact Wy (by rw [e];exact UZ q)
    omega)
   have d:(fJ x==fJ y)=ZT:=(by simp [b]);rw [a];unfold bJ Op.equal Op.maxDepth;go_simp
 . have c:(((eL x:Nat):Int)==((eL y:Nat):Int))=ZT:=by
    rw [beq_eq_false_iff_ne];omega
   unfold bJ Op.equal Op.maxDepth;go_simp
def dW (D L G:Int) (es:List (Nat×Nat×Nat)):List MapEntry:=es.map λe=>{ key:=bJ D L G (eL e.1:Nat) (fJ e.1),val:=Z6 (ZV ⟨e.2.1,0,ZW⟩),born:=e.2.2 }
def cP (es:List (Nat×Nat×Nat)):a8:=es.map (·.1)
def CZ (D L G:Int) (lost:Nat) (w:ZS):∀ (es:List (Nat×Nat×Nat)) (i:Nat),lost∉cP es->(Instr.findAsking 228 (bJ D L G (eL lost:Nat) (fJ lost)) (dW D L G es) i).run ZL w=.ok ZW w
 | [],_,_=>by simp [dW,Instr.findAsking]
 | e::es,i,h=>by
  have b:lost≠e.1:=λq=>by
   subst q;exact h (U7 ..)
  have a:=CZ D L G lost w es (i+1) (λq=>h (UP _ q));have c:=GH D L G b w;unfold dW at a ⊢;simp only [UG,Instr.findAsking,Ux,c,UM];simpa using a
def Ml (D L G:Int) (w:ZS):∀ (es:List (Nat×Nat×Nat)) (i k:Nat) (a:k<es.length),(cP es).Nodup->(Instr.findAsking 228 (bJ D L G (eL es[k].1:Nat) (fJ es[k].1)) (dW D L G es) i).run ZL w=.ok (ZV (i+k,Z6 (ZV ⟨es[k].2.1,0,ZW⟩))) w
 | [],_,_,a,_=>absurd a (by simp)
 | e::es,i,0,_,_=>by
  have b:=OB D L G (eL e.1:Nat) (fJ e.1) w;unfold dW;simp only [UG,Instr.findAsking,Ux,abZ,b,UM];simp
 | e::es,i,k+1,a,f=>by
  have c:k<es.length:=by simpa using a
  have g:es[k].1≠e.1:=λq=>(UR.1 f).1 (T7.2 ⟨es[k],TY c,q⟩);have d:=Ml D L G w es (i+1) k c (UR.1 f).2;have b:=GH D L G g w;unfold dW at d ⊢;simp only [UG,Instr.findAsking,Ux,Yg,b,UM];rw [show i+(k+1)=i+1+k by omega];simpa using d
def C3 (k:ZR) (x:MapEntry) (es:List MapEntry) (f:Array Field) (i:Nat):Instr.findNow (.struct f) k (x::es) i=ZW:=by
 simp [Instr.findNow,Instr.sameNow]
def yN (D L G:Int) {lost:Nat} {es:List (Nat×Nat×Nat)} (h:lost∉cP es) (w:ZS):(Instr.findKey 228 (bJ D L G (eL lost:Nat) (fJ lost)) (dW D L G es)).run ZL w=.ok ZW w:=by
 have a:=CZ D L G lost w es 0 h;cases es with
 | nil=>simp [dW,Instr.findKey,Instr.findNow,UO ab5]
 | cons e es=>
  unfold dW at a ⊢;simp only [UG] at a ⊢;simp only [Instr.findKey,Ux,UO ab5,UM,C3];exact a
def GJ (D L G:Int) {es:List (Nat×Nat×Nat)} {k:Nat} (b:k<es.length) (c:(cP es).Nodup) (w:ZS):(Instr.findKey 228 (bJ D L G (eL es[k].1:Nat) (fJ es[k].1)) (dW D L G es)).run ZL w=.ok (ZV (k,Z6 (ZV ⟨es[k].2.1,0,ZW⟩))) w:=by
 have a:=Ml D L G w es 0 k b c;rw [Ui] at a;cases es with
 | nil=>exact absurd b (by simp)
 | cons e es=>
  unfold dW at a ⊢;simp only [UG] at a ⊢;simp only [Instr.findKey,Ux,UO ab5,UM,C3];exact a
def Mm {D L G:Int} (h:w.heap[m]?=ZV (.map (dW D L G es).toArray n)) {lost:Nat} (hl:lost∉cP es):(Instr.lookup 264 (.map (ZV m)) (bJ D L G (eL lost:Nat) (fJ lost)) ZU).run ZL w=.ok (ZY #[.pointer ZW,Z1 ZT]) w:=by
 have a:=uP h;have b:=λe=>oX e D L G (eL lost:Nat) (fJ lost) w;have c:=yN D L G hl w;simp [Instr.lookup,UO Yp,a,b,c]
def OE {D L G:Int} (h:w.heap[m]?=ZV (.map (dW D L G es).toArray n)) {k:Nat} (d:k<es.length) (f:(cP es).Nodup):(Instr.lookup 264 (.map (ZV m)) (bJ D L G (eL es[k].1:Nat) (fJ es[k].1)) ZU).run ZL w=.ok (ZY #[Z6 (ZV ⟨es[k].2.1,0,ZW⟩),Z1 ZU]) w:=by
 have a:=uP h;have b:=λe=>oX e D L G (eL es[k].1:Nat) (fJ es[k].1) w;have c:=GJ D L G d f w;simp [Instr.lookup,UO Yp,a,b,c]
def OF {D L G:Int} (h:w.heap[m]?=ZV (.map (dW D L G es).toArray n)) {lost:Nat} (hl:lost∉cP es) (nb:Nat):(Instr.mapUpdate 264 (.map (ZV m)) (bJ D L G (eL lost:Nat) (fJ lost)) (Z6 (ZV ⟨nb,0,ZW⟩))).run ZL w=.ok () (w.putObj m (.map (dW D L G (es++[(lost,nb,n)])).toArray (n+1))):=by
 have a:=uP h;have b:=oX ZT D L G (eL lost:Nat) (fJ lost) w;have c:=yN D L G hl w;have d:(dW D L G es).toArray.push { key:=bJ D L G (eL lost:Nat) (fJ lost),val:=Z6 (ZV ⟨nb,0,ZW⟩),born:=n }=(dW D L G (es++[(lost,nb,n)])).toArray:=by simp [dW]
 simp [Instr.mapUpdate,UO Yp,a,b,c,Mi h,d]
def yO (D L G:Int):∀ (es:List (Nat×Nat×Nat)) (k:Nat),(dW D L G es).eraseIdx k=dW D L G (es.eraseIdx k)
 | [],_=>rfl
 | _::_,0=>rfl
 | e::es,k+1=>by
  have h:=yO D L G es k;unfold dW at h ⊢;simp only [UG,List.eraseIdx_cons_succ,h]
def Q6 {D L G:Int} (h:w.heap[m]?=ZV (.map (dW D L G es).toArray n)) {k:Nat} (d:k<es.length) (f:(cP es).Nodup) (t:ZN):(Builtin.delete_ #[264,228] t #[.map (ZV m),bJ D L G (eL es[k].1:Nat) (fJ es[k].1)]).run ZL w=.ok (ZY #[]) (w.putObj m (.map (dW D L G (es.eraseIdx k)).toArray n)):=by
 have a:=uP h;have b:=λe=>oX e D L G (eL es[k].1:Nat) (fJ es[k].1) w;have c:=GJ D L G d f w;simp [Builtin.delete_,UO Yp,a,b,c,Mi h,yO]
def OG {D L G:Int} (h:w.heap[m]?=ZV (.map (dW D L G es).toArray n)) (t:ZN):(Builtin.len_ #[264] t #[.map (ZV m)]).run ZL w=.ok (Z7 Z9 (es.length:Nat)) w:=by
 have a:=uP h;simp [Builtin.len_,UO Yp,a,dW,goInt]
structure Fj where
 D:Int
 L:Int
 G:Int
 lost:Int
 rd:Bool
 regs:Int
 steps:ZR
def px (w:ZS) (S:Nat->Prop) (cn:Nat->Fj) (nw ol:Nat->Nat):Prop:=∀ a,S a->jy w a (cn a).D (cn a).L (cn a).G (cn a).lost (cn a).rd (cn a).regs (cn a).steps (Z6 (ZV ⟨nw a,0,ZW⟩)) (Z6 (ZV ⟨ol a,0,ZW⟩))
def ij (f:Nat->Nat) (a x:Nat):Nat->Nat:=λb=>if b=a then x else f b
def eG (f:Nat->Nat) (a x:Nat):ij f a x a=x:=TT rfl
def eM {f:Nat->Nat} {a:Nat} (x:Nat) (h:b≠a):ij f a x b=f b:=TS h
def px.SS {cn:Nat->Fj} (h:px w S cn nw ol) (a x:Nat):px (w.setCell ⟨a,7,ZW⟩ (Z6 (ZV ⟨x,0,ZW⟩))) S cn (ij nw a x) ol:=λb c=>by
 by_cases e:b=a
 . subst e;rw [eG];exact (h b c).SS _
 . rw [eM x e];exact (h b c).keep (Ud _ _ _ _ e)
def px.SO {cn:Nat->Fj} (h:px w S cn nw ol) (a x:Nat):px (w.setCell ⟨a,8,ZW⟩ (Z6 (ZV ⟨x,0,ZW⟩))) S cn nw (ij ol a x):=λb c=>by
 by_cases e:b=a
 . subst e;rw [eG];exact (h b c).SO _
 . rw [eM x e];exact (h b c).keep (Ud _ _ _ _ e)
def px.keep {T:Nat->Prop} {cn:Nat->Fj} (h:px w S cn nw ol) (d:aa T w w') (e:∀ a,S a->¬ T a):px w' S cn nw ol:=λb c=>(h b c).keep (d.block b (h b c).lt (e b c))
theorem rC {cn:Nat->Fj} (h:px w S cn nw ol) {n:Nat} (c:S n) (a:S (nw n)) (b:S (ol n)) :
 ZP ZL 191 #[Z6 (ZV ⟨n,0,ZW⟩)] w λe w'=>e=Z3 (ZY #[])/\px w' S cn (ij nw (ol n) (nw n)) (ij ol (nw n) (ol n))/\aa S w w':=by
 obtain ⟨d,f,_,_⟩:=(h n c).cells;obtain ⟨_,g,_,j⟩:=(h _ a).cells;obtain ⟨i,_,k,_⟩:=((h.SO (nw n) (ol n)) _ b).cells;have H:=aE ((h.SO (nw n) (ol n)).SS (ol n) (nw n)) a b;clear h a b c;generalize nw n=x at *;generalize ol n=y at *;generalize ol x=z at *;generalize nw y=l at *;go_enter func191,ntmps191;go_region;go_end0
 exact ⟨rfl,H.o.1,((aa.setCell _ _ _ H.o.2.1).trans (aa.setCell _ _ _ H.o.2.2)).trans (aa.drew _)⟩
theorem Au {cn:Nat->Fj} (hl:fI w sb room) (h:px w S cn nw ol) {n:Nat} (a:S n) (c:S sb) (ho:S (ol sb)) :
 ZP ZL 192 #[Z6 (ZV ⟨sb+1+1,0,ZW⟩),Z6 (ZV ⟨n,0,ZW⟩)] w λe w'=>e=Z3 (ZY #[])/\px w' S cn (ij (ij nw n sb) (ol sb) n) (ij (ij ol n (ol sb)) sb n)/\aa S w w':=by
 have q:=(gd hl).2.2;obtain ⟨k,_,b7,_⟩:=(h n a).cells;obtain ⟨_,p,_,_⟩:=(h sb c).cells;have d:=h.SS n sb;obtain ⟨_,l,_,m⟩:=(d n a).cells;have i:=d.SO n (ol sb);obtain ⟨w2,g⟩:=nM (((w.setCell ⟨n,7,ZW⟩ (Z6 (ZV ⟨sb,0,ZW⟩))).setCell ⟨n,8,ZW⟩ (Z6 (ZV ⟨ol sb,0,ZW⟩))).drew);have b:px w2 S cn (ij nw n sb) (ij ol n (ol sb)):=by rw [<- g];exact i
 have j:aa S w w2:=by rw [<- g];exact ((aa.setCell _ _ _ a).trans (aa.setCell _ _ _ a)).trans (aa.drew _)
 obtain ⟨r,s,_,_⟩:=(b n a).cells;rw [eG] at r s;have f:=b.SO sb n;obtain ⟨_,t,_,t8⟩:=(b sb c).cells;obtain ⟨u,_,v,_⟩:=(f (ol sb) ho).cells;have H:=a5 (f.SS (ol sb) n) j c ho;clear h d i b f hl a c ho j;generalize ol sb=y at *;generalize ij ol n y sb=z at *;generalize ij nw n sb y=x at *;generalize nw n=A at *;generalize ol n=B at *;go_enter func192,ntmps192;go_wp2;go_region;clear g k b7 p l m q;go_wp2;go_region;go_end0
 exact ⟨rfl,H.o.1,H.o.2.1.trans (((aa.setCell _ _ _ H.o.2.2.1).trans (aa.setCell _ _ _ H.o.2.2.2)).trans (aa.drew _))⟩
def vS (nw ol:Nat->Nat):Nat->a8->Nat->Prop
 | a,[],b=>ol a=b/\nw b=a
 | a,n::ns,b=>(ol a=n/\nw n=a)/\vS nw ol n ns b
theorem vS.congr {nw' ol':Nat->Nat}:∀ {ns:a8} {a b:Nat},vS nw ol a ns b->(∀ x∈a::ns,ol' x=ol x)->(∀ x∈ns++[b],nw' x=nw x)->vS nw' ol' a ns b
 | [],a,b,h,c,d=>⟨(c a (U7 ..)).trans h.1,(d b (by simp)).trans h.2⟩
 | n::ns,a,b,h,c,d=>⟨⟨(c a (U7 ..)).trans h.1.1,(d n (by simp)).trans h.1.2⟩,vS.congr h.2 (λx e=>c x (UP _ e)) (λx e=>d x (by rw [UU];exact UP _ e))⟩
def vS.Sb {ns:a8} {a:Nat} (h:vS nw ol a ns b):ol a=b/\ns=[]\/ol a∈ns:=by
 cases ns with
 | nil=>exact .inl ⟨h.1,rfl⟩
 | cons n ns=>exact .inr (by rw [h.1.1];exact U7 ..)
def vS.last:∀ {ns:a8} {a b:Nat},vS nw ol a ns b->(c:ns≠[])->nw b=ns.getLast c
 | [],_,_,_,c=>absurd rfl c
 | [_],_,_,h,_=>h.2.2
 | _::m::ns,_,_,h,_=>by rw [List.getLast_cons (by simp)];exact vS.last h.2 (by simp)
theorem vS.put {ns:a8} (h:vS nw ol sb ns sb) (d:(sb::ns).Nodup) (c:n∉sb::ns):vS (ij (ij nw n sb) (ol sb) n) (ij (ij ol n (ol sb)) sb n) sb (n::ns) sb:=by
 have b:n≠sb:=λe=>c (e▸U7 ..);have j:n≠ol sb:=λe=>by
  rcases h.Sb with q|q
  . exact b (e.trans q.1)
  . exact c (UP _ (e▸q))
 refine ⟨⟨eG _ _ _,by rw [eM _ j,eG]⟩,?_⟩;cases ns with
 | nil=>exact ⟨by rw [eM _ b,eG];exact h.1,by rw [h.1,eG]⟩
 | cons m o=>
  have f:=h.1.1;refine ⟨⟨by rw [eM _ b,eG];exact f,by rw [f,eG]⟩,h.2.congr (λx a=>?_) (λx a=>?_)⟩
  . have g:x≠sb:=λe=>(UR.1 d).1 (e▸a);have i:x≠n:=λe=>c (UP _ (e▸a));rw [eM _ g,eM _ i]
  . have k:x≠m:=λe=>by
     subst e;rcases Uj.1 a with q|q
     . exact (UR.1 (UR.1 d).2).1 q
     . rw [Vp] at q;subst q;exact (UR.1 d).1 (U7 ..)
    have l:x≠n:=λe=>by
     subst e;rcases Uj.1 a with q|q
     . exact c (UP _ (UP _ q))
     . rw [Vp] at q;exact b q
    rw [f,eM _ k,eM _ l]
theorem vS.take {r:a8}:∀ {l:a8} {a b:Nat},vS nw ol a (l++n::r) b->(a::(l++n::r)).Nodup->b∉l++n::r->vS (ij nw (ol n) (nw n)) (ij ol (nw n) (ol n)) a (l++r) b/\nw n∈a::l/\(ol n∈r\/ol n=b)
 | [],a,b,h,j,i=>by
  have d:(ol a=n/\nw n=a)/\vS nw ol n r b:=h;obtain ⟨⟨_,t⟩,g⟩:=d;rw [t];refine ⟨?_,U7 ..,g.Sb.elim (λq=>.inr q.1) .inl⟩;cases r with
  | nil=>exact ⟨by rw [eG];exact g.1,by rw [g.1,eG]⟩
  | cons m rs=>
   have k:=g.1.1;have f:=(UR.1 (UR.1 j).2).2;refine ⟨⟨by rw [eG];exact k,by rw [k,eG]⟩,g.2.congr (λx o=>?_) (λx o=>?_)⟩
   . exact eM _ λe=>(UR.1 j).1 (by rw [<- e];exact UP _ o)
   . rw [k];refine eM _ λe=>?_;subst e;rcases Uj.1 o with q|q
     . exact (UR.1 f).1 q
     . rw [Vp] at q;subst q;exact i (by simp)
 | c::l,a,b,h,j,i=>by
  have d:(ol a=c/\nw c=a)/\vS nw ol c (l++n::r) b:=h;have f:=UR.1 j;obtain ⟨u,p,s⟩:=vS.take d.2 f.2 (λq=>i (UP _ q));refine ⟨⟨⟨?_,?_⟩,u⟩,UP _ p,s⟩
  . rw [eM _ λe=>f.1 (by
     rw [e];rcases Uw.1 p with q|q
     . rw [q];exact U7 ..
     . exact UP _ (UL _ q))]
    exact d.1.1
  . rw [eM _ λe=>by
     rcases s with q|q
     . exact (UR.1 f.2).1 (by rw [e];exact V6 _ (UP _ q))
     . exact i (by rw [<- q,<- e];exact U7 ..)]
    exact d.1.2
def Av (ao:Option Addr) (a:Nat) (w:ZS):(convert 39 9 (.slice ao 0 a)).run ZL w=.ok (ZZ YH) w:=by
 rw [run_convert_bytes_string w 39 9 5 ao 0 a Ul Xn abB];cases ao<;>simp [Conv.bytesToString,loadCells,loadCellsFrom]
theorem Bs.sub {off:Nat} (h:Bs w (Z5 (ZV ⟨b,off,ZW⟩) bl c) l) (i n d:Nat) (f:i+n<=l.length) (p:n<=d):Bs w (Z5 (ZV ⟨b,off+i,ZW⟩) n d) ((l.drop i).take n):=by
 obtain ⟨ao,c0,e,t,u,m,o⟩:=h;injection e with e1 e2 e3;have hl:((l.drop i).take n).length=n:=by rw [Un,Um];omega
 refine ⟨ZV ⟨b,off+i,ZW⟩,d,by rw [hl],by rw [hl];exact p,by rw [hl];omega,λx r=>m x (U0 (UY r)),λv=>⟨b,off+i,rfl,λk g=>?_⟩⟩;rw [hl] at g;obtain ⟨s,y,a,j⟩:=o (λq=>by rw [q] at f;simp at f;omega);rw [<- e1] at a;injection a with a;injection a with e5 e6;subst e5 e6;have:=j (i+k) (by omega);rw [Vx,this];congr 3;rw [T6,T6,VO g,Wd]
def C4 (a b:a8) (n k:Nat) (h:a.length=n):(a++b).drop (n+k)=b.drop k:=by
 subst h;rw [<- VK,YT]
def Mn {o:Ob} (ho:o.fit) (rest:a8):(bP o++rest).getD 0 0=o.name.size:=by
 unfold bP;have:be o.name.size 1=[o.name.size]:=by
  have:=ho.name.2;simp [be];omega
 rw [this];rfl
def I8 (o:Ob) (rest:a8):((bP o++rest).drop 1).take o.name.size=o.name.toList.map (λ(b:UInt8)=>b.toNat):=by
 have:(be o.name.size 1).length=1:=aC _ _;have:(o.name.toList.map (λ(b:UInt8)=>b.toNat)).length=o.name.size:=by
  rw [T9,Yk,Ww];rfl
 unfold bP fG;simp only [Uz];rw [W9 (by omega),WM (by omega),Uo,VV (by omega),UI (by omega)]
def I9 {o:Ob} (ho:o.fit) (rest:a8):((bP o++rest).drop 17).take 2=be o.size 2:=by
 have:(be o.name.size 1++fG o.name).length=17:=by rw [T8,aC,mB ho.name.2]
 unfold bP;rw [Uz,Uz,W9 (by omega),WM (by omega),Uo,VV (by rw [aC];exact TV _),UI (by rw [aC];exact TV _)]
def Mo (l:a8) (j:Nat) (a:j<l.length) (r:a8):((l.flatMap (λs=>be s 4)++r).drop (4*j)).take 4=be l[j] 4:=by
 induction l generalizing j with
 | nil=>cases a
 | cons x l ih=>
  cases j with
  | zero=>rw [VN,Nat.mul_zero,Xz,Uz,VV (by rw [aC];exact TV _),UI (by rw [aC];exact TV _)];rfl
  | succ j=>
   rw [VN,show 4*(j+1)=4+4*j by omega,Uz,C4 _ _ 4 (4*j) (aC _ _)];exact ih j (by simpa using a)
def Mp {o:Ob} (ho:o.fit):(be o.name.size 1++fG o.name++be o.size 2).length=19:=by rw [T8,T8,aC,aC,mB ho.name.2]
def C7 {o:Ob} (ho:o.fit) (rest:a8) (j:Nat) (b:j<o.RL.length):((bP o++rest).drop (19+4*j)).take 4=be o.RL[j] 4:=by
 have a:=Mp ho;unfold bP;rw [Uz,C4 _ _ 19 (4*j) a,Mo _ _ b]
def Ja {o:Ob} (ho:o.fit) (rest:a8):(bP o++rest).drop (19+4*o.RL.length)=rest:=by
 rw [<- dh ho,W9 lR,WM lR,Uo]
def zOb:Array ZR:=#[.string ⟨#[]⟩,Z7 Z9 0,Z5 ZW 0 0]
def Mq (j:o.guard=ZW) (x y:ZM) (ho:o.op=.store 137 x y) {b:Nat} {cs cs':Array ZR}
 (k:a.eval x=Z6 (ZV ⟨b,0,ZW⟩)) (l:a.eval y=.agg cs') (g:w.heap[b]?=ZV (Z4 cs 137 (0,0))) (i:cs.size=3) (c:cs'.size=3) (e:cs'.all (·.oneCell')=ZU) (h:wpList ZL ops Q rest (a.put o.dst ZX) (w.setRow b cs')):wpList ZL ops Q (o::rest) a w:=by
 have d:(ZL.info? 137).map (·.size)=ZV 3:=by kernel_rfl
 have f:(Instr.storeAt 137 (Z6 (ZV ⟨b,0,ZW⟩)) (.agg cs')).run ZL w=.ok () (w.setRow b cs'):=by
  simp only [Instr.storeAt,Instr.sureAddr,Ux,Vf,UM,X4 w b 137 137 cs cs' g (by rw [c];exact d) (by rw [i,c]) e]
 refine VZ j λK hK=>?_;unfold Oper.wp;simp [execOp,ho,k,l,f,Result.andThen];exact hK _ _ h
def C8 {P:Program} {p t u:Tmp} {ty:ZN} (h:fn.results=#[.cell p ty,.tmp t,.tmp u]) (tmps:Array ZR) (w:ZS) (g:Nat) (b:ZN) (cs:Array ZR) (a:Nat×Nat) (d:TypeDesc) (x y:ZR)
 (l:tmps.getD p ZX=Z6 (ZV ⟨g,0,ZW⟩)) (n:tmps.getD t ZX=x) (o:tmps.getD u ZX=y) (j:w.heap[g]?=ZV (Z4 cs b a)) (m:P.underlying ty=ZV d) (i:(match d with|.struct _|.array _ _=>ZU|_=>ZT)=ZU) (k:(P.info? ty).map (·.size)=ZV cs.size) :
 (results fn tmps).run P w=.ok (ZY #[.agg cs,x,y]) w:=by
 have c:tmps[p]?.getD ZX=Z6 (ZV ⟨g,0,ZW⟩):=by simpa using l
 have e:tmps[t]?.getD ZX=x:=by simpa using n
 have f:tmps[u]?.getD ZX=y:=by simpa using o
 simp [results,h,c,e,f,asAddr,Xj w g b ty cs a d j m i k]
def UoR (w:ZS) (nm:ByteArray) (sz:Nat) (st:a8) (i:ZR) (wr:ZS):Prop:=∃ (j:Nat) (sv:ZR),j<=st.length/\i=Z7 Z9 j/\wr.heap[w.heap.size]?=ZV (Z4 #[ZZ nm,Z7 Z9 (sz:Int),sv] 137 (0,0))/\wr.ownsRow w.heap.size 3 1 sv j (jU (st.take j))/\bW w wr
structure Q7 (w:ZS) (b off bl c:Nat) (o:Ob) (rest:a8) (e:ZO) (w':ZS):Prop where
 out:∃ sa sc bv,e=Z3 (ZY #[.agg #[ZZ o.name,Z7 Z9 (o.size:Nat),.slice sa o.RL.length sc],bv,Z1 ZU])/\bg (λk=>w.heap.size<=k) w' (.slice sa o.RL.length sc) o.RL/\∀ w0,Bs w0 (Z5 (ZV ⟨b,off,ZW⟩) bl c) (bP o++rest)->Bs w0 bv rest
 below:bW w w'
theorem rV {off:Nat} {o:Ob} {rest:a8} (ss:Nat) (x:Bs w (Z5 (ZV ⟨b,off,ZW⟩) bl c) (bP o++rest)) (n:bl=(bP o++rest).length) (ho:o.fit) (xa:1<=ss/\ss<=1000000) (p:o.RL.length=max 1 ((o.size+ss-1)/ss)) (hr:rest.length<=100000000) :
 ZP ZL 182 #[Z5 (ZV ⟨b,off,ZW⟩) bl c,Z7 Z9 ss] w λe w'=>Q7 w b off bl c o rest e w':=by
 have R:bl=19+4*o.RL.length+rest.length:=by rw [n,T8,dh ho]
 have ki:=ho.len;have x2:=ho.name;have kr:=ho.size;obtain ⟨ao,c0,e0,kx,_,hx,hn⟩:=id x;injection e0 with W e2 e3;subst e3;rw [<- n] at kx hn;obtain ⟨b',o',A,qh⟩:=hn (λq=>by rw [q] at n;simp at n;omega);rw [<- W] at A;injection A with A;injection A with e5 e6;subst e5 e6;clear W e2;have d0:=qh 0 (by omega);rw [VR,Mn ho] at d0;have kk:(w.alloc (Z4 zOb 137)).heap[w.heap.size]?=ZV (Z4 zOb 137 (0,0)):=Ug _ _;have T:bW w (w.alloc (Z4 zOb 137)):=bA w _;have km:(w.alloc (Z4 zOb 137)).heap.size=w.heap.size+1:=by simp
 obtain ⟨w1,qd⟩:=nM (w.alloc (Z4 zOb 137));rw [qd] at kk T km;have xc:w.alloc (Z4 #[.string ⟨#[]⟩,Z7 Z9 0,Z5 ZW 0 0] 137)=w1:=qd;have x0:b<w.heap.size:=Ub d0;have c1:w1.cell? ⟨b,off,ZW⟩=ZV (Z7 .u8 (o.name.size:Nat)):=(Uk (T.block b x0)).trans d0;have kh:=x.mono T;obtain ⟨m,D⟩:=nM (o.RL.length);obtain ⟨d,z⟩:=nM (o.size);obtain ⟨O,y⟩:=nM (o.name.size);have q9:=zt (Z5 (ZV ⟨b,off+17,ZW⟩) 2 (c-17)) (be o.size 2) w1 (by rw [<- I9 ho rest];exact kh.sub 17 2 _ (by omega) (by omega));rw [lu o.size 2 (by omega) (by omega),z] at q9;have q0:=m6 d ss (by omega) xa w1;rw [<- z,<- p,D] at q0;rw [z] at q0;rw [D] at R ki;rw [y] at c1 x2;have qa:=fZ m (by omega) w1;obtain ⟨lo,kj⟩:=nM (19+4*m);rw [kj] at R qa;have xd:¬ ((bl:Nat):Int)<19:=by omega
 have qv:¬ c=17:=by omega
 have xf:¬ ((O:Nat):Int)<1:=by omega
 have xg:¬ ((O:Nat):Int)>16:=by omega
 have xi:¬ ((d:Nat):Int)>1500:=by omega
 have hll:¬ ((bl:Nat):Int)<(lo:Int):=by omega
 have xk:IntKind.i64.wrap (O:Int)=O:=by rw [UB];omega
 have H:=hide13 q9 q0 qa kh kk T km D z y x n p;have HL:=a6 R kj ki kr kx;have qy:19<=bl:=by omega
 have qz:19<=c:=by omega
 clear R kj ki kr kx;clear q9 q0 qa kh kk T km D z y x n p hn qh qd d0 hx;go_enter func182,ntmps182;go_wp2_with fail;refine H.o.1.mono ?_;rintro e w2 ⟨rfl,N⟩;obtain rfl:w1=w2:=N.symm;clear N;have xj:IntKind.i64.wrap (d:Int)=d:=by have:=HL.o.2.2.2.1;have:=H.o.2.2.2.2.2.2.2.2.1;rw [UB];omega
 go_wp2_with fail;refine H.o.2.1.mono ?_;rintro e w2 ⟨rfl,N⟩;obtain rfl:w1=w2:=N.symm;clear N;go_wp2_with fail;refine H.o.2.2.1.mono ?_;rintro e w2 ⟨rfl,N⟩;obtain rfl:w1=w2:=N.symm;clear N;obtain ⟨_,_,_,kh,kk,T,km,D,z,y,x,n,p⟩:=H.o;have qi:(convert 39 9 (Z5 (ZV ⟨b,off+1,ZW⟩) O (c-1))).run ZL w1=.ok (ZZ o.name) w1:=by
  have qm:o.name.toList.length=O:=by rw [Yk,Ww,<- y];rfl
  have kv:=kh.sub 1 O (c-1) (by rw [<- n];omega) (by omega);rw [<- y,I8 o rest] at kv;obtain ⟨ao,cc,W,_,_,_,X⟩:=kv;injection W with W e2 e3;have ky:o.name.toList.map (λ(b:UInt8)=>b.toNat)≠[]:=λe=>by
   have:=Uy YL e;rw [T9,qm] at this;simp at this;omega
  obtain ⟨b',o',A,x1⟩:=X ky;rw [<- W] at A;injection A with A;injection A with e5 e6;subst e5 e6;have:=run_convert_bytes_back (P:=ZL) w1 39 9 5 ⟨b,off+1,ZW⟩ (c-1) o.name.toList Ul Xn abB (λj hj=>by
   have Y:=x1 j (by rw [T9];exact hj);have h8:(o.name.toList.map (λ(b:UInt8)=>b.toNat)).getD j 0=(o.name.toList[j]).toNat:=by
    rw [T6,UA,Ua hj];rfl
   rw [h8] at Y;unfold Addr.add;split
   . rename_i h0;subst h0;exact Y
   . exact Y)
  rw [qm] at this;rw [this];congr 2;rw [Yk]
 clear kh x n p D z y T;have x7:¬ c=1:=by omega
 have HQ:=al kk km;clear kk km;obtain ⟨nm,q8⟩:=nM (o.name);rw [q8] at qi;have xh:1+O<=c:=by omega
 go_wp2_with (show wpList _ _ _ ({ dst:=ZW,op:=Op.store 137 (Z0 4) (Z0 50),type:=_,pos:=_,after:=_,guard:=_ }::_) _ _;refine Mq (b:=w.heap.size) (cs:=zOb) (cs':=#[ZZ nm,Z7 Z9 (d:Int),Z5 ZW 0 0]) rfl (Z0 4) (Z0 50) rfl (by rfl) (by rfl) (by exact HQ.o.1) rfl rfl (by simp [Value.oneCell']) ?_);have qn:(w1.setRow w.heap.size #[ZZ nm,Z7 Z9 (d:Int),Z5 ZW 0 0]).heap[w.heap.size]?=ZV (Z4 #[ZZ nm,Z7 Z9 (d:Int),Z5 ZW 0 0] 137 (0,0)):=Vv _ _ _ _ _ _ HQ.o.1;have qg:bW w (w1.setRow w.heap.size #[ZZ nm,Z7 Z9 (d:Int),Z5 ZW 0 0]):=H.o.2.2.2.2.2.1.grown (aL _ _ _) H.o.2.2.2.2.2.1.size (λk e=>by have:=UJ e;omega);have H8:=al qn qg;have qs:=ak q8;clear qn qg qi q8;go_loopw [52] (λi wr=>UoR w nm d o.RL i wr) (λi _=>m-(intOf i).toNat)
 case atStart=>exact ⟨0,_,T5 _,rfl,H8.o.1,UN _ _ _ _,H8.o.2⟩
 case round=>
  clear H8;obtain ⟨j,r,hj,rfl,g,hh,C⟩:=hrel;obtain ⟨_,_,_,_,_,_,_,D,z,y,x,n,p⟩:=H.o;obtain ⟨R,kj,ki,kr,kx⟩:=HL.o;have q1:=x.mono (w':=wr) C;have qe:=C.size;have kg:w.heap.size<wr.heap.size:=(TX.1 g).1;by_cases xe:j<m
  . have q6:j<o.RL.length:=(by omega);obtain ⟨ii,x5,q3,q4,q5⟩:=Us Tryz.Sk;have x9:=ho.st _ (TY q6);have U:=q1.sub (19+4*j) 4 (c-(19+4*j)) (by rw [<- n];omega) (by omega);rw [C7 ho rest j q6] at U;obtain ⟨s,hs⟩:=nM (o.RL[j]);rw [hs] at x9 U;have qq:jU (o.RL.take (j+1))=jU (o.RL.take j)++[Z7 Z9 (s:Int)]:=by
     rw [Vh,Ua q6,hs];unfold jU;rw [Uv];rfl
    obtain ⟨f,a,hq,I,ke,_,_⟩:=run_append_own_at (P:=ZL) (wr.drew.alloc (Z4 #[Z7 Z9 (s:Int)] 3)) w.heap.size 131 0 3 ii (Z7 Z9 0) 1 8 abv x5 q3 q4 q5 rfl (by decide) r j (jU (o.RL.take j)) ((show wr.drew.ownsRow w.heap.size 3 1 r j (jU (o.RL.take j)) from hh).alloc _) ⟨wr.heap.size,0,ZW⟩ 1 1 [Z7 Z9 (s:Int)] rfl (nV wr.drew _ _) (by intro u hu;simp at hu;subst hu;rfl) (by unfold maxLen;omega) (by omega) (by simp;omega);have qb:(wr.drew.alloc (Z4 #[Z7 Z9 (s:Int)] 3)).heap[w.heap.size]?=ZV (Z4 #[ZZ nm,Z7 Z9 (d:Int),r] 137 (0,0)):=(UC _ _ _ kg).trans g;have hp:(wr.drew.alloc (Z4 #[Z7 Z9 (s:Int)] 3)).ownsRow w.heap.size 3 1 r j (jU (o.RL.take j)):=(show wr.drew.ownsRow w.heap.size 3 1 r j (jU (o.RL.take j)) from hh).alloc _;have J:=(ke.block w.heap.size (by simp;omega) (λe=>bF hp qb (by decide) e.symm)).trans qb;have hv:=bE I;have q2:bW w (wr.drew.alloc (Z4 #[Z7 Z9 (s:Int)] 3)):=C.drew.alloc qe _;have t:bW w a:=q2.grown ke q2.size (λk e=>eh hp e);rw [<- qq] at I;have qf:=hide7 g U hq I J hv t;have x6:j<=100000:=(by omega);have x4:19+4*j+4<=bl:=(by omega);clear g hh C D z y x n p R kj ki kr q1 U hq I ke qb hp J hv q2 t qq hs qe kg;go_wp2_with fail;obtain ⟨g,U,hq,I,J,⟨va,vc,hv⟩,t⟩:=qf.out;obtain ⟨E,ks⟩:=nM (19+4*j);obtain ⟨X,x3⟩:=nM (E+4);have V:=fZ j (by omega) wr.drew;have p2:=fZ (j+1) (by omega) wr.drew;have p3:=zt _ (be s 4) wr.drew U;rw [ks] at V p3 x4;rw [show 19+4*(j+1)=X by omega] at p2;rw [lu s 4 (by omega) (by omega)] at p3;have Q:wr.cell? ⟨w.heap.size,2,ZW⟩=ZV r:=(by simp [World.cell?,g]);have hd:(wr.drew.alloc (Z4 #[Z7 Z9 (s:Int)] 3)).cell? ⟨w.heap.size,2,ZW⟩=ZV r:=(World.cell?_alloc_some wr.drew _ _ (by rw [show wr.drew.cell? ⟨w.heap.size,2,ZW⟩=ZV r from Q];rfl)).trans Q;have qr:a.cell? ⟨w.heap.size,2,ZW⟩=ZV r:=(by simp [World.cell?,J]);have xm:a.frozen? ⟨w.heap.size,2,ZW⟩=ZT:=(by simp [World.frozen?,J]);have k1:E<=X:=(by omega);have k3:X<=c:=(by omega);have k4:X-E=4:=(by omega);have k5:¬ c=E:=(by omega);have k6:IntKind.i64.wrap (s:Int)=s:=(by rw [UB];omega);have k7:IntKind.i64.wrap ((j:Int)+1)=(j:Int)+1:=(by rw [UB];omega);have qo:∀ ty,(Builtin.append_ #[131,131] ty #[r,Z5 (ZV ⟨wr.heap.size,0,ZW⟩) 1 1]).run ZL (wr.drew.alloc (Z4 #[Z7 Z9 (s:Int)] 3))=.ok f a:=λ_=>hq;refine iC 14 [(0,ZU),(1,ZU),(2,ZU),(3,ZU),(5,ZU),(6,ZU),(4,ZT),(7,ZT),(8,ZU),(9,ZT),(10,ZU),(11,ZT),(12,ZT),(13,ZU),(14,ZT)] (λw'=>w'.cell? ⟨w.heap.size,2,ZW⟩=ZV r) (by kernel_rfl) (by kernel_rfl) Q ?_;iterate 6 (refine a9 rfl rfl ?_;apply YG;refine ⟨λw' L=>?_,?_⟩;(first|(go_simp;done)|(go_simp;exact rfl));simp only [Act.put,Ue,Uc,Uf])
    refine sj V rfl rfl (by go_simp) ?_;rintro e l ⟨rfl,rfl⟩;refine ⟨_,rfl,λ_=>Q,?_⟩;simp only [Act.put,Ue,Uc,Uf];refine sj p2 rfl rfl (by go_simp) ?_;rintro e l ⟨rfl,rfl⟩;refine ⟨_,rfl,λ_=>Q,?_⟩;simp only [Act.put,Ue,Uc,Uf];refine a9 rfl rfl ?_;apply YG;refine ⟨λw' L=>?_,?_⟩;(first|(go_simp;done)|(go_simp;exact rfl));simp only [Act.put,Ue,Uc,Uf];refine sj p3 rfl rfl (by go_simp) ?_;rintro e l ⟨rfl,rfl⟩;refine ⟨_,rfl,λ_=>Q,?_⟩;simp only [Act.put,Ue,Uc,Uf];refine a9 rfl rfl ?_;apply YG;refine ⟨λw' L=>?_,?_⟩;(first|(go_simp;done)|(go_simp;exact rfl));simp only [Act.put,Ue,Uc,Uf];refine D9 (v:=Z5 (ZV ⟨wr.heap.size,0,ZW⟩) 1 1) (w1:=wr.drew.alloc (Z4 #[Z7 Z9 (s:Int)] 3)) rfl rfl (by go_simp) (λ_=>hd) ?_;simp only [Act.put,Ue,Uc,Uf];refine D9 (v:=f) (w1:=a) rfl rfl (by simp [execOp,Act.eval,resolve,invoke,builtin,qo]) (λ_=>qr) ?_;simp only [Act.put,Ue,Uc,Uf];refine a9 rfl rfl ?_;apply YG;refine ⟨λw' L=>?_,?_⟩;(first|(go_simp;done)|(go_simp;exact rfl));simp only [Act.put,Ue,Uc,Uf];refine oe (w1:=a.setCell ⟨w.heap.size,2,ZW⟩ f) rfl rfl (by subst hv;go_simp) (absurd rfl) (gL ?_);obtain ⟨l,M⟩:∃ l,l=a.setCell ⟨w.heap.size,2,ZW⟩ f:=⟨_,rfl⟩;rw [<- M];clear V p2 p3 Q hd qr xm k1 k3 k4 k5 k6 k7 qo ks x3;have kz:l.heap[w.heap.size]?=ZV (Z4 #[ZZ nm,Z7 Z9 (d:Int),f] 137 (0,0)):=(by rw [M];exact abz a w.heap.size 2 _ _ f J);have S:aa (λk=>k=w.heap.size) a l:=(by rw [M];exact aa.setCell _ _ _ rfl);have k0:l.ownsRow w.heap.size 3 1 f (j+1) (jU (o.RL.take (j+1))):=bV I S (λk hk e=>bF I J (by decide) (by rw [hk,e]));have kp:bW w l:=⟨S.os.trans t.os,S.tape.trans t.tape,S.output.trans t.output,TU t.size S.size,λk hk=>(S.block k (by have:=t.size;omega) (by omega)).trans (t.block k hk)⟩;have H3:=aE kz k0 kp;clear g U hq I J hv t kz S k0 kp M qf;rename_i ko
    refine ko _ _ ?_;clear ko;simp only [Act.put];go_wp2;go_roundw
    case rel=>exact ⟨j+1,f,by have:=H.o.2.2.2.2.2.2.2.1;omega,by go_num,H3.o.1,H3.o.2.1,H3.o.2.2⟩
    case measure=>simp [intOf];omega
  . have q7:j=m:=(by omega);subst q7;obtain ⟨F,G,xb⟩:=bE hh;subst xb;have ky:o.RL≠[]:=λe=>by
     have B:=Uy YL e;have h2:1<=o.RL.length:=(by rw [p];exact Nat.le_max_left _ _);rw [B] at h2;simp at h2
    have Z:=CE (K:=λk=>w.heap.size<=k) (show wr.ownsRow w.heap.size 3 1 (.slice F j G) j (jU o.RL) by have B:=hh;rw [UI (by omega)] at B;exact B) ky (by omega) (λk hk=>hk);have Z:=Z.choose_spec.choose_spec.2;obtain ⟨ra,qp⟩:∃ ra:Option Addr,(c=lo/\ra=ZV ⟨b,off,ZW⟩)\/(c≠lo/\ra=ZV ⟨b,off+lo,ZW⟩):=by
     by_cases Y:c=lo
     . exact ⟨_,.inl ⟨Y,rfl⟩⟩
     . exact ⟨_,.inr ⟨Y,rfl⟩⟩
    have hf:∀ w0,Bs w0 (Z5 (ZV ⟨b,off,ZW⟩) bl c) (bP o++rest)->Bs w0 (.slice ra (bl-lo) (c-lo)) rest:=by
     intro w0 qx;have B:=qx.sub lo (bl-lo) (c-lo) (by rw [<- n];omega) (by omega);have h2:((bP o++rest).drop lo).take (bl-lo)=rest:=by
      rw [show lo=19+4*o.RL.length by omega,Ja ho,UI (by omega)]
     rw [h2] at B;rcases qp with ⟨h3,rfl⟩|⟨h3,rfl⟩
     . have x8:rest=[]:=Xb.1 (by omega);subst x8;refine ⟨ZV ⟨b,off,ZW⟩,c-lo,?_,by simp,by decide,λ_ h=>(by cases h),λh=>absurd rfl h⟩;simp only [UW];congr 1;omega
     . exact B
    have Hr:=a5 g Z hf C;have x6:j<=100000:=(by omega);clear g hh C D z y x n p R ki kr q1 Z hf qe kg ky;go_wp2_with fail;have g:=Hr.o.1;have kf:(ZL.info? 137).map (·.size)=ZV 3:=(by kernel_rfl);have qj:(Instr.loadAt 137 (Z6 (ZV ⟨w.heap.size,0,ZW⟩))).run ZL wr.drew=.ok (.agg #[ZZ nm,Z7 Z9 (d:Int),.slice F j G]) wr.drew:=(by simp only [Instr.loadAt,Instr.sureAddr,Ux,Vf,UM,Xj wr.drew w.heap.size 137 137 #[ZZ nm,Z7 Z9 (d:Int),.slice F j G] (0,0) _ g underlying137 rfl kf]);have p:(Instr.storeAt 137 (Z6 (ZV ⟨w.heap.size,0,ZW⟩)) (.agg #[ZZ nm,Z7 Z9 (d:Int),.slice F j G])).run ZL wr.drew=.ok () wr.drew:=by
     simp only [Instr.storeAt,Instr.sureAddr,Ux,Vf,UM,X4 wr.drew w.heap.size 137 137 #[ZZ nm,Z7 Z9 (d:Int),.slice F j G] #[ZZ nm,Z7 Z9 (d:Int),.slice F j G] g kf rfl (by simp [Value.oneCell'])];rw [setRow_self wr.drew w.heap.size _ 137 (0,0) g]
    have V:=fZ j (by omega) wr.drew;rw [kj] at V;refine iC 99 [(0,ZU),(1,ZU),(2,ZU),(3,ZT),(4,ZU),(5,ZT),(6,ZU),(7,ZU)] (λw'=>w'=wr.drew) (by kernel_rfl) (by kernel_rfl) rfl ?_;refine a9 rfl rfl ⟨_,λw' L=>by subst L;simp [execOp,Act.eval,qj];rfl,?_⟩;simp only [Act.put,Ue,Uc,Uf];iterate 2 (refine a9 rfl rfl ?_;apply YG;refine ⟨λw' L=>?_,?_⟩;(first|(go_simp;done)|(go_simp;exact rfl));simp only [Act.put,Ue,Uc,Uf])
    refine sj V rfl rfl (by go_simp) ?_;rintro e l ⟨rfl,rfl⟩;refine ⟨_,rfl,λ_=>rfl,?_⟩;simp only [Act.put,Ue,Uc,Uf];refine a9 rfl rfl ⟨.slice ra (bl-lo) (c-lo),λw' L=>by rcases qp with ⟨B,rfl⟩|⟨B,rfl⟩<;>go_simp,?_⟩;simp only [Act.put,Ue,Uc,Uf];refine oe (w1:=wr.drew) rfl rfl (by simp [execOp,Act.eval,p]) (λ_=>rfl) ?_;simp only [Act.put,Ue,Uc,Uf];iterate 2 (refine a9 rfl rfl ?_;apply YG;refine ⟨λw' L=>?_,?_⟩;(first|(go_simp;done)|(go_simp;exact rfl));simp only [Act.put,Ue,Uc,Uf])
    refine gL ?_;clear qj p V g kf;obtain ⟨l,M⟩:∃ l,l=wr.drew:=⟨_,rfl⟩;rw [<- M];rename_i ko
    refine ko _ _ ?_;clear ko;go_wp2;obtain ⟨g,Z,hf,C⟩:=Hr.o;have kz:l.heap[w.heap.size]?=ZV (Z4 #[ZZ nm,Z7 Z9 (d:Int),.slice F j G] 137 (0,0)):=(by rw [M];exact g);refine Ur (v:=ZY #[.agg #[ZZ nm,Z7 Z9 (d:Int),.slice F j G],.slice ra (bl-lo) (c-lo),Z1 ZU]) (C8 results182 _ l w.heap.size 137 _ (0,0) _ _ _ rfl rfl rfl kz underlying137 rfl (by kernel_rfl)) rfl ?_;have qk:=H.o.2.2.2.2.2.2.2.1;have qc:=H.o.2.2.2.2.2.2.2.2.1;have kp:bW wr l:=(by rw [M];exact (TW _ wr).drew);refine ⟨⟨F,G,_,by rw [qs.out,qc,qk],?_,hf⟩,C.trans (kp.mono C.size)⟩;rw [qk];exact Z.keep (eu.RM kp)
def uT (d:Nat) (tx:ZN) (a b:ZR) (i:TypeInfo) (e:ZL.info? tx=ZV i) (c:i.comparable=ZU) (w:ZS):(Op.equalIn (d+1) 223 (.iface tx a) (.iface tx b)).run ZL w=(Op.equalIn d tx a b).run ZL w:=by
 simp [Op.equalIn,UO underlying223,typeInfo,e,c]
theorem Mr (D L G a c b:Int) (w:ZS):(Op.equalIn 10000 27 (.agg #[Z7 Z9 D,Z7 Z9 L,Z7 Z9 G]) (.agg #[Z7 Z9 a,Z7 Z9 c,Z7 Z9 b])).run ZL w=.ok (decide (D=a/\L=c/\G=b)) w:=by
 by_cases d:D=a
 . by_cases e:L=c
   . by_cases f:G=b
     . subst d e f;go_simp
     . have:(G==b)=ZT:=by simp [f]
       subst d e;go_simp
   . have:(L==c)=ZT:=by simp [e]
     subst d;go_simp
 . have:(D==a)=ZT:=by simp [d]
   go_simp
def Mt:∃ i:TypeInfo,ZL.info? 130=ZV i/\i.comparable=ZU:=by
 have:(ZL.info? 130).map (λi=>i.comparable)=ZV ZU:=by kernel_rfl
 rw [Wi] at this;exact this
structure Rt where
 D:Nat
 L:Nat
 G:Nat
 t:Nat
 f:Nat
 n:Nat
def Jb (x:Rt):Array ZR:=aj x.D x.L x.G x.t x.f x.n
def l8 (x:Rt):Option bw->Rt
 | some (.root D L G t f n)=>if x.t<t then ⟨D,L,G,t,f,n⟩ else x
 | _=>x
def bu (R:Nat->Option bw):Nat->Rt
 | 0=>⟨0,0,0,0,0,0⟩
 | k+1=>l8 (bu R k) (R k)
def Fk (x k:Nat):Option bw->Nat
 | some .blank=>x|||2^k
 | _=>x
def dP (R:Nat->Option bw):Nat->Nat
 | 0=>0
 | k+1=>Fk (dP R k) k (R k)
theorem nC (R:Nat->Option bw):∀ k,k<=60->dP R k<2^k
 | 0,_=>by simp [dP]
 | k+1,h=>by
  have:=nC R k (by omega);have a:2^k<2^(k+1):=V8 (by decide) (by omega);show Fk (dP R k) k (R k)<2^(k+1);unfold Fk;split
  . exact Xt (by omega) a
  . omega
def uU (e:o.guard=ZW) (x y:ZM) (ho:o.op=.store 130 x y) {b D L G t f n:Nat} {cs:Array ZR}
 (g:a.eval x=Z6 (ZV ⟨b,0,ZW⟩)) (i:a.eval y=.agg (aj D L G t f n)) (c:w.heap[b]?=ZV (Z4 cs 130 (0,0))) (d:cs.size=6) (h:wpList ZL ops Q rest (a.put o.dst ZX) (w.setRow b (aj D L G t f n))):wpList ZL ops Q (o::rest) a w:=by
 refine VZ e λK hK=>?_;unfold Oper.wp;simp [execOp,ho,g,i,tW c d,Result.andThen];exact hK _ _ h
def OH (v:ZR) (w:ZS):(Instr.typeAssert (.iface 130 v) 223 130 ZU).run ZL w=.ok (ZY #[v,Z1 ZU]) w:=by
 simp [Instr.typeAssert,UO XD]
def Fl:Option bw->Bool
 | some (.root ..)=>ZU
 | _=>ZT
def Fm {o:Option bw} (h:Fl o=ZT) (w:ZS):(Instr.typeAssert (gD o) 223 130 ZU).run ZL w=.ok (ZY #[.agg (aj 0 0 0 0 0 0),Z1 ZT]) w:=by
 match o,h with
 | none,_|some .blank,_|some .filled,_|some (.shard _),_=>simp [gD,cZ,Instr.typeAssert,UO XD];rfl
def Fo (w:ZS):(zeroValue 238).run ZL w=.ok (.agg #[]) w:=by
 obtain ⟨a,b,c⟩:∃ a,ZL.info? 238=ZV a/\a.zero=ZV (.agg #[]):=by
  have:(ZL.info? 238).map (λi=>i.zero)=ZV (ZV (.agg #[])):=by kernel_rfl
  rw [Wi] at this;exact this
 simp [zeroValue,typeInfo,Ux,b,c]
def Mu (v:ZR) (w:ZS):(Instr.typeAssert (.iface 238 v) 223 238 ZU).run ZL w=.ok (ZY #[v,Z1 ZU]) w:=by
 simp [Instr.typeAssert,UO underlying238]
def sJ:Option bw->Bool
 | some .blank=>ZU
 | _=>ZT
def C9 {o:Option bw} (h:sJ o=ZT) (w:ZS):(Instr.typeAssert (gD o) 223 238 ZU).run ZL w=.ok (ZY #[.agg #[],Z1 ZT]) w:=by
 match o,h with
 | none,_|some (.root ..),_|some .filled,_|some (.shard _),_=>simp [gD,cZ,Instr.typeAssert,UO underlying238]
def GK {o:Option bw} (h:sJ o=ZT):Fk x k o=x:=by
 match o,h with
 | none,_|some (.root ..),_|some .filled,_|some (.shard _),_=>rfl
def Jc {x:Rt} {o:Option bw} (h:Fl o=ZT):l8 x o=x:=by
 match o,h with
 | none,_|some .blank,_|some .filled,_|some (.shard _),_=>rfl
def fK (w:ZS) (D L G t f n:Nat):ZS:=(w.alloc (Z4 (aj 0 0 0 0 0 0) 130)).setRow w.heap.size (aj D L G t f n)
def uV (w:ZS) (D L G t f n:Nat):(fK w D L G t f n).heap[w.heap.size]?=ZV (Z4 (aj D L G t f n) 130 (0,0)):=Vv _ _ _ _ _ _ (Ug w (Z4 (aj 0 0 0 0 0 0) 130))
def eW (w:ZS) (D L G t f n:Nat):bW w (fK w D L G t f n):=(bA w _).trans ⟨rfl,rfl,rfl,by unfold fK;rw [gz];exact TV _,λk a=>(aL _ _ _).block k (by simp;omega) (λq=>by have:=UJ q;omega)⟩
def Aw (b:o.guard=ZW) (x y:ZM) (ho:o.op=.store 130 x y) {D L G t f n:Nat}
 (c:a.eval x=Z6 (ZV ⟨w.heap.size,0,ZW⟩)) (d:a.eval y=.agg (aj D L G t f n)) (h:wpList ZL ops Q rest (a.put o.dst ZX) (fK w D L G t f n)):wpList ZL ops Q (o::rest) a (w.alloc (Z4 (aj 0 0 0 0 0 0) 130)):=
 uU b x y ho c d (Ug _ _) rfl h
def BkR (w:ZS) (R:Nat->Option bw) (N:Nat) (s i:ZR) (wr:ZS):Prop:=∃ k:Nat,k<=N/\i=Z7 Z9 k/\s=Z7 Z8 (dP R k:Nat)/\bW w wr
theorem uW (R:Nat->Option bw) (v:N<=60) (d:w.rowIs g 223 N (λi=>gD (R i))) :
 ZP ZL 96 #[Z5 (ZV ⟨g,0,ZW⟩) N N] w λe w'=>e=Z3 (Z7 Z8 (dP R N:Nat))/\bW w w':=by
 have q:=d.lt;have y:=Fo;go_enter func96,ntmps96;go_wp2_with fail;go_loopw [2,9] (λs i wr=>BkR w R N s i wr) (λ_ i _=>N-(intOf i).toNat)
 case atStart=>exact ⟨0,T5 _,rfl,rfl,TW _ _⟩
 case round=>
  obtain ⟨k,x,rfl,rfl,a⟩:=hrel;by_cases t:k<N
  . have j:wr.rowIs g 223 N (λi=>gD (R i)):=d.of_block (a.block g q);have c:=j.cell (i:=k) t;have b:dP R (k+1)=Fk (dP R k) k (R k):=rfl;have h:=nC R k (by omega);have p:dP R k<18446744073709551616:=Xa h (F7 (by omega));have l:=a.size;cases f:sJ (R k) with
    | false=>
     have n:=C9 f;rw [GK f] at b;obtain ⟨u,m⟩:=nM (gD (R k));simp only [m] at c n;have H:=al a b;clear a j b h d m;go_wp2;refine ⟨⟨k+1,by omega,by go_num,by rw [H.o.2],H.o.1.alloc l _⟩,by simp [intOf];omega⟩
    | true=>
     have f:R k=ZV .blank:=by
      match R k,f with
      | some .blank,_=>rfl
     have n:=Mu;rw [f] at c b;simp only [gD,cZ] at c;have H:=al a b;clear a j b h d;go_wp2_with fail;refine (lD _ k p (by omega) _).mono ?_;rintro e w2 ⟨rfl,rfl⟩;go_wp2;refine ⟨⟨k+1,by omega,by go_num,by rw [H.o.2];rfl,H.o.1.alloc l _⟩,by simp [intOf];omega⟩
  . have r:k=N:=(by omega);subst r;have H:=ak a;clear a d;go_wp2;go_ret;exact ⟨rfl,H.o⟩
def LrR (w:ZS) (R:Nat->Option bw) (N:Nat) (i:ZR) (wr:ZS):Prop:=∃ k:Nat,k<=N/\i=Z7 Z9 k/\wr.heap[w.heap.size]?=ZV (Z4 (Jb (bu R k)) 130 (0,0))/\bW w wr
theorem Ay (R:Nat->Option bw) (W:N<=60) (h:w.rowIs g 223 N (λi=>gD (R i))) :
 ZP ZL 92 #[Z5 (ZV ⟨g,0,ZW⟩) N N] w λe w'=>e=Z3 (.agg (Jb (bu R N)))/\bW w w':=by
 have Q:=h.lt;have E:(w.alloc (Z4 (aj 0 0 0 0 0 0) 130)).heap[w.heap.size]?=ZV (Z4 (Jb (bu R 0)) 130 (0,0)):=Ug _ _;have I:bW w (w.alloc (Z4 (aj 0 0 0 0 0 0) 130)):=bA w _;have X:=xS;go_enter func92,ntmps92;go_wp2_with fail;go_loopw [9] (λi wr=>LrR w R N i wr) (λi _=>N-(intOf i).toNat)
 case atStart=>exact ⟨0,T5 _,rfl,E,I⟩
 case round=>
  clear E I;obtain ⟨k,p,rfl,d,a⟩:=hrel;by_cases T:k<N
  . have z:wr.rowIs g 223 N (λi=>gD (R i)):=h.of_block (a.block g Q);have c:=z.cell (i:=k) T;have hl:bu R (k+1)=l8 (bu R k) (R k):=rfl;have K:=a.size;have F:w.heap.size<wr.heap.size:=(TX.1 d).1;have x:(fK wr 0 0 0 0 0 0).heap[w.heap.size]?=ZV (Z4 (Jb (bu R k)) 130 (0,0)):=((eW wr 0 0 0 0 0 0).block _ F).trans d;have s:bW w (fK wr 0 0 0 0 0 0):=a.trans ((eW wr 0 0 0 0 0 0).mono K);cases j:Fl (R k) with
    | false=>
     have t1:=Fm j;rw [Jc j] at hl;obtain ⟨u,M⟩:=nM (gD (R k));simp only [M] at c t1;have H:=aE x s hl;clear d a z hl h x s M;go_wp2_with (show wpList _ _ _ ({ dst:=ZW,op:=Op.store 130 (Z0 5) (Z0 16),type:=_,pos:=_,after:=_,guard:=_ }::_) _ _;refine Aw (w:=wr) (D:=0) (L:=0) (G:=0) (t:=0) (f:=0) (n:=0) rfl (Z0 5) (Z0 16) rfl (by rfl) (by rfl) ?_);refine ⟨⟨k+1,by omega,by go_num,by rw [H.o.2.2];exact H.o.1,H.o.2.1⟩,by simp [intOf];omega⟩
    | true=>
     obtain ⟨D,L,G,t,f,n,j⟩:∃ D L G t f n,R k=ZV (.root D L G t f n):=by
      match R k,j with
      | some (.root ..),_=>exact ⟨_,_,_,_,_,_,rfl⟩
     have t1:=OH;rw [j] at c hl;simp only [gD,cZ] at c;have m:=uV wr D L G t f n;have l:(fK wr D L G t f n).heap[w.heap.size]?=ZV (Z4 (Jb (bu R k)) 130 (0,0)):=((eW wr D L G t f n).block _ F).trans d;have y:bW w (fK wr D L G t f n):=a.trans ((eW wr D L G t f n).mono K);obtain ⟨O,A⟩:=nM (fK wr D L G t f n);rw [A] at m l y;have V:O.cell? ⟨wr.heap.size,3,ZW⟩=ZV (Z7 Z8 t):=(by simp [World.cell?,m,aj]);have c0:O.cell? ⟨w.heap.size,3,ZW⟩=ZV (Z7 Z8 (bu R k).t):=(by simp [World.cell?,l,Jb,aj]);have H:=a6 A m l y hl;clear d a z hl h A m l y x s;by_cases J:(bu R k).t<t
     . go_wp2_with (first|(show wpList _ _ _ ({ dst:=ZW,op:=Op.store 130 (Z0 5) (Z0 16),type:=_,pos:=_,after:=_,guard:=_ }::_) _ _;refine Aw (w:=wr) (D:=D) (L:=L) (G:=G) (t:=t) (f:=f) (n:=n) rfl (Z0 5) (Z0 16) rfl (by rfl) (by rfl) ?_;rw [H.o.1])|(show wpList _ _ _ ({ dst:=ZV 26,op:=_,type:=_,pos:=_,after:=_,guard:=_ }::_) _ _;refine kO (D:=D) (L:=L) (G:=G) (t:=t) (f:=f) (n:=n) (b:=wr.heap.size) rfl (Z0 5) rfl rfl (by rfl) (by exact H.o.2.1) ?_)|(show wpList _ _ _ ({ dst:=ZW,op:=Op.store 130 (Z0 2) (Z0 26),type:=_,pos:=_,after:=_,guard:=_ }::_) _ _;refine uU (D:=D) (L:=L) (G:=G) (t:=t) (f:=f) (n:=n) (b:=w.heap.size) (cs:=Jb (bu R k)) rfl (Z0 2) (Z0 26) rfl (by rfl) (by rfl) (by exact H.o.2.2.1) rfl ?_));obtain ⟨_,U,B,r,C⟩:=H.o;refine ⟨⟨k+1,by omega,by go_num,?_,r.trans ⟨rfl,rfl,rfl,by rw [gz];exact TV _,λk p=>(aL _ _ _).block k (TZ p r.size) (λq=>by have:=UJ q;omega)⟩⟩,by simp [intOf];omega⟩;rw [C];rw [show l8 (bu R k) (ZV (.root D L G t f n))=⟨D,L,G,t,f,n⟩ from TT J];exact Vv _ _ _ _ _ _ B
     . go_wp2_with (show wpList _ _ _ ({ dst:=ZW,op:=Op.store 130 (Z0 5) (Z0 16),type:=_,pos:=_,after:=_,guard:=_ }::_) _ _;refine Aw (w:=wr) (D:=D) (L:=L) (G:=G) (t:=t) (f:=f) (n:=n) rfl (Z0 5) (Z0 16) rfl (by rfl) (by rfl) ?_;rw [H.o.1]);obtain ⟨_,U,B,r,C⟩:=H.o;refine ⟨⟨k+1,by omega,by go_num,?_,r⟩,by simp [intOf];omega⟩;rw [C];rw [show l8 (bu R k) (ZV (.root D L G t f n))=bu R k from TS J];exact B
  . have S:k=N:=(by omega);subst S;have H:=al d a;clear d a h;go_wp2_with (first|(show wpList _ _ _ ({ dst:=ZV 28,op:=_,type:=_,pos:=_,after:=_,guard:=_ }::_) _ _;refine kO (b:=w.heap.size) (ra:=Jb (bu R k)) rfl (Z0 2) rfl rfl (by rfl) (by exact H.o.1) ?_)|(show wpList _ _ _ ({ dst:=ZW,op:=Op.store 130 (Z0 2) (Z0 28),type:=_,pos:=_,after:=_,guard:=_ }::_) _ _;refine uU (b:=w.heap.size) (cs:=Jb (bu R k)) (D:=(bu R k).D) (L:=(bu R k).L) (G:=(bu R k).G) (t:=(bu R k).t) (f:=(bu R k).f) (n:=(bu R k).n) rfl (Z0 2) (Z0 28) rfl (by rfl) (by rfl) (by exact H.o.1) rfl ?_));have P:=Vv _ _ _ (Jb (bu R k)) _ _ H.o.1;refine Ur (v:=.agg (Jb (bu R k))) (V4 results92 _ _ w.heap.size 130 (Jb (bu R k)) (0,0) _ rfl P XD rfl (kN _ _ _ _ _ _)) rfl ?_;exact ⟨rfl,H.o.2.trans ⟨rfl,rfl,rfl,by rw [gz];exact TV _,λk p=>(aL _ _ _).block k (TZ p H.o.2.size) (λq=>by have:=UJ q;omega)⟩⟩
def yP (t:ZN) (y:ZR) (w:ZS):(Op.equalIn 10000 223 .nilIface (.iface t y)).run ZL w=.ok ZT w:=by
 rw [Op.equalIn];simp [Ux,UO underlying223,UM]
def Mw:bw->Prop
 | .filled=>True
 | .root ..=>True
 | _=>False
def Da:∃ i:TypeInfo,ZL.info? 181=ZV i/\i.comparable=ZU:=by
 have:(ZL.info? 181).map (λi=>i.comparable)=ZV ZU:=by kernel_rfl
 rw [Wi] at this;exact this
theorem Jd {o:Option bw} (d:Mw r) (h:o=ZW\/o=ZV r):∃ b,∀ w:ZS,(Op.equalIn 10000 223 (gD o) (cZ r)).run ZL w=.ok b w:=by
 match r,d with
 | .filled,_=>
  rcases h with rfl|rfl
  . exact ⟨_,yP _ _⟩
  . obtain ⟨i,a,c⟩:=Da;exact ⟨ZU,λw=>(uT 9999 181 _ _ i a c w).trans (by go_simp)⟩
 | .root D L G t f n,_=>
  rcases h with rfl|rfl
  . exact ⟨_,yP _ _⟩
  . obtain ⟨i,a,c⟩:=Mt;exact ⟨ZU,λw=>(uT 9999 130 _ _ i a c w).trans (by unfold aj;go_simp)⟩
def uX (o:Option bw):gD o=.nilIface\/∃ t x,gD o=.iface t x:=by
 cases o with
 | none=>exact .inl rfl
 | some r=>exact .inr (iK r)
def Fp {o:Option bw} (d:Mw r) (h:o=ZW\/o=ZV r):∃ b,∀ w:ZS,(binOp .neq 223 (gD o) (cZ r)).run ZL w=.ok (Z1 b) w:=by
 obtain ⟨b,c⟩:=Jd d h;refine ⟨!b,λw=>?_⟩;have a:=c w;obtain ⟨t,x,f⟩:=iK r;rcases uX o with e|⟨g,y,e⟩<;>(rw [e,f] at a ⊢;simp only [binOp];simp [Op.equal,Op.maxDepth,a])
def UgR (w:ZS) (N:Nat) (s i:ZR) (wr:ZS):Prop:=∃ k x:Nat,k<=N/\i=Z7 Z9 k/\s=Z7 Z8 x/\x<2^k/\wr=w
theorem uY {R:Nat->Option bw} (E:N<=60) (q:Mw r) (hr:∀ i,i<N->R i=ZW\/R i=ZV r) (a:w.rowIs g 223 N (λi=>gD (R i))) :
 ZP ZL 130 #[Z5 (ZV ⟨g,0,ZW⟩) N N,cZ r] w λe w'=>∃ x:Nat,e=Z3 (Z7 Z8 x)/\x<2^N/\w'=w:=by
 have f:∀ i,i<N->∃ b,∀ w:ZS,(binOp .neq 223 (gD (R i)) (cZ r)).run ZL w=.ok (Z1 b) w:=λi C=>Fp q (hr i C);obtain ⟨G,rv,n⟩:=iK r;rw [n] at f ⊢;clear n hr q;have v:=ak f;clear f;go_enter func130,ntmps130;go_wp2_with fail;go_loopw [4,9] (λs i wr=>UgR w N s i wr) (λ_ i _=>N-(intOf i).toNat)
 case atStart=>exact ⟨0,0,T5 _,rfl,rfl,by decide,rfl⟩
 case round=>
  obtain ⟨k,x,F,rfl,rfl,d,rfl⟩:=hrel;by_cases m:k<N
  . have c:=a.cell (i:=k) m;have A:x<18446744073709551616:=Xa d (F7 (by omega));have j:=lD x k A (by omega) wr;have h:x|||2^k<2^(k+1):=Xt (Xa d (V8 (by decide) (by omega))) (V8 (by decide) (by omega));have p:x<2^(k+1):=Xa d (V8 (by decide) (by omega));have H:=ak a;clear a;obtain ⟨b,B⟩:=v.o k m;obtain ⟨y,D⟩:=nM (x|||2^k);rw [D] at j h;have l:=ak j;clear j;rcases uX (R k) with t|⟨I,u,t⟩<;>simp only [t] at c B<;>cases b
    . go_wp2;exact ⟨⟨k+1,x,by omega,by go_num,rfl,p,rfl⟩,by simp [intOf];omega⟩
    . go_wp2_with fail;refine l.o.mono ?_;rintro e w' ⟨rfl,rfl⟩;go_wp2;exact ⟨⟨k+1,y,by omega,by go_num,rfl,h,rfl⟩,by simp [intOf];omega⟩
    . go_wp2;exact ⟨⟨k+1,x,by omega,by go_num,rfl,p,rfl⟩,by simp [intOf];omega⟩
    . go_wp2_with fail;refine l.o.mono ?_;rintro e w' ⟨rfl,rfl⟩;go_wp2;exact ⟨⟨k+1,y,by omega,by go_num,rfl,h,rfl⟩,by simp [intOf];omega⟩
  . have z:k=N:=(by omega);subst z;clear a;go_wp2;go_ret;exact ⟨x,rfl,d,rfl⟩
section
variable {X:ZS} {p:Nat} {A:gQ} {F:aQ}
def gO (f:Nat->a8) (nb:Nat):List ZR:=(YF (64*nb)).map λk=>Z7 .u8 (((f (k/64)).getD (k%64) 0:Nat):Int)
def gP (g:Nat->Bool) (nb:Nat):List ZR:=(YF nb).map λk=>Z1 (g k)
def uZ (f:Nat->a8) (nb:Nat):(gO f nb).length=64*nb:=by unfold gO;rw [T9,UK]
def u9 (g:Nat->Bool) (nb:Nat):(gP g nb).length=nb:=by unfold gP;rw [T9,UK]
theorem ah.TJ (h:ah X p A F) (i:Nat) (a:i<A.n) (f:Nat->a8) (hl:∀ j,(f j).length=64/\∀ x∈f j,x<256):ah (X.setCells (F.bb i) 0 (gO f A.nb)) p (A.RU i f) F:=by
 refine h.RU a ((fA (gO f A.nb) 0 X _ (h.blk i a)).congr λm c=>?_) (λk b=>aU _ _ _ _ _ b) hl;rw [TT ⟨T5 _,by rw [uZ];omega⟩,Yx,T6];unfold gO;rw [UA,VP c];rfl
theorem ah.TL (h:ah X p A F) (i:Nat) (a:i<A.n) (g:Nat->Bool):ah (X.setCells (F.bd i) 0 (gP g A.nb)) p (A.RY i g) F:=by
 refine h.RY a ((fA (gP g A.nb) 0 X _ (h.bad i a)).congr λm c=>?_) (λk b=>aU _ _ _ _ _ b);rw [TT ⟨T5 _,by rw [u9];omega⟩,Yx,T6];unfold gP;rw [UA,VP c];rfl
def nD (A:gQ) (k:Nat):gQ:=⟨A.n,A.nb,λi=>if i<k then A.bad i else λ_=>ZT,λi=>if i<k then A.blk i else λ_=>zb⟩
theorem Pz (k:Nat) (f:Nat->α) (z:α):(λi=>if i=k then f k else if i<k then f i else z)=λi=>if i<k+1 then f i else z:=by
 funext i;by_cases e:i=k
 . subst e;simp
 . rw [TS e];by_cases q:i<k
   . rw [TT q,TT (by omega)]
   . rw [TS q,TS (by omega)]
def Je (A:gQ):nD A 0=tZ A.n A.nb:=by unfold nD tZ;simp
def Jf (A:gQ) (k:Nat):((nD A k).RU k (A.blk k)).RY k (A.bad k)=nD A (k+1):=by
 unfold nD gQ.RU gQ.RY;simp only [gQ.mk.injEq,true_and];exact ⟨Pz k A.bad _,Pz k A.blk _⟩
def Tryz.TD:(ZL.info? 102).map (·.size)=ZV 64:=by kernel_rfl
def Tryz.Tg:(ZL.info? 4).map (·.size)=ZV 1:=by kernel_rfl
def ve (h:w.rowIs b t n f):∃ cur:List ZR,an w b t cur/\cur.length=n:=by
 obtain ⟨c,a,d,_⟩:=h;refine ⟨c.toList,?_,by simpa using d⟩;unfold an;rw [a,Array.toArray_toList]
def Mx {B:gQ} {E:aQ} (h:ah w p A F) (k:ah w q B E) (i:Nat) (o:i<A.n) (r:i<B.n) (l:B.nb=A.nb) (f:ZN) :
 (Builtin.copy_ #[92,92] f #[Z5 (ZV ⟨E.bb i,0,ZW⟩) A.nb A.nb,Z5 (ZV ⟨F.bb i,0,ZW⟩) A.nb A.nb]).run ZL w=.ok (goInt A.nb) (w.setCells (E.bb i) 0 (gO (A.blk i) A.nb)):=by
 obtain ⟨cur,m,g⟩:=ve (k.blk i r);have b:=uZ (A.blk i) A.nb;have d:YI A.nb A.nb=A.nb:=YQ _;have:=ea (P:=ZL) w 92 92 f 102 64 (E.bb i) 0 A.nb A.nb (F.bb i) 0 A.nb A.nb 102 cur (gO (A.blk i) A.nb) underlying92 Tryz.TD (by rw [b,d];omega) (λj v a=>by
  unfold gO at a;rw [UA] at a;by_cases c:j<64*A.nb
  . rw [VP c] at a;rw [Ui,(h.blk i o).cell c];exact a
  . rw [Vo (by rw [UK];omega)] at a;cases a) m (by rw [b,g,l];omega) (λv e=>by
  unfold gO at e;obtain ⟨x,_,rfl⟩:=T7.1 e;rfl)
 rw [d] at this;exact this
def My {B:gQ} {E:aQ} (h:ah w p A F) (k:ah w q B E) (i:Nat) (o:i<A.n) (r:i<B.n) (l:B.nb=A.nb) (f:ZN) :
 (Builtin.copy_ #[93,93] f #[Z5 (ZV ⟨E.bd i,0,ZW⟩) A.nb A.nb,Z5 (ZV ⟨F.bd i,0,ZW⟩) A.nb A.nb]).run ZL w=.ok (goInt A.nb) (w.setCells (E.bd i) 0 (gP (A.bad i) A.nb)):=by
 obtain ⟨cur,m,g⟩:=ve (k.bad i r);have b:=u9 (A.bad i) A.nb;have d:YI A.nb A.nb=A.nb:=YQ _;have:=ea (P:=ZL) w 93 93 f 4 1 (E.bd i) 0 A.nb A.nb (F.bd i) 0 A.nb A.nb 4 cur (gP (A.bad i) A.nb) underlying93 Tryz.Tg (by rw [b,d];omega) (λj v a=>by
  unfold gP at a;rw [UA] at a;by_cases c:j<A.nb
  . rw [VP c] at a;rw [Ui,(h.bad i o).cell c];exact a
  . rw [Vo (by rw [UK];omega)] at a;cases a) m (by rw [b,g,l];omega) (λv e=>by
  unfold gP at e;obtain ⟨x,_,rfl⟩:=T7.1 e;rfl)
 rw [d] at this;exact this
structure Mz (w:ZS) (p c:Nat) (A B:gQ) (F E:aQ):Prop where
 a:ah w p A F
 b:ah w c B E
 n:B.n=A.n
 nb:B.nb=A.nb
 ap:∀ k,F.S k->¬ E.S k
def Mz.facts {B:gQ} {E:aQ} (h:Mz w p c A B F E) (i:Nat) (o:i<A.n) :
 (w.cell? ⟨p,0,ZW⟩=ZV (Z5 (ZV ⟨F.g,0,ZW⟩) A.n F.cap)/\w.cell? ⟨c,0,ZW⟩=ZV (Z5 (ZV ⟨E.g,0,ZW⟩) A.n E.cap))/\(p≠E.g/\c≠E.g/\F.g≠E.g)/\(p≠E.bb i/\c≠E.bb i/\F.g≠E.bb i/\E.g≠E.bb i)/\(p≠E.bd i/\c≠E.bd i/\F.g≠E.bd i/\E.g≠E.bd i):=by
 obtain ⟨c0,_⟩:=h.a.RT;obtain ⟨c1,_⟩:=h.b.RT;rw [h.n] at c1;have d:i<B.n:=by rw [h.n];exact o
 have a:=(h.b.apart.2.1 i d);have j:=h.a.sp;have f:=h.a.sg;have k:=h.b.sb d;have l:=h.b.sd d;have m:=h.b.sg;exact ⟨⟨c0,c1⟩,⟨λe=>h.ap _ j (e▸m),h.b.apart.1,λe=>h.ap _ f (e▸m)⟩,⟨λe=>h.ap _ j (e▸k),Vq a.1,λe=>h.ap _ f (e▸k),Vq a.2.1⟩,⟨λe=>h.ap _ j (e▸l),Vq a.2.2.1,λe=>h.ap _ f (e▸l),Vq a.2.2.2⟩⟩
def CpR (w:ZS) (c:Nat) (A:gQ) (E:aQ) (i:ZR) (wr:ZS):Prop:=∃ k:Nat,k<=A.n/\i=Z7 Z9 (k:Nat)/\bW w wr/\ah wr c (nD A k) E
def aaE (w:ZS) (A:gQ) (e:ZO) (w':ZS):Prop:=∃ E:aQ,e=Z3 (Z6 (ZV ⟨w.heap.size,0,ZW⟩))/\bW w w'/\ah w' w.heap.size (nD A A.n) E/\∀ k,E.S k->w.heap.size<=k
theorem Db (h:ah w p A F) (Z:0<A.n) :
 ZP ZL 31 #[Z6 (ZV ⟨p,0,ZW⟩)] w (aaE w A):=by
 have W:=h.n;have ka:=h.nb;have m:=aE h W ka;clear h;go_enter func31,ntmps31;have s:=m.o.1.RT.1;have k7:=kH (m.o.1.keep (Y:=w.drew) λ_ _=>rfl) Z;have kb:=oM A.n A.nb w.drew Z W ka;go_upto_region 1 with fail;go_cut [3] from 5 to 72 (λv3 wx=>v3=Z6 (ZV ⟨w.heap.size,0,ZW⟩)/\Ls A.n A.nb w.drew (Z3 (Z6 (ZV ⟨w.heap.size,0,ZW⟩))) wx)
 case first=>
  go_region_with (first|(go_at_call 36;refine k7.mono ?_;rintro e wz ⟨rfl,rfl⟩)|(go_at_call 14;refine kb.mono ?_;rintro e wz T;obtain ⟨rfl,_⟩:=id T;have HZ:=ak T;clear T));all_goals (go_wp2_with fail;go_meet;case rel=>exact ⟨rfl,HZ.o⟩)
 case rest=>
 obtain ⟨rfl,ki,k5,E,z,G⟩:=hcut;clear ki k7 kb s;change ah _ w.heap.size (tZ A.n A.nb) E at z;change ∀ k,E.S k->w.heap.size<=k at G;have K:bW w wc:=((TW _ w).drew).trans k5;have hy:ah wc p A F:=m.o.1.below K lR;have q0:=hy.RT.1;have k0:∀ k,F.S k->k<w.heap.size:=λk X=>m.o.1.RO X;obtain ⟨c,D⟩:=nM (w.heap.size);rw [<- Je] at z;rw [D] at z G;have l:=a6 z G K k0 D;rw [D];clear z G k5 K hy k0 D;go_wp2_with fail;go_loopw [18] (λi wr=>CpR w c A E i wr) (λi _=>A.n-(intOf i).toNat)
 case atStart=>exact ⟨0,T5 _,rfl,l.o.2.2.1,l.o.1⟩
 case round=>
  obtain ⟨k,X,rfl,B,H⟩:=hrel;by_cases d:k<A.n
  . have kj:(k:Int)<(A.n:Int):=(by omega);have v:Mz wr p c A (nD A k) F E:=⟨m.o.1.below B lR,H,rfl,rfl,λj h1 h2=>by have:=l.o.2.2.2.1 j h1;have:=l.o.2.1 j h2;have:=l.o.2.2.2.2;omega⟩;obtain ⟨⟨s,C⟩,_,_,_⟩:=v.facts k d;have l0:=(v.a.Sc k d).1;have m0:=(v.b.Sc k d).1;have f0:=v.b.SH (k*4);have y:=al v B;clear B H v;go_wp2_with fail;go_region;clear s C l0 m0 f0;have u:ah (wr.setCell ⟨E.g,k*4,ZW⟩ (Z1 ZT)).drew c (nD A k) E:=(y.o.1.b.TP k).keep λ_ _=>rfl;have O:aa (λj=>j=E.g) wr (wr.setCell ⟨E.g,k*4,ZW⟩ (Z1 ZT)).drew:=(aa.setCell (S:=λj=>j=E.g) wr ⟨E.g,k*4,ZW⟩ _ rfl).trans (aa.drew _);obtain ⟨w2,kc⟩:=nM ((wr.setCell ⟨E.g,k*4,ZW⟩ (Z1 ZT)).drew);rw [kc] at u O ⊢;have I:∀ j,E.S j->w.heap.size<=j:=λj t=>by have:=l.o.2.1 j t;have:=l.o.2.2.2.2;omega
    have kg:=I _ u.sg;have k8:=I _ (u.sb d);have k9:=I _ (u.sd d);have Q:bW w w2:=y.o.2.trans (O.below λj t=>⟨TZ t y.o.2.size,λe=>by omega⟩);have q:Mz w2 p c A (nD A k) F E:=⟨m.o.1.below Q lR,u,rfl,rfl,y.o.1.ap⟩;have L:=Mx (q.a.keep (Y:=w2.drew) λ_ _=>rfl) (q.b.keep (Y:=w2.drew) λ_ _=>rfl) k d d rfl;obtain ⟨⟨s,C⟩,_,_,_⟩:=q.facts k d;have l1:=(q.a.Sc k d).2.1;have m1:w2.cell? ⟨E.g,k*4+1,ZW⟩=ZV (Z5 (ZV ⟨E.bb k,0,ZW⟩) A.nb A.nb):=(q.b.Sc k d).2.1;have x:=a5 q Q k8 k9;clear u O kc I kg k8 k9 Q q;go_wp2_with fail;go_region;clear s C l1 m1 L;have M:ah (w2.drew.setCells (E.bb k) 0 (gO (A.blk k) A.nb)) c ((nD A k).RU k (A.blk k)) E:=(x.o.1.b.keep (Y:=w2.drew) λ_ _=>rfl).TJ k d (A.blk k) (m.o.1.len k);have hr:aa (λj=>j=E.bb k) w2 (w2.drew.setCells (E.bb k) 0 (gO (A.blk k) A.nb)):=(aa.drew w2).trans (aa.setCells _ _ _ _ rfl);obtain ⟨f,ke⟩:=nM (w2.drew.setCells (E.bb k) 0 (gO (A.blk k) A.nb));rw [ke] at M hr ⊢;have R:bW w f:=x.o.2.1.trans (hr.below λj t=>⟨TZ t x.o.2.1.size,λe=>by have:=x.o.2.2.1;omega⟩);have r:Mz f p c A ((nD A k).RU k (A.blk k)) F E:=⟨m.o.1.below R lR,M,rfl,rfl,y.o.1.ap⟩;have L:=My (r.a.keep (Y:=f.drew) λ_ _=>rfl) (r.b.keep (Y:=f.drew) λ_ _=>rfl) k d d rfl;obtain ⟨⟨s,C⟩,_,_,_⟩:=r.facts k d;have l2:=(r.a.Sc k d).2.2.1;have m2:f.cell? ⟨E.g,k*4+2,ZW⟩=ZV (Z5 (ZV ⟨E.bd k,0,ZW⟩) A.nb A.nb):=(r.b.Sc k d).2.2.1;have J:=al r R;clear M hr ke R r;go_wp2_with fail;go_region;clear s C l2 m2 L;have N:ah (f.drew.setCells (E.bd k) 0 (gP (A.bad k) A.nb)) c (nD A (k+1)) E:=by
     have:=(J.o.1.b.keep (Y:=f.drew) λ_ _=>rfl).TL k d (A.bad k);rw [Jf] at this;exact this
    have P:aa (λj=>j=E.bd k) f (f.drew.setCells (E.bd k) 0 (gP (A.bad k) A.nb)):=(aa.drew f).trans (aa.setCells _ _ _ _ rfl);obtain ⟨w4,kf⟩:=nM (f.drew.setCells (E.bd k) 0 (gP (A.bad k) A.nb));rw [kf] at N P ⊢;have k6:bW w w4:=J.o.2.trans (P.below λj t=>⟨TZ t J.o.2.size,λe=>by have:=x.o.2.2.2;omega⟩);have V:CpR w c A E (Z7 Z9 ((k:Int)+1)) w4:=⟨k+1,by omega,rfl,k6,N⟩;have H4:=ak V;clear N P kf k6 V;go_wp2;exact ⟨H4.o,by simp [intOf];omega⟩
  . have kh:k=A.n:=(by omega);subst kh;have U:=al B H;clear B H;go_wp2;go_ret;have e:=l.o.2.2.2.2;subst e;exact ⟨E,rfl,U.o.1,U.o.2,l.o.2.1⟩
def aba (w:ZS) (A:aF) (e:ZO) (w':ZS):Prop:=∃ E:aQ,e=Z3 (Z6 (ZV ⟨w.heap.size,0,ZW⟩))/\bW w w'/\aA w' w.heap.size A E/\∀ k,E.S k->w.heap.size<=k
def Dd {A:aF} (h:aA w p A F) (f:0<A.n) :
 ZP ZL 31 #[Z6 (ZV ⟨p,0,ZW⟩)] w (aba w A):=by
 obtain ⟨R,d,a⟩:=h;refine (Db d (by rw [a.n];exact f)).mono ?_;rintro e w' ⟨E,g,j,k,l⟩;refine ⟨E,g,j,⟨_,k,a.n,a.nb,λi b c=>?_,λi b c=>?_⟩,l⟩
 . rw [<- a.rd i b c];unfold gQ.rd nD;rw [a.n];simp only [TT c]
 . have q:=a.tn i b c;unfold nD;rw [a.n];simpa only [TT c] using q
end
