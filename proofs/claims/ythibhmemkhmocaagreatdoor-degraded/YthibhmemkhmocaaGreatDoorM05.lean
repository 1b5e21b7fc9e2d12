import Derived.Test.YthibhmemkhmocaaGreatDoorM04
import Derived.OwnWalk
import Derived.Lib.BufferWrite
import Derived.Lib.AppendZerosOnto
import Derived.Lib.Overlaps
import Derived.Laws.Externs
import Derived.Shelf.RegionOpenPlain
import Derived.Laws.Cover1
import Derived.Laws.EntriesVeiled
import Derived.Deep.RegionHeld3
import Derived.Laws.BytesString
set_option maxRecDepth 100000
set_option linter.all false
set_option maxHeartbeats 8000000
open Go.IntKind renaming i64 -> Z9, u64 -> Z8
open Go.Value renaming int -> Z7, pointer -> Z6, slice -> Z5, string -> Z1, tuple -> Z0
open Go.Obj renaming cells -> Z4
open Go.Ending renaming returned -> Z3
open Go.Operand renaming tmp -> Z2
open Go renaming undef -> ZZ, World -> ZU, Value -> ZT, Calls -> ZR, Ending -> ZQ, TypeId -> ZP, Boxed -> ZO
open Option renaming none -> ZY, some -> ZX
open Bool renaming true -> ZW, false -> ZV
open Go.RowKit renaming Below -> ZS
open List renaming range -> YF, replicate -> YG, map_congr_left -> YH, takeWhile_cons -> YL, take_take -> YP, nodup_range -> YQ, length -> YR, mem_flatten -> YU, map_singleton -> YV, map_replicate -> YW, drop_eq_nil_of_le -> YX, take_sublist -> YZ, drop_sublist -> Y3, count_append -> Y6
open Exists renaming intro -> YI
open Nat renaming min -> YJ, reduceAdd -> YM, reduceSub -> YN, succ_lt_succ -> YY, pos_of_ne_zero -> Y5
open ByteArray renaming empty -> YK
open List.Pairwise renaming sublist -> YO
open Array renaming size_modify -> YS, getElem_modify_self -> YT, toList_append -> Y4
open Go.Proofs.Tryz renaming prog -> ZN
open Go.Proofs.Tryz
namespace Go.Proofs.YthibhmemkhmocaaGreatDoor
def Yn:=@Go.ByteArray.toList_eq
def Yo:=@List.mem_flatMap
def XN:=@Go.Src.ofNil
def VD:=@Go.Proofs.Tryz.underlying144
def XO:=@Bool.or_eq_false_iff
def XP:=@Nat.eq_or_lt_of_le
def Yp:=@List.getElem_drop
def abI:=@List.getElem_take
def acb:=@List.take_add
def UV:=@List.nodup_cons
def acd:=@Nat.min_eq_right
def Vl:=@Go.Obj.cells.injEq
def ace:=@Go.World.grownBy_alloc
def abJ:=@Go.Proofs.Tryz.underlying9
end Go.Proofs.YthibhmemkhmocaaGreatDoor
namespace Go.Proofs.YthibhmemkhmocaaGreatDoor
open Go.RowKit Go.Deep Gf Go.Shelf
variable {a:Act} {A:aC} {ops:Array Oper} {s:ByteArray} {C:Ck} {Q:Exit->Act->ZU->Prop} {F:aH} {z regs:Int} {M:List a8} {T:List (Nat×Nat×a8)} {ns:List ByteArray} {l dl ds:a8} {rest:List Oper} {pre:List Sh} {cur:List ZT} {base n size S g nb p D L G ps ho x b c i m k cap B B' kept lost n0 Bg g' cap' gone d D' r N sp B0 bl:Nat} {Dn:Nat->Bool} {R:Nat->a8} {K K':Nat->Prop} {f0 f:Nat->ZT} {ob:Obj} {o:Oper} {row:Option Nat} {P:Program} {E:Prop} {α:Type} {e t:ZP} {v u y:ZT} {w w' wr W w'' X w2 Y Z:ZU}
def fM (s:ByteArray):a8:=s.toList.map (λ(b:UInt8)=>b.toNat)++YG (16-s.size) 0
def bP (o:Ob):a8:=be o.name.size 1++fM o.name++be o.size 2++o.RR.flatMap (λs=>be s 4)
def aj (os:List Ob):a8:=os.flatMap bP
structure Ob.fit (o:Ob):Prop where
 name:1<=o.name.size/\o.name.size<=16
 size:o.size<=1500
 st:∀ s∈o.RR,s<4294967296
 len:o.RR.length<=1000
def xY (l:a8):(l.flatMap (λs=>be s 4)).length=4*l.length:=by
 induction l with
 | nil=>rfl
 | cons x l ih=>rw [VQ,Uc,ih,aD,UG];omega
def mG (h:s.size<=16):(fM s).length=16:=by
 unfold fM;rw [Uc,Ud,XW,Yn];have:s.data.toList.length=s.size:=by rw [Wv];rfl
 omega
def di {o:Ob} (h:o.fit):(bP o).length=19+4*o.RR.length:=by
 unfold bP;rw [Uc,Uc,Uc,aD,aD,mG h.name.2,xY]
def kU (os:List Ob) (k:Nat) (a:k<os.length):aj (os.take (k+1))=aj (os.take k)++bP os[k]:=by
 unfold aj;rw [Vg,Ue a,Wz];simp
theorem gw (k:Nat) (b:k<=1000000) (w:ZU):ZR ZN 126 #[Z7 Z9 k] w λe w'=>e=Z3 (Z7 Z9 ((19+4*k:Nat):Int))/\w'=w:=by
 have a:((19+4*k:Nat):Int)=19+4*(k:Int):=by omega
 rw [a];go_enter func126,ntmps126;go_wp2;go_ret;exact ⟨rfl,rfl⟩
def LnR (w:ZU) (os:List Ob) (s i:ZT) (wr:ZU):Prop:=∃ k:Nat,k<=os.length/\i=Z7 Z9 k/\s=Z7 Z9 (((aj (os.take k)).length:Nat):Int)/\bW w wr
theorem uk {os:List Ob} (I:fa K w v os) (j:∀ o∈os,o.fit) (P:os.length<=10000):ZR ZN 104 #[v] w λe w'=>e=Z3 (Z7 Z9 (((aj os).length:Nat):Int))/\bW w w':=by
 obtain ⟨ao,c,rfl,_,l⟩:=I;have g:∀ k,k<=os.length->(aj (os.take k)).length<=k*5000:=by
  intro k D;induction k with
  | zero=>simp [aj]
  | succ k ih=>
   have f:k<os.length:=(by omega);have:=ih (by omega);have A:=j _ (T8 f);rw [kU os k f,Uc,di A];have:=A.len;omega
 obtain ⟨N,p⟩:=nM (os.length);have r:=a5 l j g p;rw [p] at P ⊢;clear l j g p;go_enter func104,ntmps104;go_wp2_with fail;go_loopw [3,8] (λs i wr=>LnR w os s i wr) (λ_ i _=>N-(intOf i).toNat)
 case atStart=>exact ⟨0,T7 _,rfl,rfl,T6 _ _⟩
 case round=>
  obtain ⟨k,D,rfl,rfl,d⟩:=hrel;rw [r.o.2.2.2] at D;by_cases X:k<N
  . obtain ⟨l,j,g,p⟩:=r.o;have f:k<os.length:=(by omega);obtain ⟨b,off,rfl,W,u,z⟩:=l (λe=>by rw [e] at f;cases f);obtain ⟨U,c0,c1,y,J⟩:=z k f;obtain ⟨T,Z,Q,R,_⟩:=J;have F:wr.cell? ⟨b,off+k*3,ZY⟩=ZX (Z1 os[k].name):=(Uo (d.block b u.lt)).trans c0;have d1:wr.cell? ⟨b,off+k*3+1,ZY⟩=ZX (Z7 Z9 (os[k].size:Nat)):=(Uo (d.block b u.lt)).trans c1;have G:wr.cell? ⟨b,off+k*3+2,ZY⟩=ZX U:=(Uo (d.block b u.lt)).trans y;subst Q;have M:=g k (by omega);have O:=g (k+1) (by omega);have n:(aj (os.take (k+1))).length=(aj (os.take k)).length+(19+4*os[k].RR.length):=(by rw [kU os k f,Uc,di (j _ (T8 f))]);obtain ⟨a,x⟩:=nM ((aj (os.take k)).length);obtain ⟨V,h⟩:=nM ((aj (os.take (k+1))).length);obtain ⟨m,t⟩:=nM (os[k].RR.length);obtain ⟨nm,B⟩:=nM (os[k].name);obtain ⟨sz,C⟩:=nM (os[k].size);rw [x,h,t] at n;rw [x] at M ⊢;rw [h] at O;rw [t] at G;rw [B] at F;rw [C] at d1;rw [t] at R;have S:=d.size;have H:=aE d h n;have hr:((k:Nat):Int).toNat=k:=(by omega);clear d c0 c1 y l j g z n x h t B C p;go_wp2_with fail;refine (gw m (by omega) _).mono ?_;obtain ⟨q,E⟩:=nM (19+4*m);rw [E];rintro e w2 ⟨rfl,rfl⟩;have Y:a+q<=100000000:=(by have:=H.o.2.2;omega);go_wp2;obtain ⟨d,h,n⟩:=H.o;refine ⟨⟨k+1,by rw [r.o.2.2.2];omega,by go_num,?_,d.alloc S _⟩,by simp [intOf];omega⟩;rw [h,n,E];first|rfl|(congr 1)
  . have L:k=N:=(by omega);subst L;have H:=ak d;clear d;go_wp2;go_ret;refine ⟨?_,H.o⟩;rw [UJ (by rw [r.o.2.2.2];exact TY _)];rfl
def aT {xs:List ZT} (h:w.ownsRow base e size v n xs):∃ d f,v=.slice d n f:=by
 rcases h.2 with ⟨b,c⟩|⟨g,cap,cur,a,_⟩
 . exact ⟨ZY,0,by rw [b,c]⟩
 . exact ⟨_,_,a⟩
def bu {xs:List ZT} (h:w.ownsRow base e size v n xs) {k:Nat} (a:v.ownBlock=ZX k):∃ cur,w.heap[k]?=ZX (Z4 cur e (0,0)):=by
 rcases h.2 with ⟨d,_⟩|⟨g,cap,cur,b,_,c,_⟩
 . rw [d] at a;simp [Value.ownBlock] at a
 . rw [b] at a;simp [Value.ownBlock] at a;subst a;exact ⟨cur,c⟩
def bH {xs:List ZT} (h:w.ownsRow base e size v n xs) {k:Nat} {cs:Array ZT} (c:w.heap[k]?=ZX (Z4 cs t (0,0))) (b:e≠t):v.ownBlock≠ZX k:=by
 intro q;obtain ⟨cur,a⟩:=bu h q;rw [c] at a;injection a with a;injection a with h1 h2;exact b h2.symm
def bR {xs:List ZT} {S:Nat->Prop} (h:w.ownsRow base e size v n xs) (f:aa S w w') (i:∀ k,v.ownBlock=ZX k->¬ S k):w'.ownsRow base e size v n xs:=by
 refine ⟨h.1,?_⟩;rcases h.2 with d|⟨g,cap,cur,a,c,b,r⟩
 . exact .inl d
 . exact .inr ⟨g,cap,cur,a,c,(f.block g (T5.1 b).1 (i g (by rw [a];rfl))).trans b,r⟩
def pY {xs:List ZT} (h:w.ownsRow base e size v n xs) (f:∀ k,v.ownBlock=ZX k->w'.heap[k]?=w.heap[k]?):w'.ownsRow base e size v n xs:=by
 refine ⟨h.1,?_⟩;rcases h.2 with d|⟨g,cap,cur,a,b,c,r⟩
 . exact .inl d
 . exact .inr ⟨g,cap,cur,a,b,(f g (by rw [a];rfl)).trans c,r⟩
def Ra {xs:List ZT} (h:w.ownsRow base e size v n xs) {k:Nat} (b:v.ownBlock=ZX k):k<w.heap.size:=by
 obtain ⟨cur,a⟩:=bu h b;exact (T5.1 a).1
theorem CE (s:ByteArray):(List.take 0 (aI (YG 16 0))++Lib.byteCells s.data.toList++List.drop (0+s.size) (aI (YG 16 0))).toArray=(aI (fM s)).toArray:=by
 congr 1;unfold fM aI Lib.byteCells;rw [Yn,YW,Wn,Ut,Um,X0,UD,YW,List.map_map];rfl
def Ox (w:ZU) (g:Nat) (s:ByteArray) (Dn:Nat->Bool) (w':ZU):Prop:=w'=if Dn 3=ZW then w.drew.setRow g (aI (fM s)).toArray else w.drew
def Aj (h:Ox w g s Dn w') (i:Nat) (a:3≠i):Ox w g s (mq Dn i) w':=by unfold Ox;rw [gQ a];exact h
theorem LZ (h:Ox w g s Dn w') {a:Addr} (c:a.block≠g) {v:ZT} (b:w.cell? a=ZX v):w'.cell? a=ZX v:=by
 unfold Ox at h;subst h;split
 . exact (Uo ((aG w.drew g _).block a.block (Ui b) (λe=>c (UQ e)))).trans b
 . exact b
noncomputable def RK6:Array Oper:=((Tryz.f142.body.bind (DO · 6))).getD #[]
def abf:List (Op×Option Nat×a8):=[(Op.slice 287 (Z2 6) ZY ZY ZY,ZX 18,[]),
 (Op.fieldAddr 152 (Z2 5) 0,ZX 19,[]),
 (Op.load 9 (Z2 19),ZX 20,[1]),
 (Op.call { callee:=Callee.builtin Builtin.copy,args:=#[Z2 18,Z2 20],argTypes:=#[40,9] },ZX 21,[0,2])]
def IY:bF RK6 18 22 abf:=eU (by kernel_rfl) (by kernel_rfl)
def abg (g q:Nat) (s:ByteArray):List ZT:=[Z5 (ZX ⟨g,0,ZY⟩) 16 16,Z6 (ZX ⟨q,0,ZY⟩),Z1 s,Z7 Z9 (s.size:Nat)]
theorem Ak {q:Nat} (x:s.size<=16) (D:w.heap[g]?=ZX (Z4 (aI (YG 16 0)).toArray 287 (0,0))) (G:w.cell? ⟨q,0,ZY⟩=ZX (Z1 s)) (E:q≠g) (A:RK6=ops) (t:a.tmps.size=50)
 (y:a.eval (Z2 5)=Z6 (ZX ⟨q,0,ZY⟩)) (z:a.eval (Z2 6)=Z6 (ZX ⟨g,0,ZY⟩))
 (C:∀ (w':ZU),w'=w.drew.setRow g (aI (fM s)).toArray->Q .normal (Act.RV a 18 [Z5 (ZX ⟨g,0,ZY⟩) 16 16,Z6 (ZX ⟨q,0,ZY⟩),Z1 s,Z7 Z9 (s.size:Nat)]) w'):(Code.region 6 ops ZW).wp ZN Q a w:=by
 subst A;have t:(ZN.info? 5).map (λi=>i.size)=ZX 1:=by kernel_rfl
 refine gA (by kernel_rfl) IY a w (by omega) (λi u _=>u=(abg g q s).getD i ZZ) (Ox w g s) rfl ?_ ?_
 . intro i p;match i,p with
   | 0,_=>
    intro o d w' Dn m ho f j k l h b c;have u0:d.eval (Z2 6)=Z6 (ZX ⟨g,0,ZY⟩):=(j.slot 6 (by omega)).trans z;exact aK (v:=Z5 (ZX ⟨g,0,ZY⟩) 16 16) (by (conv at ho=>rhs;whnf);simp only [execOp,ho,u0];go_simp) f ⟨Aj b 0 (by decide),rfl,kq⟩
   | 1,_=>
    intro o d w' Dn m ho f j k l h b c;have u0:d.eval (Z2 5)=Z6 (ZX ⟨q,0,ZY⟩):=(j.slot 5 (by omega)).trans y;exact aK (v:=Z6 (ZX ⟨q,0,ZY⟩)) (by (conv at ho=>rhs;whnf);simp only [execOp,ho,u0];go_simp) f ⟨Aj b 1 (by decide),rfl,kq⟩
   | 2,_=>
    intro o d w' Dn m ho f j k l h b c;have u0:d.eval (Z2 19)=Z6 (ZX ⟨q,0,ZY⟩):=c 1 (h 1 (by decide));have I:w'.cell? ⟨q,0,ZY⟩=ZX (Z1 s):=LZ b E G;exact aK (v:=Z1 s) (by (conv at ho=>rhs;whnf);simp only [execOp,ho,u0];go_simp) f ⟨Aj b 2 (by decide),rfl,kq⟩
   | 3,_=>
    intro o d w' Dn m ho f j k l h b c;have u0:d.eval (Z2 18)=Z5 (ZX ⟨g,0,ZY⟩) 16 16:=c 0 (h 0 (by decide));have u1:d.eval (Z2 20)=Z1 s:=c 2 (h 2 (by decide));have H:w'=w.drew:=(by have:=b;unfold Ox at this;rw [TW (by rw [k];decide)] at this;exact this);subst H;have r:=Lib.run_copy_row_string (P:=ZN) w.drew 40 9 o.type 5 g 0 16 16 s (aI (YG 16 0)).toArray 287 Uq t D x (by rw [UL,aW];simpa using x);rw [show (aI (YG 16 0)).toArray.toList=aI (YG 16 0) from rfl,CE s] at r;exact aK (v:=Z7 Z9 (s.size:Nat)) (by
     (conv at ho=>rhs;whnf);simp only [execOp,ho,resolve,invoke,builtin,Ux,Vf,UK,V7,UI,Vh,u0,u1,r];rfl) f ⟨by unfold Ox;rw [TX Q9],rfl,kq⟩
   | n+4,hn=>exact absurd hn (by show ¬ n+4<4;omega)
 . rintro d w' F J ⟨Dn,B,b⟩ c;have e:d=Act.RV a 18 [Z5 (ZX ⟨g,0,ZY⟩) 16 16,Z6 (ZX ⟨q,0,ZY⟩),Z1 s,Z7 Z9 (s.size:Nat)]:=F.out _ rfl (by omega) (λi p=>?_)
   . rw [e];exact C w' (by unfold Ox at b;rw [TX (B 3 (by decide))] at b;exact b)
   . match i,p with
     | 0,_=>exact c 0 (by decide)
     | 1,_=>exact c 1 (by decide)
     | 2,_=>exact c 2 (by decide)
     | 3,_=>exact c 3 (by decide)
     | n+4,hn=>exact absurd hn (by simp)
structure Pk (w:ZU) (l:a8) (v:ZT) (wr:ZU):Prop where
 own:wr.ownsRow w.heap.size 5 1 v l.length (aI l)
 some_:v.ownBlock≠ZY
 below:bW w wr
def CG {xs:List ZT} (h:w.ownsRow base e size v n xs) (c:0<n):v.ownBlock≠ZY:=by
 rcases h.2 with ⟨_,b⟩|⟨g,cap,cur,a,_⟩
 . omega
 . rw [a];simp [Value.ownBlock]
def Pk.out (h:Pk w l v wr) {S:Nat->Prop} (a:aa S wr w') (b:∀ k,S k->w.heap.size<=k) (d:∀ k,v.ownBlock=ZX k->¬ S k):Pk w l v w':=
 ⟨bR h.own a d,h.some_,⟨a.os.trans h.below.os,a.tape.trans h.below.tape,a.output.trans h.below.output,TZ h.below.size a.size,λk c=>(a.block k (by have:=h.below.size;omega) (λq=>by have:=b k q;omega)).trans (h.below.block k c)⟩⟩
def Pk.num (h:Pk w l v wr) (n s:Nat) (d:s<=8) (g:0<s) (hl:l.length<=1000000000) :
 ZR ZN 172 #[v,Z7 Z8 n,Z7 Z9 s] wr λe w'=>∃ b,e=Z3 b/\Pk w (l++be n s) b w'/\aa (λj=>v.ownBlock=ZX j) wr w':=by
 refine (fZ w.heap.size v l.length (aI l) n s wr h.own h.below.size d hl).mono ?_;rintro e w' ⟨b,rfl,ho,a,f⟩;refine ⟨b,rfl,⟨?_,CG ho (by omega),?_⟩,a⟩
 . rw [bO,Uc,aD];exact ho
 . exact ⟨a.os.trans h.below.os,a.tape.trans h.below.tape,a.output.trans h.below.output,TZ h.below.size a.size,λk c=>(a.block k (by have:=h.below.size;omega) (λq=>by have:=dK h.own q;omega)).trans (h.below.block k c)⟩
def Oy (h:Pk w l v wr):w.heap.size<=wr.heap.size:=h.below.size
def PsR (w:ZU) (pre:a8) (st:a8) (v i:ZT) (wr:ZU):Prop:=∃ j:Nat,j<=st.length/\i=Z7 Z9 j/\Pk w (pre++(st.take j).flatMap (λs=>be s 4)) v wr
def abh (w:ZU) (os:List Ob) (v i:ZT) (wr:ZU):Prop:=∃ k:Nat,k<=os.length/\i=Z7 Z9 k/\Pk w (aj (os.take k)) v wr
def Rb (w:ZU) (os:List Ob) (e:ZQ) (w':ZU):Prop:=∃ g cap,e=Z3 (Z5 (ZX ⟨g,0,ZY⟩) (aj os).length cap)/\w'.ownsRow w.heap.size 5 1 (Z5 (ZX ⟨g,0,ZY⟩) (aj os).length cap) (aj os).length (aI (aj os))/\bW w w'
theorem xZ {os:List Ob} (hC:fa K w v os) (z:∀ o∈os,o.fit) (qi:os.length<=10000):ZR ZN 142 #[v] w λe w'=>Rb w os e w':=by
 obtain ⟨ib,qf,hy,hz,k0⟩:=Uu Tryz.Sc;have F:∀ k,k<=os.length->(aj (os.take k)).length<=k*5000:=by
  intro k C;induction k with
  | zero=>simp [aj]
  | succ k ih=>
   have y:k<os.length:=(by omega);have:=ih (by omega);have l:=z _ (T8 y);rw [kU os k y,Uc,di l];have:=l.len;omega
 have kh:=uk hC z qi;have hp:=F os.length lR;rw [UJ lR] at hp;obtain ⟨ao,c,rfl,_,O⟩:=hC;obtain ⟨N,I⟩:=nM (os.length);obtain ⟨M,G⟩:=nM ((aj os).length);rw [G] at kh hp;have V:=a6 O z F I G;rw [I] at qi kh hp ⊢;clear O z F I G;go_enter func142,ntmps142;go_wp2_with fail;refine kh.mono ?_;rintro e w1 ⟨rfl,kr⟩;have x6:=kr.size;have H1:=ak kr;clear kr kh;go_wp2_with (at_make;refine ab1 w1 rfl (.const (Z7 Z9 0)) (Z2 10) 40 rfl w.heap.size 5 ib (Z7 .u8 0) 1 Uq qf hy hz .i64 .i64 _ M (by rfl) (by rfl) rfl (by rw [k0];omega) (by unfold maxLen;omega) x6 ?_;intro w2 qh qe);have q9:Pk w [] (Z5 (ZX ⟨w1.heap.size,0,ZY⟩) 0 M) w2:=⟨qh,by simp [Value.ownBlock],H1.o.grown qe H1.o.size (λk e=>by cases e)⟩;have H2:=ak q9;clear q9 qh qe;go_loopw [3,14] (λv i wr=>abh w os v i wr) (λ_ i _=>N-(intOf i).toNat)
 case atStart=>exact ⟨0,T7 _,rfl,H2.o⟩
 case round=>
  clear H2;obtain ⟨k,C,rfl,a⟩:=hrel;rw [V.o.2.2.2.1] at C;by_cases xb:k<N
  . obtain ⟨O,z,F,I,G⟩:=V.o;have y:k<os.length:=(by omega);obtain ⟨b,off,rfl,x7,kv,qc⟩:=O (λe=>by rw [e] at y;cases y);obtain ⟨sv,c0,c1,c2,hI⟩:=qc k y;have l:=z _ (T8 y);have d0:wr.cell? ⟨b,off+k*3,ZY⟩=ZX (Z1 os[k].name):=(Uo (a.below.block b kv.lt)).trans c0;have d1:wr.cell? ⟨b,off+k*3+1,ZY⟩=ZX (Z7 Z9 (os[k].size:Nat)):=(Uo (a.below.block b kv.lt)).trans c1;have d2:wr.cell? ⟨b,off+k*3+2,ZY⟩=ZX sv:=(Uo (a.below.block b kv.lt)).trans c2;have qx:=F k (by omega);have t:=kU os k y;obtain ⟨pre,k7⟩:=nM (aj (os.take k));obtain ⟨o,ho⟩:=nM (os[k]);rw [k7] at qx a t;rw [ho] at d0 d1 l hI t;obtain ⟨d,E,x0,x2,P⟩:=hI;subst x0;obtain ⟨m,J⟩:=nM (o.RR.length);obtain ⟨nm,S⟩:=nM (o.name);obtain ⟨sz,T⟩:=nM (o.size);have kx:=l.name;have qq:=l.size;have qp:=l.len;rw [S] at d0 kx;rw [T] at d1 qq;rw [J] at d2 x2 qp;have x5:=a.below.size;have x9:((k:Nat):Int).toNat=k:=(by omega);have ks:bW wr (wr.alloc (Z4 #[Z1 nm,Z7 Z9 (sz:Int),.slice d m E] 152)):=bA wr _;have qn:(wr.alloc (Z4 #[Z1 nm,Z7 Z9 (sz:Int),.slice d m E] 152)).heap.size=wr.heap.size+1:=(by simp);have q4:(wr.alloc (Z4 #[Z1 nm,Z7 Z9 (sz:Int),.slice d m E] 152)).heap[wr.heap.size]?=ZX (Z4 #[Z1 nm,Z7 Z9 (sz:Int),.slice d m E] 152 (0,0)):=Uk _ _;obtain ⟨p,x3⟩:=nM (wr.alloc (Z4 #[Z1 nm,Z7 Z9 (sz:Int),.slice d m E] 152));rw [x3] at ks qn q4;have n:(p.alloc (Z4 (aI (YG 16 0)).toArray 287)).heap[p.heap.size]?=ZX (Z4 (aI (YG 16 0)).toArray 287 (0,0)):=Uk _ _;have ke:bW p (p.alloc (Z4 (aI (YG 16 0)).toArray 287)):=bA p _;have qo:(p.alloc (Z4 (aI (YG 16 0)).toArray 287)).heap.size=p.heap.size+1:=(by simp);obtain ⟨wb,q6⟩:=nM (p.alloc (Z4 (aI (YG 16 0)).toArray 287));rw [q6] at n ke qo;have D:=(ke.block _ (by omega)).trans q4;have x4:p.alloc (Z4 #[Z7 .u8 0,Z7 .u8 0,Z7 .u8 0,Z7 .u8 0,Z7 .u8 0,Z7 .u8 0,Z7 .u8 0,Z7 .u8 0,Z7 .u8 0,Z7 .u8 0,Z7 .u8 0,Z7 .u8 0,Z7 .u8 0,Z7 .u8 0,Z7 .u8 0,Z7 .u8 0] 287)=wb:=q6;have hr:Pk w pre u3 wb:=(a.out (aa.RT ks (λ_=>False)) (λ_ h=>h.elim) (λ_ _ h=>h)).out (aa.RT ke (λ_=>False)) (λ_ h=>h.elim) (λ_ _ h=>h);have W:=hide7 P l t ho J S T;have HB:=a5 hr D n qo;clear a O z F I G qc c0 c1 c2 P l t ho J S T hr D n q6 q4 ks ke k7;go_wp2_with fail;obtain ⟨hr,D,n,ka⟩:=HB.o;rw [qn] at n ka;obtain ⟨q,Z⟩:=nM (wr.heap.size);rw [Z] at D n ka x5;refine Ak (s:=nm) (q:=wr.heap.size) (g:=wr.heap.size+1) kx.2 (by rw [Z];exact n) (by rw [Z];simp [World.cell?,D]) (by omega) (by kernel_rfl) rfl rfl rfl ?_;intro w6 kj;rw [Z] at kj ⊢;have kb:aa (λk=>k=q+1) wb w6:=by
     rw [kj];have Q:=aG wb.drew (q+1) (aI (fM nm)).toArray;exact ⟨Q.os,Q.tape,Q.output,Q.size,λk C qy=>Q.block k C (λe=>qy (UQ e))⟩
    have A:Pk w pre u3 w6:=hr.out kb (λk C=>by omega) (λk C e=>bH hr.own n (by decide) (by rw [C,e]));have B:=(kb.block q (by omega) (by omega)).trans D;have L:w6.heap[q+1]?=ZX (Z4 (aI (fM nm)).toArray 287 (0,0)):=(by rw [kj];exact Vy _ _ _ _ _ _ n);have xc:=kb.size;have q0:w6.cell? ⟨q,0,ZY⟩=ZX (Z1 nm):=(by simp [World.cell?,B]);have qd:=A.num nm.size 1 (by omega) (by omega) (by omega);have H6:=a5 A B L qd;have qz:nm.size<=16:=kx.2;clear hr D n kb A B L qd kj d0 d1 d2;rename_i q7
    refine q7 _ _ ?_;clear q7;simp only [Act.RV,Act.put,Ug,Uf,Uh];go_wp2_with fail;refine H6.o.2.2.2.mono ?_;rintro e w7 ⟨v7,rfl,kk,kc⟩;obtain ⟨A,B,L,hx⟩:=H6.o;clear hx;have qj:=(kc.block q (by omega) (λe=>bH A.own B (by decide) e)).trans B;have ky:=(kc.block (q+1) (by omega) (λe=>bH A.own L (by decide) e)).trans L;have xd:=kc.size;have kg:(pre++be nm.size 1).length=pre.length+1:=(by rw [Uc,aD]);have ki:(fM nm).length=16:=mG qz;have he:Src ZN 1 40 (Z5 (ZX ⟨q+1,0,ZY⟩) 16 16) 16 (aI (fM nm)) w7:=Vk w7 Uq ⟨q+1,0,ZY⟩ 16 16 (aI (fM nm)) (by rw [aW,ki]) (λi u hu=>by
     have h9:w7.cell? ⟨q+1,i,ZY⟩=ZX u:=(by simp [World.cell?,ky];simpa using hu);unfold Addr.add;split
     . rename_i h0;subst h0;exact h9
     . rw [Um];exact h9) (λu hu=>by obtain ⟨x,_,rfl⟩:=Ua.1 hu;rfl)
    have h7:=kk.own;rw [kg] at h7;have r:=a6 kk qj ky he h7;clear A B L kk kc qj ky he h7 q0;have qm:=Oy r.o.1;go_wp2_with (show wpList _ _ _ ({ dst:=ZX 30,op:=_,type:=_,pos:=_,after:=_,guard:=_ }::_) _ _;refine ae _ rfl (Z2 28) (Z2 29) 40 40 rfl w.heap.size 5 ib (Z7 .u8 0) 1 1 Uq qf hy hz k0 rfl v7 (pre.length+1) (aI (pre++be nm.size 1)) (by rfl) (by exact r.o.2.2.2.2) _ (by rfl) 16 (aI (fM nm)) (by exact r.o.2.2.2.1) (by unfold maxLen;omega) (by omega) (by exact qm) ?_;intro v8 w8 kz kf kp;have q3:w8.heap[q]?=ZX (Z4 #[Z1 nm,Z7 Z9 (sz:Int),.slice d m E] 152 (0,0)):=(kf.block q (by omega) (λe=>bH r.o.1.own r.o.2.1 (by decide) e.symm)).trans r.o.2.1;have q1:w8.cell? ⟨q,1,ZY⟩=ZX (Z7 Z9 (sz:Int)):=(by simp [World.cell?,q3]);have qa:Pk w ((pre++be nm.size 1)++fM nm) v8 w8:=⟨(by rw [bO,Uc,kg,ki];exact kz),CG kz (by omega),r.o.1.below.grown kf qm (λj e=>dK r.o.1.own e)⟩;have xe:=kf.size;have U:=al qa q3;clear kz kf kp q3 qa);refine (U.o.1.num sz 2 (by omega) (by omega) (by rw [Uc,kg,ki];omega)).mono ?_;rintro e w9 ⟨v9,rfl,km,q8⟩;have qk:=(q8.block q (by omega) (λe=>bH U.o.1.own U.o.2 (by decide) e)).trans U.o.2;have q2:w9.cell? ⟨q,2,ZY⟩=ZX (.slice d m E):=(by simp [World.cell?,qk]);obtain ⟨f,X⟩:=nM (pre++be nm.size 1++fM nm++be sz 2);have xa:f.length=pre.length+19:=(by rw [<- X,Uc,Uc,kg,ki,aD]);rw [X] at km;have H9:=al km X;clear km q8 qk q1 X;go_wp2_with fail;go_loopw [3,39] (λv i hb=>PsR w f o.RR v i hb) (λ_ i _=>m-(intOf i).toNat)
    case atStart=>exact ⟨0,T7 _,rfl,by rw [Wn,List.flatMap_nil,Wk];exact H9.o.1⟩
    case round=>
     obtain ⟨j,hj,rfl,a⟩:=hrel;rw [W.o.2.2.2.2.1] at hj;by_cases x8:j<m
     . obtain ⟨P,l,t,ho,J,_,_⟩:=W.o;have R:j<o.RR.length:=(by omega);obtain ⟨sb,so,rfl,_,q5,k8⟩:=P (λe=>by rw [e] at R;cases R);have cs:=(Uo (a.below.block sb q5.lt)).trans (k8 j R);have x1:=l.st _ (T8 R);have hv:((o.RR.take j).flatMap (λs=>be s 4)).length=4*j:=(by rw [xY,Us];omega);have qg:f++(o.RR.take (j+1)).flatMap (λs=>be s 4)=(f++(o.RR.take j).flatMap (λs=>be s 4))++be o.RR[j] 4:=by
        rw [Vg,Ue R,Wz,UC];simp
       have Y:=a.num o.RR[j] 4 (by omega) (by omega) (by rw [Uc,hv];omega);rw [<- qg] at Y;obtain ⟨x,hx⟩:=nM (o.RR[j]);rw [hx] at cs x1 Y;have HP:=ak Y;clear a P l t ho J k8 Y qg hx hv;go_wp2_with fail;refine HP.o.mono ?_;rintro e wj ⟨vj,rfl,qb,_⟩;have Hj:=ak qb;clear qb;go_wp2;go_roundw
       case rel=>exact ⟨j+1,by have:=W.o.2.2.2.2.1;omega,by go_num,Hj.o⟩
       case measure=>simp [intOf];omega
     . have qs:j=m:=(by omega);have Hq:=ak a;clear a;go_wp2;go_roundw
       case rel=>
        refine ⟨k+1,by have:=V.o.2.2.2.1;omega,by go_num,?_⟩;obtain ⟨_,_,t,_,J,S,T⟩:=W.o;have ko:=Hq.o;rw [UJ (by omega),<- H9.o.2] at ko;rw [t];unfold bP;rw [S,T];simp only [UC] at ko ⊢;exact ko
       case measure=>simp [intOf];omega
  . have qv:k=N:=(by omega);subst qv;have H:=ak a;clear a;go_wp2;go_ret;have a:=H.o;obtain ⟨_,_,_,I,G⟩:=V.o;rw [UJ (by omega)] at a;rcases a.own.2 with ⟨h0,_⟩|⟨g,cap,cur,e1,_⟩
    . exact absurd (by rw [h0];rfl) a.some_
    . have ho:=a.own;rw [e1] at ho;exact ⟨g,cap,by rw [<- e1];rfl,ho,a.below⟩
def uo {vo:ZT} {os:List Ob} (c:fa (λk=>k<w.heap.size) w vo os) (d:∀ o∈os,o.fit) (b:os.length<=10000):EU w vo (aj os):=λ_ a=>xZ (c.keep ⟨a.size,λk e _=>a.block k e⟩) d b
theorem E5 (w:ZU):EU w (Z5 ZY 0 0) []:=by
 intro W _;go_enter func142,ntmps142;go_wp2_with fail;refine (length_nil W).mono ?_;rintro e w' ⟨rfl,rfl⟩;go_wp2_with (at_make;refine cU _ rfl (.const (Z7 Z9 0)) (Z2 10) rfl _ 0 rfl rfl rfl (by omega) ?_;intro w2 b a c);have H:=al b a;clear b a;refine VO 1 ?_;rw [VJ];go_wp2;go_ret;obtain ⟨b,a⟩:=H.o;exact ⟨_,0,rfl,⟨rfl,.inr ⟨_,0,_,rfl,TY _,b.SO,TY _,by unfold maxLen;omega,rfl,rfl⟩⟩,a⟩
def bg.weaken (h:bg K w v l) (f:∀ k,K k->K' k):bg K' w v l:=by
 obtain ⟨ao,c,a,d,e⟩:=h;refine ⟨ao,c,a,d,λhl=>?_⟩;obtain ⟨b,off,g,i,j⟩:=e hl;exact ⟨b,off,g,f b i,j⟩
def IZ (h:3<=nb):(aY (tk nb ([]++ah [])).1 nb).take 1=[2]/\1<=(aY (tk nb ([]++ah [])).1 nb).length:=by
 have e:(tk nb ([]++ah [])).1=λ_=>ZV:=rfl;rw [e];have a:aY (λ_=>ZV) 3=[2]:=by simp [aY,VF]
 obtain ⟨r,hr⟩:=kL (λ_=>ZV) h;rw [a] at hr;rw [<- hr];exact ⟨rfl,by simp⟩
def nB (A:aC) (D L G:Nat):aC:=(A.putAt (YF A.n) 1 (λ_=>.filled)).TK D L G 1 [2] []
def CH (h:w.ownsRow base 3 1 u n (jV l)) (hl:l≠[]) (hll:l.length<=1000000) {K:Nat->Prop} (hK:∀ k,base<=k->K k):∃ g c,u=Z5 (ZX ⟨g,0,ZY⟩) l.length c/\bg K w u l:=by
 have b:n=l.length:=by have:=h.1;unfold jV at this;rw [Ud,Wf] at this;omega
 rcases h.2 with ⟨_,j⟩|⟨g,cap,cur,a,d,e,_⟩
 . exact absurd (UY (by omega)) hl
 . refine ⟨g,cap,by rw [a,b],ZX ⟨g,0,ZY⟩,cap,by rw [a,b],hll,λ_=>⟨g,0,rfl,hK g d,⟨_,_,_,e,by decide⟩,λi f=>?_⟩⟩;have:=h.cells (g:=g) (by rw [a];rfl) i (Z7 Z9 ((l[i]:Nat):Int)) (by unfold jV;simp [f]);rw [jm] at this;rw [Um];exact this
theorem I0 {ar v:Nat} {off:Bool} (J:bC w ar v 0 0 0 0 0 0 (Z5 ZY 0 0) (Z5 ZY 0 0) off) (m:pH w v p D L G ps ho A F) (k9:¬ F.S ar) (kj:3<=A.nb) (ki:A.fine D L G) :
 ZR ZN 94 #[Z6 (ZX ⟨ar,0,ZY⟩)] w λe w'=>e=Z3 .nilIface/\az w' p (nB A D L G) F/\(∃ u,bC w' ar v D L G 1 2 0 u (Z5 ZY 0 0) off/\bg (λk=>w.heap.size<=k) w' u [2])/\aa (λk=>k=ar\/F.S k) w w':=by
 obtain ⟨hr,kf,hD,hL,km,hG,kh,hy⟩:=m.par;have hn:=m.n;go_enter func94,ntmps94;go_wp2_with fail;obtain ⟨S,Z⟩:=nM (2^(D+L+G)-1);have hj:ab S=YF A.n:=by rw [<- Z,hn];exact oz hy
 have k6:S<65536:=by
  have:2^(D+L+G)<=2^16:=U9 (by decide) hy;omega
 have ke:∀ X,bW w X->ZR ZN 118 #[Z6 (ZX ⟨v,0,ZY⟩),Z7 Z9 (1:Nat),cF .filled,Z7 Z8 S] X λe w'=>(∃ z:Nat,e=Z3 (Z7 Z8 z))/\az w' p (A.putAt (YF A.n) 1 (λ_=>.filled)) F/\aa (F.S) w w':=λX hb=>by
  have h:=gT (m.below hb lR) 1 S (by omega) k6 (λi P=>by rw [hj] at P;simpa using P) .filled trivial;rw [hj] at h;exact h.mono λe w' q=>⟨⟨_,q.1⟩,q.2.1,(aa.RT hb _).trans q.2.2⟩
 have hm:=nu (m.vol.keep (w':=w.drew) rfl) m.par;rw [Z] at hm;have k0:=J.cells.1;have r:=aE ke hm J;clear ke hm Z hj k6;go_cut [16] from 5 to 15 (λ_ wx=>az wx p (A.putAt (YF A.n) 1 (λ_=>.filled)) F/\aa (F.S) w wx)
 case first=>
  go_region_with (first
   | (go_at_call 112;refine r.o.2.1.mono ?_;rintro e w5 ⟨rfl,ka⟩;have Y:bW w w5:=((T6 _ w).drew).trans ka;have j0:=(r.o.2.2.keep (Y.block _ r.o.2.2.lt)).cells.1;have H5:=ak Y;clear ka Y)
   | (go_at_call 118;refine (r.o.1 w5 H5.o).mono ?_;rintro e w6 ⟨⟨z,rfl⟩,hz,k5⟩;have H6:=al hz k5;clear hz k5))
  all_goals (go_wp2_with fail;go_meet;case rel=>exact H6.o)
 case rest=>
 rename ZU=>w1;obtain ⟨hg,f⟩:=hcut;clear k0 r;obtain ⟨E,j⟩:=nM (A.putAt (YF A.n) 1 (λ_=>.filled));obtain ⟨s,t,U⟩:E.n=A.n/\E.nb=A.nb/\E.fine D L G:=by rw [<- j];exact ⟨rfl,rfl,(fj.put _ _ _ _).fine ki⟩
 rw [j] at hg;have d:=J.keep (f.block _ J.lt k9);have a:=m.turn f hg s;have hq:=jf d a.vol kf (by omega) 0 (by decide);have hp:pgs D 0=1:=by unfold pgs;rw [Xv (by omega)];rfl
 rw [hp] at hq;have hs:=lO d a.vol a.arr (by rw [s];omega) [] [] (bg.nil _ _) (fa.nil _ _) 1 (by decide);obtain ⟨y,B⟩:=IZ (nb:=E.nb) (by rw [t];exact kj);rw [y,U1 B] at hs;have T:=a7 d a f hq hs j;clear d a f hq hs j hg y B;go_wp2_with fail;refine T.o.2.2.2.1.mono ?_;rintro e w2 ⟨rfl,kk⟩;subst kk;go_wp2_with fail;refine T.o.2.2.2.2.1.mono ?_;rintro e w3 ⟨u,rfl,h8,O⟩;obtain ⟨d,a,f,_,_,j⟩:=T.o;have k8:=d.keep (O.block _ d.lt);have k7:=a.below O lR;obtain ⟨g,c,hu,hh⟩:=CH (K:=λk=>w2.heap.size<=k) h8 (by simp) (by decide) (λk Q=>Q);subst hu;have M:bg (λk=>¬ F.S k) w3 (Z5 (ZX ⟨g,0,ZY⟩) [2].length c) [2]:=by
  obtain ⟨ao,W,q1,q2,q3⟩:=hh;refine ⟨ao,W,q1,q2,λhl=>?_⟩;obtain ⟨b,V,r1,r2,C⟩:=q3 hl;exact ⟨b,V,r1,λq=>by have:=a.arr.RS q;omega,C⟩
 have kc:=nz k8 k7 U k9 ZY 0 0 [] (λx R=>by cases R) (by decide) (E5 w3) g 0 c [2] M (by simp) (λx R=>by simp at R;subst R;rw [t];omega) (λk Q=>by simp at Q;subst Q;simp);have H:aa (F.S) w w3:=f.trans (aa.RT O _);have H3:=a7 kc H hh a d.lt f.size;clear kc H M hh k8 k7 h8 O d a f;go_wp2_with fail;refine H3.o.1.mono ?_;rintro e w4 ⟨l,rfl,I,N⟩;have H4:=aE I N l;clear I N l;go_wp2;go_ret;obtain ⟨I,N,l⟩:=H4.o;obtain ⟨_,H,M,a,kg,hv⟩:=H3.o;refine ⟨rfl,?_,⟨_,N,?_⟩,(H.mono λ_ _ q=>.inr q).trans l⟩
 . unfold nB;rw [j];exact I
 . obtain ⟨ao,W,q1,q2,q3⟩:=M;refine ⟨ao,W,q1,q2,λhl=>?_⟩;obtain ⟨b,V,r1,r2,C,r4⟩:=q3 hl;have h7:b≠ar:=λe=>by omega
   have kb:¬ F.S b:=λq=>by have:=a.arr.RS (k:=b) q;omega
   refine ⟨b,V,r1,TZ hv r2,C.keep (l.block b C.lt (λq=>q.elim h7 kb)),λi P=>?_⟩;exact (Uo (l.block b C.lt (λq=>q.elim h7 kb))).trans (r4 i P)
def GJ:Ob:=⟨YK,0,[]⟩
def PT (a b:ByteArray):Bool:=Op.bytesLess a.toList b.toList || a.toList==b.toList
def Al (os:List Ob):Prop:=∀ i (_:i+1<os.length),PT (os.getD (i+1) GJ).name (os.getD i GJ).name=ZV
def Tryz.R3:(ZN.info? 152).map (λi=>(i.zero,i.size,i.bytes))=ZX (ZX (.agg #[Z1 YK,Z7 Z9 0,Z5 ZY 0 0]),3,48):=by kernel_rfl
def bg.ltS (h:bg K w v l):bg (λk=>k<w.heap.size) w v l:=by
 obtain ⟨ao,c,d,e,f⟩:=h;refine ⟨ao,c,d,e,λhl=>?_⟩;obtain ⟨b,off,g,_,a,i⟩:=f hl;exact ⟨b,off,g,a.lt,a,i⟩
def fa.ltS {os:List Ob} (h:fa K w v os):fa (λk=>k<w.heap.size) w v os:=by
 obtain ⟨ao,c,d,e,f⟩:=h;refine ⟨ao,c,d,e,λhl=>?_⟩;obtain ⟨b,off,j,_,a,l⟩:=f hl;refine ⟨b,off,j,a.lt,a,λi g=>?_⟩;obtain ⟨q,m,n,o,p⟩:=l i g;exact ⟨q,m,n,o,p.ltS⟩
def ai (w:ZU) (g:Nat) (e:ZP) (cur:List ZT):Prop:=w.heap[g]?=ZX (Z4 cur.toArray e (0,0))
def ai.lt (h:ai w g e cur):g<w.heap.size:=(T5.1 h).1
def ai.cell (h:ai w g e cur) {j:Nat} {u:ZT} (a:cur[j]?=ZX u):w.cell? ⟨g,j,ZY⟩=ZX u:=by
 unfold ai at h;simp [World.cell?,h,a]
def ai.Sa (h:ai w g e cur) (j:Nat):w.frozen? ⟨g,j,ZY⟩=ZV:=by
 unfold ai at h;simp [World.frozen?,h]
def ai.keep (h:ai w g e cur) (a:w'.heap[g]?=w.heap[g]?):ai w' g e cur:=a.trans h
def yt:∀ (a:List ZT) (o:Nat) (cur:Array ZT),o+a.length<=cur.size->vV cur o a=(cur.toList.take o++a++cur.toList.drop (o+a.length)).toArray
 | [],o,cur,_=>by simp [vV]
 | v::r,o,cur,h=>by
  simp only [UG] at h ⊢;unfold vV;rw [yt r (o+1) (cur.setIfInBounds o v) (by simp;omega),Yz];have e:(cur.toList.set o v).take (o+1)=cur.toList.take o++[v]:=by
   rw [Vg,List.take_set_of_le (TY o),abA (by simp;omega)];rfl
  have b:(cur.toList.set o v).drop (o+1+r.length)=cur.toList.drop (o+(r.length+1)):=by
   rw [List.drop_set_of_lt (by omega),show o+1+r.length=o+(r.length+1) by omega]
  rw [e,b];simp
def ai.set (h:ai w g e cur) (o:Nat) (a:List ZT) (ho:o+a.length<=cur.length):ai (w.setCells g o a) g e (cur.take o++a++cur.drop (o+a.length)):=by
 unfold ai at h ⊢;rw [jr a o w h,yt a o cur.toArray (by simpa using ho)]
def eo (w:ZU) (l y z elem:ZP) (k:Nat) (g o a d b h c f:Nat) (e:ZP) (cur cs:List ZT)
 (x:P.underlying l=ZX (.slice elem)) (q:(P.info? elem).map (·.size)=ZX k) (u:cs.length=YJ c a*k)
 (s:∀ j v,cs[j]?=ZX v->w.cell? ⟨b,h+j,ZY⟩=ZX v) (m:ai w g e cur) (ho:o+cs.length<=cur.length) (r:∀ v∈cs,v.oneCell'=ZW) :
 (Builtin.copy_ #[l,y] z #[Z5 (ZX ⟨g,o,ZY⟩) a d,Z5 (ZX ⟨b,h,ZY⟩) c f]).run P w=.ok (goInt (YJ c a)) (w.setCells g o cs):=by
 have hl:=run_loadCells_list (P:=P) w ⟨b,h,ZY⟩ cs (λj v p=>by rw [Vp];exact s j v p);have n:=run_storeCells_cells (P:=P) g o cs 0 w (λj p=>by
  rw [VV];rw [m.cell (Ue (by omega:o+j<cur.length))];rfl) (λj _=>m.Sa _) r
 cases hq:P.info? elem with
 | none=>simp [hq] at q
 | some i=>
  have t:i.size=k:=by simpa [hq] using q
  simp only [VV] at n;simp [Builtin.copy_,UR x,Builtin.lenOf,Builtin.firstCells,sizeOf,typeInfo,hq,t,<- u,hl,n]
def ur (w:ZU) (t e k:ZP) (z:ZT) (g o n c:Nat) (d:ZP) (cur:List ZT) (h:P.underlying t=ZX (.slice e)) (i:∀ w,(zeroValue e).run P w=.ok z w) (p:0<n)
 (a:ai w g d cur) (ho:o+(Builtin.zeroCells z.cells n).toList.length<=cur.length) (f:∀ v∈(Builtin.zeroCells z.cells n).toList,v.oneCell'=ZW) :
 (Builtin.clear_ #[t] k #[Z5 (ZX ⟨g,o,ZY⟩) n c]).run P w=.ok (Z0 #[]) (w.setCells g o (Builtin.zeroCells z.cells n).toList):=by
 have b:=run_storeCells_cells (P:=P) g o (Builtin.zeroCells z.cells n).toList 0 w (λj l=>by
  rw [VV];rw [a.cell (Ue (by omega:o+j<cur.length))];rfl) (λj _=>a.Sa _) f
 simp only [VV] at b;obtain ⟨m,rfl⟩:∃ m,n=m+1:=⟨n-1,by omega⟩;simp [Builtin.clear_,UR h,i,b]
def jz (x:Ob×ZT):List ZT:=[Z1 x.1.name,Z7 Z9 (x.1.size:Nat),x.2]
def bV (L:List (Ob×ZT)):List ZT:=L.flatMap jz
def b8 (L:List (Ob×ZT)):(bV L).length=L.length*3:=by
 induction L with
 | nil=>rfl
 | cons x L ih=>unfold bV at ih ⊢;rw [VQ,Uc,ih,UG];simp [jz];omega
def iU (L M:List (Ob×ZT)):bV (L++M)=bV L++bV M:=by unfold bV;rw [Wz]
def CJ (L:List (Ob×ZT)) (k:Nat):(bV L).take (k*3)=bV (L.take k):=by
 by_cases h:k<=L.length
 . have e:bV L=bV (L.take k)++bV (L.drop k):=(by rw [<- iU,Wl]);have:(bV (L.take k)).length=k*3:=(by rw [b8,Us];omega);rw [e,V2 (by omega),UJ (by omega)]
 . rw [UJ (by rw [b8];omega),UJ (by omega)]
def uv (L:List (Ob×ZT)) (k:Nat):(bV L).drop (k*3)=bV (L.drop k):=by
 by_cases h:k<=L.length
 . have e:bV L=bV (L.take k)++bV (L.drop k):=(by rw [<- iU,Wl]);have hl:(bV (L.take k)).length=k*3:=(by rw [b8,Us];omega);rw [e,<- hl,List.drop_left]
 . rw [YX (by rw [b8];omega),YX (by omega)];rfl
def L0 (L:List (Ob×ZT)) (k:Nat) (d:k<L.length):(bV L)[k*3]?=ZX (Z1 L[k].1.name)/\(bV L)[k*3+1]?=ZX (Z7 Z9 (L[k].1.size:Nat))/\(bV L)[k*3+2]?=ZX L[k].2:=by
 have e:∀ j,(bV L)[k*3+j]?=(bV (L.drop k))[j]?:=λj=>by rw [<- uv,Wg]
 have a:=e 0;have b:=e 1;have c:=e 2;rw [X5 d] at a b c;exact ⟨a,b,c⟩
def GK {x:Ob×ZT} (h:∃ c sl b,x.2=.slice c sl b):∀ u∈jz x,u.oneCell'=ZW:=by
 obtain ⟨c,sl,b,e⟩:=h;intro u a;simp only [jz,Uz,W4,or_false] at a;rcases a with rfl|rfl|rfl
 . rfl
 . rfl
 . rw [e];rfl
def Oz (K:Nat->Prop) (w:ZU) (L:List (Ob×ZT)):Prop:=∀ x∈L,bg K w x.2 x.1.RR
def Oz.one {L:List (Ob×ZT)} (h:Oz K w L):∀ u∈bV L,u.oneCell'=ZW:=by
 intro u a;unfold bV at a;rw [Yo] at a;obtain ⟨x,d,b⟩:=a;obtain ⟨ao,c,e,_⟩:=h x d;exact GK ⟨ao,_,c,e⟩ u b
def bg.TG (h:bg K w v l) (f:∀ k,K k->K' k):bg K' w v l:=by
 obtain ⟨ao,c,a,d,e⟩:=h;refine ⟨ao,c,a,d,λhl=>?_⟩;obtain ⟨b,off,g,i,j⟩:=e hl;exact ⟨b,off,g,f b i,j⟩
def OA {os:List Ob} (h:fa K w v os):∃ L:List (Ob×ZT),L.map (·.1)=os/\Oz K w L/\∀ w',eN K w w'->Src ZN 3 144 v L.length (bV L) w':=by
 obtain ⟨ao,c,rfl,hl,B⟩:=h;by_cases s:os=[]
 . subst s;refine ⟨[],rfl,λx l=>by simp at l,λw' _=>?_⟩;cases ao with
   | none=>exact XN w' VD c
   | some z=>exact Vk w' VD z 0 c [] rfl (λj u a=>by simp at a) (λu H=>by simp at H)
 . obtain ⟨b,off,rfl,hK,E,r⟩:=B s;have C:∃ f:Nat->ZT,∀ i (d:i<os.length),w.cell? ⟨b,off+i*3,ZY⟩=ZX (Z1 os[i].name)/\w.cell? ⟨b,off+i*3+1,ZY⟩=ZX (Z7 Z9 (os[i].size:Nat))/\w.cell? ⟨b,off+i*3+2,ZY⟩=ZX (f i)/\bg K w (f i) os[i].RR:=by
    refine ⟨λi=>if d:i<os.length then Classical.choose (r i d) else .nilIface,λi d=>?_⟩;have:=Classical.choose_spec (r i d);simpa [d] using this
   obtain ⟨f,y⟩:=C;obtain ⟨L,hL⟩:∃ L:List (Ob×ZT),L=os.zipIdx.map (λq=>(q.1,f q.2)):=⟨_,rfl⟩;have p:L.length=os.length:=(by rw [hL];simp);have g:∀ i (d:i<os.length),L[i]'(by omega)=(os[i],f i):=λi d=>by subst hL;simp
   have t:Oz K w L:=λx l=>by
    obtain ⟨i,d,e⟩:=UZ l;rw [g i (by omega)] at e;rw [<- e];exact (y i (by omega)).2.2.2
   refine ⟨L,?_,t,?_⟩
   . refine Ve (by simp [p]) λi I A=>?_;rw [UU,g i A]
   . intro w' F;have k:=F.2 b E.lt hK;rw [<- p];refine Vk w' VD ⟨b,off,ZY⟩ L.length c (bV L) (b8 L) (λj u a=>?_) t.one;rw [Vp];have J:j<L.length*3:=(by obtain ⟨q,_⟩:=Vc.1 a;rwa [b8] at q);have G:j/3<L.length:=(by omega);obtain ⟨m,n,o⟩:=L0 L (j/3) G;obtain ⟨b0,b1,b2,_⟩:=y (j/3) (by omega);rw [g (j/3) (by omega)] at m n o;have D:j=j/3*3\/j=j/3*3+1\/j=j/3*3+2:=(by omega);rcases D with q|q|q
     . rw [q,m] at a;rw [q,<- a];exact (Uo k).trans b0
     . rw [q,n] at a;rw [q,<- a,<- Vx];exact (Uo k).trans b1
     . rw [q,o] at a;rw [q,<- a,<- Vx];exact (Uo k).trans b2
def uw {L:List (Ob×ZT)} (h:w.ownsRow base 152 3 u L.length (bV L)) (hl:L.length<=1000000) (hK:∀ k,base<=k->K k) (n:Oz K w L):fa K w u (L.map (·.1)):=by
 rcases h.2 with ⟨rfl,q⟩|⟨g,cap,cur,rfl,o,d,r,s,t,m⟩
 . have:L=[]:=UY q;subst this;exact fa.nil _ _
 . refine ⟨ZX ⟨g,0,ZY⟩,cap,by rw [Ud],by rw [Ud];exact hl,λ_=>⟨g,0,rfl,hK g o,⟨_,_,_,d,by decide⟩,λi b=>?_⟩⟩;rw [Ud] at b;obtain ⟨e,f,l⟩:=L0 L i b;have a:∀ j u,j<L.length*3->(bV L)[j]?=ZX u->w.cell? ⟨g,0+j,ZY⟩=ZX u:=λj u p c=>by
    rw [<- m,VR p] at c;rw [Um];simp [World.cell?,d];simpa using c
   refine ⟨L[i].2,?_,?_,?_,?_⟩
   . rw [UU];exact a _ _ (by omega) e
   . rw [UU,Vx];exact a _ _ (by omega) f
   . rw [Vx];exact a _ _ (by omega) l
   . rw [UU];exact n _ (T8 b)
def L2:∀ (x y:List UInt8),Op.bytesLess x y=decide (x<y)
 | [],[]=>by simp [Op.bytesLess]
 | _::_,[]=>by simp [Op.bytesLess]
 | [],_::_=>by simp [Op.bytesLess]
 | a::x,b::y=>by
  rw [Op.bytesLess,L2 x y];simp only [List.cons_lt_cons_iff];by_cases c:a<b<;>by_cases d:a=b<;>by_cases e:x<y<;>simp [c,d,e]
def jA (a b:ByteArray):Bool:=Op.bytesLess a.toList b.toList
def Am {a b:ByteArray}:jA a b=ZW↔a.toList<b.toList:=by unfold jA;rw [L2];simp
def An {a b:ByteArray}:jA a b=ZV↔¬ a.toList<b.toList:=by unfold jA;rw [L2];simp
def iV (a:ByteArray):jA a a=ZV:=An.2 (List.lt_irrefl _)
def jM {a b c:ByteArray} (h:jA a b=ZW) (k:jA b c=ZW):jA a c=ZW:=Am.2 (List.lt_trans (Am.1 h) (Am.1 k))
def toList_inj {a b:ByteArray} (h:a.toList=b.toList):a=b:=by
 have c:a.data.toList=b.data.toList:=by rw [<- Lib.toList_data,<- Lib.toList_data];exact h
 have d:a.data=b.data:=Array.toList_inj.1 c;cases a;cases b;simpa using d
def sr {a b:ByteArray} (h:jA a b=ZV) (k:jA b a=ZV):a=b:=toList_inj (List.le_antisymm (An.1 k) (An.1 h))
def I1 {a b:ByteArray} (h:PT a b=ZV):jA b a=ZW:=by
 unfold PT at h;rw [XO] at h;cases hb:jA b a
 . have e:=sr (a:=a) (b:=b) h.1 hb;rw [e] at h;simp at h
 . rfl
theorem I2 {a b:ByteArray} (h:jA b a=ZW):PT a b=ZV:=by
 unfold PT;rw [XO];constructor
 . cases hb:Op.bytesLess a.toList b.toList
   . rfl
   . have:=jM (a:=b) (b:=a) (c:=b) h hb;rw [iV] at this;cases this
 . cases hb:(a.toList==b.toList)
   . rfl
   . have e:=toList_inj (eq_of_beq hb);rw [e,iV] at h;cases h
def Up (ns:List ByteArray):Prop:=ns.Pairwise (λa b=>jA a b=ZW)
def aS (os:List Ob):List ByteArray:=os.map (·.name)
def bw (os:List Ob):(aS os).length=os.length:=by unfold aS;rw [Ud]
def su {os:List Ob} (a:i<os.length):os.getD i GJ=os[i]:=by rw [Ub,Ue a];rfl
def I3 (ns:List ByteArray) (h:∀ i (c:i+1<ns.length),jA ns[i] ns[i+1]=ZW):Up ns:=by
 unfold Up;rw [V6];intro i j c a b;obtain ⟨d,rfl⟩:∃ d,j=i+1+d:=⟨j-(i+1),by omega⟩;clear b;induction d with
 | zero=>exact h i a
 | succ d ih=>exact jM (ih (by omega)) (h (i+1+d) a)
def OB {os:List Ob} (h:Al os):Up (aS os):=by
 refine I3 _ λi a=>?_;rw [bw] at a;have:=I1 (h i a);rw [su a,su (by omega:i<os.length)] at this;have e:∀ j (b:j<os.length),(aS os)[j]'(by rw [bw];exact b)=os[j].name:=λj b=>by unfold aS;rw [UU]
 rw [e i (by omega),e (i+1) a];exact this
def Ao {os:List Ob} (h:Up (aS os)):Al os:=by
 intro i a;unfold Up at h;rw [V6] at h;have:=h i (i+1) (by rw [bw];omega) (by rw [bw];omega) (Nat.lt_succ_self i);refine I2 ?_;rw [su a,su (by omega:i<os.length)];unfold aS at this;simpa using this
def aL (ns:List ByteArray) (x:ByteArray):Nat:=(ns.takeWhile (λn=>jA n x)).length
def yu (ns:List ByteArray) (x:ByteArray):aL ns x<=ns.length:=by unfold aL;exact (List.takeWhile_prefix _).length_le
def gN:∀ (ns:List ByteArray) (x:ByteArray) (i:Nat),i<=ns.length->(∀ j (e:j<ns.length),j<i->jA ns[j] x=ZW)->(∀ a:i<ns.length,jA ns[i] x=ZV)->aL ns x=i
 | [],x,i,a,_,_=>by simp at a;subst a;rfl
 | n::ns,x,0,a,b,c=>by
  have:=c (by simp);unfold aL;rw [YL];simp at this;simp [this]
 | n::ns,x,i+1,a,b,c=>by
  have d:=b 0 (by simp) (by omega);simp at d;have:=gN ns x i (by simpa using a) (λj e g=>b (j+1) (YY e) (by omega)) (λf=>c (YY f));unfold aL at this ⊢;rw [YL];simp [d,this]
def m4:∀ (ns:List ByteArray) (x:ByteArray) (j:Nat) (a:j<ns.length),j<aL ns x->jA ns[j] x=ZW
 | [],_,j,a,_=>by simp at a
 | n::ns,x,j,a,h=>by
  unfold aL at h;rw [YL] at h;cases b:jA n x
  . simp [b] at h
  . simp [b] at h;cases j with
    | zero=>simpa using b
    | succ j=>simpa using m4 ns x j (by simpa using a) (by unfold aL;omega)
def yw:∀ (ns:List ByteArray) (x:ByteArray) (a:aL ns x<ns.length),jA ns[aL ns x] x=ZV
 | [],x,a=>by simp at a
 | n::ns,x,a=>by
  by_cases b:jA n x=ZW
  . have e:aL (n::ns) x=aL ns x+1:=(by unfold aL;rw [YL];simp [b]);have c:=yw ns x (by rw [e] at a;simpa using a);simp only [e,X9];exact c
  . have e:aL (n::ns) x=0:=(by unfold aL;rw [YL];simp [b]);simp only [e,ab2];simpa using b
def we (b:Up ns) (x:ByteArray) (j:Nat) (f:j<ns.length) (h:aL ns x<=j):jA ns[j] x=ZV:=by
 have a:=yw ns x (by omega);rcases XP h with e|d
 . subst e;exact a
 . unfold Up at b;rw [V6] at b;have c:=b _ _ (by omega) f d;cases hb:jA ns[j] x
   . rfl
   . rw [jM c hb] at a;cases a
def iw (a:Up ns) {x:ByteArray} {k:Nat} (b:k<ns.length) (e:ns[k]=x):aL ns x=k:=by
 refine gN ns x k (Nat.le_of_lt b) (λj d c=>?_) (λf=>by rw [e];exact iV x);unfold Up at a;rw [V6] at a;have:=a j k d b c;rwa [e] at this
def ux (b:Up ns) {x:ByteArray} (c:x∈ns):∃ h:aL ns x<ns.length,ns[aL ns x]=x:=by
 obtain ⟨k,a,e⟩:=UZ c;have:=iw b a e;exact ⟨by omega,by simp only [this];exact e⟩
def I4 (c:Up ns) {x:ByteArray} (m:x∉ns):Up (ns.take (aL ns x)++x::ns.drop (aL ns x)):=by
 have n:=yu ns x;unfold Up;rw [abN,List.pairwise_cons];refine ⟨YO (YZ _ _) c,⟨λa g=>?_,YO (Y3 _ _) c⟩,λa g b f=>?_⟩
 . obtain ⟨j,h,e⟩:=UZ g;rw [Ur] at h;rw [Yp] at e;have d:=we c x (aL ns x+j) (by omega) (by omega);rw [e] at d;cases f:jA x a
   . exact absurd (U8 g) (by rw [sr d f];exact m)
   . rfl
 . obtain ⟨j,h,e⟩:=UZ g;rw [Us] at h;rw [abI] at e;have d:=m4 ns x j (by omega) (by omega);rw [e] at d;rcases Uz.1 f with rfl|f
   . exact d
   . obtain ⟨i,l,k⟩:=UZ f;rw [Ur] at l;rw [Yp] at k;unfold Up at c;rw [V6] at c;have:=c j (aL ns x+i) (by omega) (by omega) (by omega);rwa [e,k] at this
def L3 (b:Up ns) (k:Nat):Up (ns.take k++ns.drop (k+1)):=by
 refine YO ?_ b;have a:(ns.take k++ns.drop (k+1)).Sublist (ns.take k++ns.drop k):=List.Sublist.append (List.Sublist.refl _) (by rw [<- VN];exact Y3 _ _);rwa [Wl] at a
def OC (a:x<256):gm 1 x=x:=by rw [fD (by decide) a,eA x a]
theorem L4 (D i t:Nat) (a:i<D):(dr D i).getD t 0=if t=i then 1 else 0:=by
 unfold dr;rw [Ub,Xn];by_cases e:t=i
 . subst e;simp [a]
 . rw [TW (λq=>e q.symm),TW e,WB];split<;>rfl
def CK (D i q:Nat) (c:i<D) (Dt:List a8) (b:(Dt.getD i []).getD q 0<256):∀ t,Oh (dr D i) Dt t q=if i<t then (Dt.getD i []).getD q 0 else 0
 | 0=>by rw [TW (by omega)];rfl
 | t+1=>by
  show Oh (dr D i) Dt t q^^^gm ((dr D i).getD t 0) ((Dt.getD t []).getD q 0)=_;rw [CK D i q c Dt b t,L4 D i t c];by_cases e:t=i
  . subst e;rw [TW (by omega),TX rfl,OC b,TX (by omega),V1]
  . rw [TW e,bM,U5];by_cases a:i<t
    . rw [TX a,TX (by omega)]
    . rw [TW a,TW (by omega)]
def I5 (D L G i:Nat) (b:i<D):∃ h:i<(aR D L G).length,(aR D L G)[i]=dr D i:=by
 have hl:i<(aR D L G).length:=by rw [cO];omega
 refine ⟨hl,?_⟩;have a:(aR D L G)[i]?=ZX (dr D i):=by
  unfold aR;rw [VG (by simp;omega),VG (by simp;omega)];simp [b]
 rw [Ue hl] at a;exact UQ a
def CL (a:∀ x∈dl,x<256):∀ x∈iR D dl,x<256:=by
 intro x h;unfold iR at h;rcases Un.1 h with q|q
 . exact a x q
 . rw [VM q];decide
theorem CM (a:i<D) (hl:dl.length<=D*44) (j:∀ x∈dl,x<256):(dq D L G dl).getD i []=((iR D dl).drop (i*44)).take 44:=by
 obtain ⟨h,g⟩:=I5 D L G i a;have e:(dq D L G dl).getD i []=cM (aR D L G)[i] (dY D dl) 44 (dY D dl).length:=by simp [dq,fu,h]
 rw [e,g,eh];have hr:(dY D dl).getD i []=((iR D dl).drop (i*44)).take 44:=by simp [dY,a]
 have d:=my hl a;unfold cM;apply Ve
 . simp [d]
 . intro q k b;have c:((dY D dl).getD i []).getD q 0=(((iR D dl).drop (i*44)).take 44)[q]:=(by rw [hr,Ub,Ue b];rfl);have f:((dY D dl).getD i []).getD q 0<256:=(by rw [c];exact CL j _ (U8 (U2 (T8 b))));rw [UU,List.getElem_range,CK D i q a _ f,TX a,c]
def yA:∀ m,((YF m).map λi=>((iR D dl).drop (i*44)).take 44).flatten=(iR D dl).take (44*m)
 | 0=>by simp
 | m+1=>by
  rw [VF,UD,aca,yA m,show 44*(m+1)=44*m+44 by omega,acb];simp [Ww]
def L5 (h:size<=dl.length):(iR D dl).take size=dl.take size:=by
 unfold iR;rw [V2 h]
theorem I6 (f:m=(size+43)/44) (d:m<=D) (hl:dl.length<=D*44) (c:∀ x∈dl,x<256) (b:size<=dl.length):((YF m).map λi=>(dq D L G dl).getD i []).flatten.take size=dl.take size:=by
 have e:((YF m).map λi=>(dq D L G dl).getD i [])=(YF m).map λi=>((iR D dl).drop (i*44)).take 44:=by
  apply YH;intro i a;exact CM (by have:=UA.1 a;omega) hl c
 rw [e,yA,YP,show min size (44*m)=size by omega,L5 b]
def CN (c:∀ x∈dl,x<256):(dY D dl).length=D/\∀ l∈dY D dl,∀ x∈l,x<256:=by
 refine ⟨eh D dl,λl hl x a=>?_⟩;obtain ⟨i,b,rfl⟩:=UZ hl;rw [oE b] at a;exact CL c x (U8 (U2 a))
def GL (nb:Nat):∀ (l:a8) (s:(Nat->Bool)×Bool),(∀ x∈l,2<=x/\x<nb/\s.1 x=ZV)->l.Nodup->(l.foldl (jx nb) s).2=s.2/\∀ x,(l.foldl (jx nb) s).1 x=(s.1 x || decide (x∈l))
 | [],s,_,_=>⟨rfl,λx=>by simp⟩
 | y::l,s,h,m=>by
  obtain ⟨p,r,g⟩:=h y (Va ..);obtain ⟨i,k⟩:=UV.1 m;have e:jx nb s y=(λj=>if j=y then ZW else s.1 j,s.2):=by
   unfold jx;rw [TW (λq=>by rcases q with q|q|q;omega;omega;rw [g] at q;cases q)]
  rw [W0,e];obtain ⟨n,o⟩:=GL nb l (λj=>if j=y then ZW else s.1 j,s.2) (λx f=>by
   obtain ⟨a,b,c⟩:=h x (UT _ f);have d:¬ x=y:=λq=>i (by rw [<- q];exact f);exact ⟨a,b,by show (if x=y then ZW else s.1 x)=ZV;rw [TW d];exact c⟩) k
  refine ⟨n,λx=>?_⟩;rw [o];show ((if x=y then ZW else s.1 x) || decide (x∈l))=(s.1 x || decide (x∈y::l));by_cases d:x=y
  . subst d;simp
  . rw [TW d];simp [d]
def L6 (e:l.Nodup) (a:∀ x∈l,2<=x/\x<nb):(tk nb l).2=ZW/\∀ x,(tk nb l).1 x=decide (x∈l):=by
 obtain ⟨c,d⟩:=GL nb l (λ_=>ZV,ZW) (λx b=>⟨(a x b).1,(a x b).2,rfl⟩) e;exact ⟨c,λx=>by rw [show (tk nb l).1 x=_ from d x];rfl⟩
def pZ {T:Nat->Bool}:x∈aY T k↔x<k/\2<=x/\T x=ZV:=by
 unfold aY;rw [Vv,UA];simp
def qV (T:Nat->Bool) (k:Nat):(aY T k).Nodup:=(YQ).filter _
def jh (e:l.Nodup) (d:∀ x∈l,2<=x/\x<nb) {x:Nat} (f:x∈aY (tk nb l).1 nb):(2<=x/\x<nb)/\x∉l:=by
 obtain ⟨b,c,a⟩:=pZ.1 f;rw [(L6 e d).2] at a;exact ⟨⟨c,b⟩,of_decide_eq_false a⟩
def nC (b:l.Nodup) (a:∀ x∈l,2<=x/\x<nb) (c:Nat):(((aY (tk nb l).1 nb).take c)++l).Nodup/\∀ x∈((aY (tk nb l).1 nb).take c)++l,2<=x/\x<nb:=by
 refine ⟨Vb.2 ⟨(qV _ _).sublist (YZ _ _),b,λx d y f e=>?_⟩,λx d=>?_⟩
 . subst e;exact (jh b a (U2 d)).2 f
 . rcases Un.1 d with h|h
   . exact (jh b a (U2 h)).1
   . exact a x h
theorem lT (c:l.Nodup) (a:∀ x∈l,2<=x/\x<nb):(aY (tk nb l).1 nb).length+l.length+2=max 2 nb:=by
 by_cases m:2<=nb
 . have k:((aY (tk nb l).1 nb)++l++[0,1]).Perm (YF nb):=by
    refine (List.perm_ext_iff_of_nodup ?_ YQ).2 λx=>?_
    . refine Vb.2 ⟨Vb.2 ⟨qV _ _,c,λx b y d e=>?_⟩,by decide,λx b y d e=>?_⟩
      . subst e;exact (jh c a b).2 d
      . subst e;have g:2<=x:=by
         rcases Un.1 b with h|h
         . exact (jh c a h).1.1
         . exact (a x h).1
        simp at d;omega
    . rw [UA,Un,Un,pZ];constructor
      . rintro ((h|h)|h)
        . exact h.1
        . exact (a x h).2
        . simp at h;omega
      . intro h;by_cases g:2<=x
        . by_cases f:x∈l
          . exact .inl (.inr f)
          . exact .inl (.inl ⟨h,g,by rw [(L6 c a).2];exact Vz f⟩)
        . exact .inr (by simp;omega)
   have:=k.length_eq;simp at this;omega
 . have i:l=[]:=by
    cases l with
    | nil=>rfl
    | cons x l=>have:=a x (Va ..);omega
   subst i;have j:aY (tk nb []).1 nb=[]:=by
    rw [aco];intro x b;have:=pZ.1 b;omega
   rw [j];simp;omega
theorem oI {os:List Ob} (a:fa K w v os) (hr:os.length<=10000) :
 ZR ZN 138 #[v] w λe w'=>∃ u L,e=Z3 u/\L.map (·.1)=os/\Oz K w L/\w'.ownsRow w.heap.size 152 3 u L.length (bV L)/\bW w w':=by
 obtain ⟨L,hL,j,f⟩:=OA a;obtain ⟨ao,c,rfl,Q,d⟩:=id a;have F:L.length=os.length:=by rw [<- hL,Ud]
 obtain ⟨M,I,B,C,D⟩:=Uu Tryz.R3;cases ao with
 | none=>
  have t:os=[]:=Classical.byContradiction λh=>by obtain ⟨b,off,e,_⟩:=d h;cases e
  subst t;have E:L=[]:=UY F;subst E;have G:=λl=>XI (P:=ZN) l 144 152 ZY 0 c 0 0 VD;simp only [U0];clear d a f j;go_enter func138,ntmps138;go_wp2;go_ret;exact ⟨_,[],rfl,rfl,λx J=>by simp at J,UP _ _ _ _,T6 _ _⟩
 | some s=>
  have G:=λl=>XI (P:=ZN) l 144 152 (ZX s) os.length c 0 0 VD;have g:bW w (w.alloc (Z4 #[] 152)):=bA _ _;have p:=f _ (eN.RU g);have r:(w.alloc (Z4 #[] 152)).ownsRow w.heap.size 152 3 (Z5 (ZX ⟨w.heap.size,0,ZY⟩) 0 0) 0 []:=⟨rfl,.inr ⟨w.heap.size,0,#[],rfl,TY _,UN w _,TY _,by unfold maxLen;omega,rfl,rfl⟩⟩;have H:=a6 hL j g p r;clear d a f j g p r hL;go_enter func138,ntmps138;go_wp2_with (at_builtin;refine ae _ rfl (Z2 5) (Z2 6) 144 144 rfl w.heap.size 152 M _ 3 48 VD I B C D rfl _ 0 [] (by rfl) (by exact H.o.2.2.2.2) _ (by rfl) L.length (bV L) (by exact H.o.2.2.2.1) (by unfold maxLen;omega) (by omega) (by exact H.o.2.2.1.size) ?_;intro R S i q A;rw [Um,Ut] at i;have m:=al i q;clear i q A);go_ret;obtain ⟨y,z,n,N,O⟩:=H.o;exact ⟨_,L,rfl,y,z,m.o.1,n.grown m.o.2 n.size (λk e=>by cases e;exact TY _)⟩
def oJ {K:Act->ZU->Prop} (f:o.guard=ZY) (d x:Operand) (b c:ZP) (e:o.op=Op.call { callee:=Callee.builtin Builtin.copy,args:=#[d,x],argTypes:=#[b,c] })
 (v u:ZT) (hd:a.eval d=v) (hx:a.eval x=u) {v':ZT} {w':ZU} (hr:(Builtin.copy_ #[b,c] o.type #[v,u]).run ZN w=.ok v' w') (hK:K (a.put o.dst v') w'):if Region.wanted o (yielded ops a.tmps)=ZW then Oper.wp ZN o a w K Q else E:=by
 rw [TX (by simp [Region.wanted,f])];unfold Oper.wp;simp [execOp,e,resolve,invoke,builtin,hd,hx,hr,Result.andThen];exact hK
theorem L7 (cur c v:List α) (a m k:Nat) (g:cur.take k=c) (l:c.length=k) (h:v.length=m) (f:a<=k) (n:k+m<=cur.length) :
 ((cur.take (a+m)++c.drop a++cur.drop (a+m+(c.drop a).length)).take a++v++(cur.take (a+m)++c.drop a++cur.drop (a+m+(c.drop a).length)).drop (a+v.length)).take (k+m)=c.take a++(v++c.drop a) /\
 ((cur.take (a+m)++c.drop a++cur.drop (a+m+(c.drop a).length)).take a++v++(cur.take (a+m)++c.drop a++cur.drop (a+m+(c.drop a).length)).drop (a+v.length)).length=cur.length:=by
 have b:(cur.take (a+m)).length=a+m:=by rw [Us];omega
 have d:(cur.take (a+m)++c.drop a++cur.drop (a+m+(c.drop a).length)).take a=c.take a:=by
  rw [UC,V2 (by omega),YP,Wm (by omega),<- g,YP,Wm f]
 have e:(cur.take (a+m)++c.drop a++cur.drop (a+m+(c.drop a).length)).drop (a+v.length)=c.drop a++cur.drop (a+m+(c.drop a).length):=by
  rw [h,UC];exact List.drop_left' b
 have i:(c.take a).length=a:=by rw [Us];omega
 have j:(c.drop a).length=k-a:=by rw [Ur];omega
 rw [d,e];constructor
 . rw [UC,<- UC v,<- UC (c.take a)];have:(c.take a++(v++c.drop a)).length=k+m:=by rw [Uc,Uc];omega
   rw [<- this,Yg]
 . simp only [Uc,Ur,Us];omega
def kV (b:Nat):∀ (a:List ZT) (o:Nat) (w:ZU),(w.drew.setCells b o a).heap=(w.setCells b o a).heap
 | [],_,_=>rfl
 | v::r,o,w=>kV b r (o+1) (w.setCell ⟨b,o,ZY⟩ v)
theorem GM (L:List (Ob×ZT)) (x:Ob×ZT) (i:Nat):(bV L).take (i*3)++(jz x++(bV L).drop (i*3))=bV (L.take i++x::L.drop i):=by
 rw [CJ,uv,iU];congr 1
def GN:(ZN.info? 152).map (·.size)=ZX 3:=by kernel_rfl
theorem CO {vb:Nat} {cur:Array ZT} {L:List (Ob×ZT)} {x:Ob×ZT} (A:w.heap[g]?=ZX (Z4 cur 152 (0,0))) (R:base<=g) (C:cur.size=cap*3) (z:cur.toList.take (L.length*3)=bV L) (O:∀ u∈bV L,u.oneCell'=ZW) (U:∀ u∈jz x,u.oneCell'=ZW)
 (Y:i<L.length) (X:L.length+1<=cap) (hl:L.length<=10000) (D:w.heap[vb]?=ZX (Z4 (jz x).toArray 152 (0,0))) (S:vb≠g) :
 ZR ZN 166 #[Z5 (ZX ⟨g,0,ZY⟩) L.length cap,Z7 Z9 i,Z5 (ZX ⟨vb,0,ZY⟩) 1 1] w λe w'=>e=Z3 (Z5 (ZX ⟨g,0,ZY⟩) (L.length+1) cap)/\ZS base w w'/\∃ a,ai w' g 152 a/\a.length=cap*3/\a.take ((L.length+1)*3)=bV (L.take i++x::L.drop i):=by
 obtain ⟨n,P⟩:=nM (L.length);have m:ai w g 152 cur.toList:=by unfold ai;exact A
 have r:ai w vb 152 (jz x):=D;have h:cur.toList.length=cap*3:=by simpa using C
 have s:((bV L).drop (i*3)).length=(n-i)*3:=by rw [Ur,b8,P];omega
 have kf:(jz x).length=3:=rfl;have T:∀ lb cb ob,(callFunc 191 #[Z5 (ZX ⟨vb,0,ZY⟩) 1 1,Z5 (ZX ⟨g,ob,ZY⟩) lb cb]).run ZN w=.ok (.value (.bool ZV)) w:=λlb cb ob=>by
  rw [run_callFunc_extern func191 (by kernel_rfl) (by kernel_rfl) (by kernel_rfl) (e:=Extern.SlicesOverlaps.overlaps #[143,143] #[4]) (by kernel_rfl),
   Lib.run_overlaps_apart w 143 4 152 underlying143 3 (λw=>by obtain ⟨io,ka,kb,hs,kc⟩:=Uu Tryz.R3;simp [sizeOf,typeInfo,ka,hs]) ⟨vb,0,ZY⟩ ⟨g,ob,ZY⟩ 1 1 lb cb S 152 152 3 (cap*3) (by simp [World.shape?,D];rfl) (by simp [World.shape?,A,C]) (by omega) (r.Sa _) (r.Sa _)]
  rfl
 have J:∀ c d l1 b E y F,d=i*3+3->l1=n-i->E=i*3->y=n+1-i->(Builtin.copy_ #[144,144] c #[Z5 (ZX ⟨g,d,ZY⟩) l1 b,Z5 (ZX ⟨g,E,ZY⟩) y F]).run ZN w.drew=.ok (goInt (YJ y l1)) (w.drew.setCells g (i*3+3) ((bV L).drop (i*3))):=by
  rintro c d l1 b E y F rfl rfl rfl rfl;refine eo w.drew _ _ c 152 3 g (i*3+3) _ b g (i*3) _ F 152 cur.toList _ VD GN (by rw [s];show _=min _ _*3;rw [acd (by omega)]) (λj u l=>?_) m (by rw [s,h];omega) (λu hu=>O u (U8 hu));refine m.cell ?_;rw [Wg] at l;have ke:i*3+j<L.length*3:=by obtain ⟨q,_⟩:=Vc.1 l;rwa [b8] at q
  rw [<- z,VR ke] at l;exact l
 have f:=m.set (i*3+3) ((bV L).drop (i*3)) (by rw [s,h];omega);have I:ai (w.setCells g (i*3+3) ((bV L).drop (i*3))) vb 152 (jz x):=r.keep (aQ g _ _ _ _ S);obtain ⟨c1,B⟩:=nM (cur.toList.take (i*3+3)++(bV L).drop (i*3)++cur.toList.drop (i*3+3+((bV L).drop (i*3)).length));have M:=L7 cur.toList (bV L) (jz x) (i*3) 3 (L.length*3) z (b8 L) rfl (by omega) (by rw [h];omega);rw [B] at f M;obtain ⟨t,v⟩:=M;have p:c1.length=cap*3:=by
  rw [<- B];simp only [Uc,Ur,Us,b8,h];omega
 have K:∀ (W:ZU),W.heap=(w.setCells g (i*3+3) ((bV L).drop (i*3))).heap->∀ c d l1 b,d=i*3->l1=n+1-i->(Builtin.copy_ #[144,143] c #[Z5 (ZX ⟨g,d,ZY⟩) l1 b,Z5 (ZX ⟨vb,0,ZY⟩) 1 1]).run ZN W=.ok (goInt (YJ 1 l1)) (W.setCells g (i*3) (jz x)):=by
  rintro W N c d l1 b rfl rfl;have k6:ai W g 152 c1:=by unfold ai;rw [N];exact f
  have Z:ai W vb 152 (jz x):=by unfold ai;rw [N];exact I
  refine eo W _ _ c 152 3 g (i*3) _ b vb 0 1 1 152 c1 _ VD GN (by show _=min _ _*3;rw [Wm (by omega)];rfl) (λj u l=>?_) k6 (by rw [p,kf];omega) U;rw [Um];exact Z.cell l
 have H:=aE f t v;have k9:=ak m.lt;have p:=ak p;have hr:=ak h;have G:=al J K;have V:=ak T;rw [P] at Y X hl ⊢;have kp:IntKind.i64.wrap ((i:Int)+1)=(i:Int)+1:=by rw [UF];omega
 have kr:¬ (cap:Int)<(n:Int)+1:=by omega
 have km:i<=n:=by omega
 have kh:¬ (cap=i+1):=by omega
 have kj:¬ (cap=i):=by omega
 have ko:((i:Int)+1).toNat=i+1:=by omega
 have kg:(0:Int)<=(i:Int)+1:=by omega
 have ki:(i:Int)<=(n:Int)+1:=by omega
 clear m r s T J K f I B t v h C z O U D A;go_enter func166,ntmps166;go_wp2_with (simp only [V.o]);go_region_law (refine oJ rfl _ _ 144 144 rfl _ _ (by simp [Act.eval,Act.put]) (by simp [Act.eval,Act.put]) (G.o.1 _ ((i+1)*3) (n-i) (cap-(i+1)) (i*3) (n+1-i) (cap-i) (by omega) (by omega) (by omega) (by omega)) ?_)
 have k8:∀ c b,(Builtin.copy_ #[144,143] c #[Z5 (ZX ⟨g,i*3,ZY⟩) (n+1-i) b,Z5 (ZX ⟨vb,0,ZY⟩) 1 1]).run ZN (w.drew.setCells g (i*3+3) ((bV L).drop (i*3)))=.ok (goInt (YJ 1 (n+1-i))) ((w.drew.setCells g (i*3+3) ((bV L).drop (i*3))).setCells g (i*3) (jz x)):=λc b=>G.o.2 _ (kV _ _ _ _) c (i*3) (n+1-i) b rfl rfl;go_wp2;go_ret;obtain ⟨f,t,v⟩:=H.o;have k7:ai (w.drew.setCells g (i*3+3) ((bV L).drop (i*3))) g 152 c1:=by unfold ai;rw [kV];exact f
 have kk:g<w.heap.size:=k9.out;have Q:ZS base w (w.drew.setCells g (i*3+3) ((bV L).drop (i*3))):=(T6 base w).drew.grown (cD _ _ _ _) (by show base<=w.heap.size;omega) (λk e=>by cases e;exact R);refine ⟨rfl,Q.grown (cD _ _ _ _) (TZ (by omega) Q.size) (λk e=>by cases e;exact R),_,k7.set (i*3) (jz x) (by have h1:c1.length=cap*3:=p.out;have h2:(jz x).length=3:=rfl;omega),?_,?_⟩
 . rw [v];exact hr.out
 . rw [show (n+1)*3=L.length*3+3 by omega,t,GM]
theorem CP {vb:Nat} {cur:Array ZT} {L:List (Ob×ZT)} {x:Ob×ZT} (Z:w.heap[g]?=ZX (Z4 cur 152 (0,0))) (ko:base<=w.heap.size) (kp:cur.size=cap*3) (P:cur.toList.take (L.length*3)=bV L) (hs:∀ u∈bV L,u.oneCell'=ZW) (kh:∀ u∈jz x,u.oneCell'=ZW)
 (hi:i<L.length) (kx:L.length<=cap) (hv:cap<L.length+1) (hl:L.length<=10000) (hx:w.heap[vb]?=ZX (Z4 (jz x).toArray 152 (0,0))) :
 ZR ZN 166 #[Z5 (ZX ⟨g,0,ZY⟩) L.length cap,Z7 Z9 i,Z5 (ZX ⟨vb,0,ZY⟩) 1 1] w λe w'=>∃ cap',e=Z3 (Z5 (ZX ⟨w.heap.size,0,ZY⟩) (L.length+1) cap')/\ZS base w w'/\L.length+1<=cap'/\cap'<=9223372036854775807/\∃ c,ai w' w.heap.size 152 c/\c.length=cap'*3/\c.take ((L.length+1)*3)=bV (L.take i++x::L.drop i):=by
 obtain ⟨io,kf,hq,hr,R⟩:=Uu Tryz.R3;obtain ⟨n,I⟩:=nM (L.length);have v:ai w g 152 cur.toList:=by unfold ai;exact Z
 have S:ai w vb 152 (jz x):=hx;have z:((bV L).drop (i*3)).length=(n-i)*3:=by rw [Ur,b8,I];omega
 have p:((bV L).take (i*3)).length=i*3:=by rw [Us,b8,I];omega
 have A:(jz x).length=3:=rfl;have X:∀ j u,(bV L)[j]?=ZX u->w.cell? ⟨g,j,ZY⟩=ZX u:=λj u b=>by
  refine v.cell ?_;have U:j<L.length*3:=by obtain ⟨q,_⟩:=Vc.1 b;rwa [b8] at q
  rw [<- P,VR U] at b;exact b
 have hold:(Builtin.firstCells io.size i (Z5 (ZX ⟨g,0,ZY⟩) i cap)).run ZN w.drew=.ok ((bV L).take (i*3)).toArray w.drew:=by
  rw [hr];exact run_firstCells_some w.drew 3 i ⟨g,0,ZY⟩ i cap _ p (λj u b=>by
   rw [Vp,Um];rw [Yb] at b;split at b
   . exact X j u b
   . cases b)
 have ke:i+(n+1-i)=n+1:=by omega
 have kg:(n:Int)+1-(i:Int)=((n+1-i:Nat):Int):=by omega
 have r:=λf=>Lib.run_append_grow_zeros w 144 3 f 152 io _ .i64 .i64 VD WH kf hq (ZX ⟨g,0,ZY⟩) i cap _ hold (n+1-i) (by omega) (by omega) (by omega) (by omega) (by rw [R];omega) (by rw [R,ke];exact abx (by omega) (by omega));rw [ke] at r;obtain ⟨C,G⟩:=nM (grownCap w (n+1) cap 152);have kk:n+1<=C:=by rw [<- G];exact aby w _ _ _
 have km:C<=9223372036854775807:=by
  have:=abz w (n+1) cap 152 (by unfold maxLen;omega);rw [G] at this;unfold maxLen at this;omega
 rw [G] at r;obtain ⟨a,D⟩:∃ a:Array ZT,((bV L).take (i*3)).toArray++Builtin.zeroCells (Value.agg #[Z1 YK,Z7 Z9 0,Z5 ZY 0 0]).cells (n+1-i)++Builtin.zeroCells (Value.agg #[Z1 YK,Z7 Z9 0,Z5 ZY 0 0]).cells (C-(n+1))=a:=⟨_,rfl⟩;rw [D] at r;have kj:(Value.agg #[Z1 YK,Z7 Z9 0,Z5 ZY 0 0]).cells.size=3:=by rfl
 have J:a.toList.length=C*3:=by
  rw [<- D];simp only [Wv,Array.size_append,size_zeroCells,UL,kj,p];omega
 have kb:a.toList.take (i*3)=(bV L).take (i*3):=by
  rw [<- D,Y4,Y4,UC,V2 (by simp [p])];rw [UJ (by simp [p])]
 obtain ⟨h,M⟩:=nM (w.drew.alloc (Z4 a 152));rw [M] at r;have T:ai h w.heap.size 152 a.toList:=by rw [<- M];exact abD w.drew _
 have s:bW w h:=by rw [<- M];exact (T6 _ w).drew.alloc lR _
 have ki:ai h vb 152 (jz x):=S.keep (s.block _ S.lt);have kc:ai h g 152 cur.toList:=v.keep (s.block _ v.lt);have t:∀ f m,(Builtin.copy_ #[144,143] f #[Z5 (ZX ⟨w.heap.size,i*3,ZY⟩) (n+1-i) m,Z5 (ZX ⟨vb,0,ZY⟩) 1 1]).run ZN h=.ok (goInt (YJ 1 (n+1-i))) (h.setCells w.heap.size (i*3) (jz x)):=λf m=>by
  refine eo h _ _ f 152 3 w.heap.size (i*3) _ m vb 0 1 1 152 a.toList _ VD GN (by show _=min _ _*3;rw [Wm (by omega)];rfl) (λj u b=>?_) T (by rw [J,A];omega) kh;rw [Um];exact ki.cell b
 have y:=T.set (i*3) (jz x) (by rw [J,A];omega);obtain ⟨d,N⟩:=nM (h.setCells w.heap.size (i*3) (jz x));have kv:g<w.heap.size:=v.lt;have hp:ai d g 152 cur.toList:=by rw [<- N];exact kc.keep (aQ _ _ _ _ _ (by omega))
 have Q:bW w d:=by rw [<- N];exact s.grown (cD _ _ _ _) s.size (λk e=>by cases e;exact TY _)
 rw [N] at t y;obtain ⟨l,O⟩:=nM (a.toList.take (i*3)++jz x++a.toList.drop (i*3+(jz x).length));have F:l.length=C*3:=by rw [<- O];simp only [Uc,Ur,Us,J,A];omega
 have Y:l.take (i*3+3)=(bV L).take (i*3)++jz x:=by
  rw [<- O,kb];have:((bV L).take (i*3)++jz x).length=i*3+3:=by rw [Uc,p,A]
  rw [<- this,Yg]
 rw [O] at y;have hh:∀ f m V,(Builtin.copy_ #[144,144] f #[Z5 (ZX ⟨w.heap.size,(i+1)*3,ZY⟩) (n-i) m,Z5 (ZX ⟨g,i*3,ZY⟩) (n-i) V]).run ZN d.drew=.ok (goInt (YJ (n-i) (n-i))) (d.drew.setCells w.heap.size ((i+1)*3) ((bV L).drop (i*3))):=λf m V=>by
  refine eo d.drew _ _ f 152 3 w.heap.size ((i+1)*3) _ m g (i*3) _ V 152 l _ VD GN (by rw [z];show _=min _ _*3;rw [Nat.min_self]) (λj u b=>?_) y (by rw [z,F];omega) (λu hu=>hs u (U8 hu));have h2:d.cell? ⟨g,i*3+j,ZY⟩=ZX u:=by
   refine hp.cell ?_;rw [Wg] at b;have U:i*3+j<L.length*3:=(by obtain ⟨q,_⟩:=Vc.1 b;rwa [b8] at q);rw [<- P,VR U] at b;exact b
  exact h2
 have K:ai (d.drew.setCells w.heap.size ((i+1)*3) ((bV L).drop (i*3))) w.heap.size 152 _:=ai.set (w:=d.drew) y ((i+1)*3) ((bV L).drop (i*3)) (by rw [z,F];omega);have E:bW w (d.drew.setCells w.heap.size ((i+1)*3) ((bV L).drop (i*3))):=Q.drew.grown (cD _ _ _ _) Q.size (λk e=>by cases e;exact TY _);have hm:(l.take ((i+1)*3)++(bV L).drop (i*3)++l.drop ((i+1)*3+((bV L).drop (i*3)).length)).length=C*3/\(l.take ((i+1)*3)++(bV L).drop (i*3)++l.drop ((i+1)*3+((bV L).drop (i*3)).length)).take ((n+1)*3)=bV (L.take i++x::L.drop i):=by
  constructor
  . simp only [Uc,Ur,Us,b8,F,I];omega
  . rw [show (i+1)*3=i*3+3 by omega,Y];have:((bV L).take (i*3)++jz x++(bV L).drop (i*3)).length=(n+1)*3:=by rw [Uc,Uc,p,A,z];omega
    rw [<- this,Yg,UC,GM]
 have H:=aE K E hm;have B:=aE r t hh;have W:=al kk km;rw [I] at hi hv hl kx ⊢;have q5:IntKind.i64.wrap ((i:Int)+1)=(i:Int)+1:=by rw [UF];omega
 have q6:(cap:Int)<(n:Int)+1:=by omega
 have q3:i<=n:=by omega
 have kz:¬ (C=i+1):=by omega
 have q1:¬ (cap=i):=by omega
 have q2:¬ (C=i):=by omega
 have q4:((i:Int)+1).toNat=i+1:=by omega
 have ky:(0:Int)<=(i:Int)+1:=by omega
 have q0:(i:Int)<=(n:Int)+1:=by omega
 clear v S z p X hold r D J kb M T s ki kc t y N hp Q O F Y hh K E hm G kj kp P hs kh hx Z kv kf hq hr R;rw [<- kg] at B;go_enter func166,ntmps166;clear kg;have t:=B.o.2.1;go_wp2_with (at_builtin;refine Lib.wpList_append_run _ rfl _ _ _ _ rfl _ _ rfl rfl _ _ (B.o.1 _) ?_);clear t;go_region_law (refine oJ rfl _ _ 144 144 rfl _ _ (by simp [Act.eval,Act.put]) (by simp [Act.eval,Act.put]) (B.o.2.2 _ (C-(i+1)) (cap-i)) ?_)
 go_wp2;go_ret;obtain ⟨K,E,kr,ks⟩:=H.o;exact ⟨C,rfl,E.mono ko,W.o.1,W.o.2,_,K,kr,ks⟩
def OD {vb:Nat} {x:Ob×ZT} (d:w.heap[vb]?=ZX (Z4 (jz x).toArray 152 (0,0))) (b:∀ u∈jz x,u.oneCell'=ZW):Src ZN 3 143 (Z5 (ZX ⟨vb,0,ZY⟩) 1 1) 1 (jz x) w:=by
 have a:ai w vb 152 (jz x):=d;exact Vk w underlying143 ⟨vb,0,ZY⟩ 1 1 (jz x) rfl (λj u c=>by rw [Vp,Um];exact a.cell c) b
theorem E6 {vb:Nat} {L:List (Ob×ZT)} {x:Ob×ZT} (ho:w.ownsRow base 152 3 u L.length (bV L)) (d:base<=w.heap.size) (l:∀ u∈jz x,u.oneCell'=ZW) (hl:L.length<=10000) (m:w.heap[vb]?=ZX (Z4 (jz x).toArray 152 (0,0))) :
 ZR ZN 166 #[u,Z7 Z9 (L.length:Nat),Z5 (ZX ⟨vb,0,ZY⟩) 1 1] w λe w'=>∃ u',e=Z3 u'/\w'.ownsRow base 152 3 u' (L.length+1) (bV (L++[x]))/\ZS base w w':=by
 obtain ⟨z,v,q,r,s⟩:=Uu Tryz.R3;have i:=OD m l;have h:∀ k,u.ownBlock=ZX k->base<=k:=λk e=>by
  rcases ho.2 with ⟨rfl,_⟩|⟨g,cap,cur,rfl,t,_⟩
  . cases e
  . cases e;exact t
 have H:=aE ho i h;obtain ⟨n,y⟩:=nM (L.length);have j:bV (L++[x])=bV L++jz x:=by rw [iU];congr 1
 rw [j];rcases ho.2 with ⟨rfl,p⟩|⟨g,cap,cur,rfl,t,B,C,F,G,A⟩
 . rw [y] at p hl H ⊢;subst p;clear ho i h m l j;go_enter func166,ntmps166;go_wp2_with (at_builtin;refine ae _ rfl (Z2 23) (Z2 24) 144 143 rfl base 152 z _ 3 48 VD v q r s rfl _ 0 (bV L) (by rfl) (by exact H.o.1) _ (by rfl) 1 (jz x) (by exact H.o.2.1) (by unfold maxLen;omega) (by omega) d ?_;intro D E c b f;have a:=al c b;clear c b f);go_ret;exact ⟨_,rfl,a.o.1,(T6 base w).grown a.o.2 d H.o.2.2⟩
 . rw [y] at hl H C ⊢;clear ho i h m l j A B;go_enter func166,ntmps166;go_wp2_with (at_builtin;refine ae _ rfl (Z2 23) (Z2 24) 144 143 rfl base 152 z _ 3 48 VD v q r s rfl _ n (bV L) (by rfl) (by exact H.o.1) _ (by rfl) 1 (jz x) (by exact H.o.2.1) (by unfold maxLen;omega) (by omega) d ?_;intro D E c b f;have a:=al c b;clear c b f);all_goals (go_ret;exact ⟨_,rfl,a.o.1,(T6 base w).grown a.o.2 d H.o.2.2⟩)
def Ap {L:List (Ob×ZT)} (h:ai w g 152 cur) (a:base<=g) (c:n=L.length) (b:n<=cap) (e:cap<=9223372036854775807) (hl:cur.length=cap*3) (d:cur.take (n*3)=bV L):w.ownsRow base 152 3 (Z5 (ZX ⟨g,0,ZY⟩) n cap) n (bV L):=
 ⟨by rw [b8,c],.inr ⟨g,cap,cur.toArray,rfl,a,h,b,by unfold maxLen;omega,by simpa using hl,by simpa using d⟩⟩
def E7 {vb:Nat} {L:List (Ob×ZT)} {x:Ob×ZT} (ho:w.ownsRow base 152 3 u L.length (bV L)) (f:base<=w.heap.size) (o:∀ u∈bV L,u.oneCell'=ZW) (j:∀ u∈jz x,u.oneCell'=ZW) (hl:L.length<=10000) (k:w.heap[vb]?=ZX (Z4 (jz x).toArray 152 (0,0))) (C:u.ownBlock≠ZX vb) (z:i<=L.length) :
 ZR ZN 166 #[u,Z7 Z9 (i:Nat),Z5 (ZX ⟨vb,0,ZY⟩) 1 1] w λe w'=>∃ u',e=Z3 u'/\w'.ownsRow base 152 3 u' (L.length+1) (bV (L.take i++x::L.drop i))/\ZS base w w':=by
 rcases XP z with e|s
 . subst e;rw [VK,List.drop_length];exact E6 ho f j hl k
 . have n:L.length+1=(L.take i++x::L.drop i).length:=(by simp;omega);rcases ho.2 with ⟨rfl,D⟩|⟨g,cap,cur,rfl,p,q,B,A,r,m⟩
   . omega
   . have y:cap<=9223372036854775807:=(by unfold maxLen at A;omega);by_cases l:L.length+1<=cap
     . refine (CO q p r m o j s l hl k (λe=>C (by rw [e];rfl))).mono ?_;rintro e w' ⟨rfl,h,a,b,c,d⟩;exact ⟨_,rfl,Ap b p n l y c d,h⟩
     . refine (CP q f r m o j s B (by omega) hl k).mono ?_;rintro e w' ⟨cap',rfl,h,t,v,a,b,c,d⟩;exact ⟨_,rfl,Ap b f n t v c d,h⟩
def yB (h:aF W B C) (a:Bx W B' v):B≠B':=by
 rintro rfl;obtain ⟨t,a⟩:=a;have e:=h.heap.symm.trans a;simp only [US,Vl] at e;have:=UB Array.size e.1;rw [b9] at this;simp at this
noncomputable def RF1:Array Oper:=((Tryz.f212.body.bind (Ka · 1))).getD #[]
def aaF:List (Op×Option Nat×a8):=[(.load 332 (Z2 2),ZX 11,[]),(.load 133 (Z2 3),ZX 12,[]),(.call { callee:=.value (.func 223),args:=#[Z2 12],argTypes:=#[133] },ZX 13,[1]),
 (.alloc 332,ZX 5,[]),(.alloc 3,ZX 6,[]),(.store 332 (Z2 5) (Z2 11),ZY,[3,0,2,0,3,4]),(.store 3 (Z2 6) (Z2 13),ZY,[4,2,5,0,1,2,3,4,5])]
def I7:bF RF1 5 14 aaF:=eU (by kernel_rfl) (by kernel_rfl)
def OE (n t:Nat) (w:ZU) (b:Nat):Prop:=n<=b/\∃ c,w.heap[b]?=ZX (Z4 c t (0,0))
def iC {t t':Nat} {c:Array ZT} (h:OE n t' (w.alloc (Z4 c t)) b):OE n t' w b\/(b=w.heap.size/\t'=t):=by
 obtain ⟨f,d,a⟩:=h;by_cases e:b<w.heap.size
 . exact .inl ⟨f,d,(Uy _ _ _ e).symm.trans a⟩
 . have hl:=(T5.1 a).1;rw [Uw] at hl;obtain rfl:b=w.heap.size:=(by omega);rw [Uk] at a;cases a;exact .inr ⟨rfl,rfl⟩
def BFw (w:ZU) (D:Nat->Bool) (w':ZU):Prop:=bW w w'/\(∀ t b b',OE w.heap.size t w' b->OE w.heap.size t w' b'->b=b')/\(D 3=ZV->∀ b,¬ OE w.heap.size 332 w' b)/\(D 4=ZV->∀ b,¬ OE w.heap.size 3 w' b)
def Aq {D:Nat->Bool} (h:BFw w D w') (i:Nat) (a:3≠i) (b:4≠i):BFw w (mq D i) w':=⟨h.1,h.2.1,by rw [gQ a];exact h.2.2.1,by rw [gQ b];exact h.2.2.2⟩
def GO {D:Nat->Bool} (h:BFw w D w') (i:Nat) (d:3≠i) (f:4≠i) (g:bW w w'') (a:∀ t b,OE w.heap.size t w'' b->OE w.heap.size t w' b):BFw w (mq D i) w'':=
 ⟨g,λt b c q j=>h.2.1 t b c (a t b q) (a t c j),λe b q=>h.2.2.1 (by rwa [gQ d] at e) b (a _ b q),λe b q=>h.2.2.2 (by rwa [gQ f] at e) b (a _ b q)⟩
def OF (w:ZU) (kept:Nat) (C:Ck) (i:Nat) (u:ZT) (w':ZU):Prop:=match i with
 | 0=>u=.agg (aU C)
 | 1=>u=Z7 Z8 (kept:Int)
 | 2=>u=Z7 Z9 ((ab kept).length:Nat)
 | 3=>∃ b,u=Z6 (ZX ⟨b,0,ZY⟩)/\w.heap.size<=b/\∃ Z,aF w' b Z
 | 4=>∃ b,u=Z6 (ZX ⟨b,0,ZY⟩)/\w.heap.size<=b/\∃ z,w'.heap[b]?=ZX (Z4 #[z] 3 (0,0))
 | 5=>∃ b,w.heap.size<=b/\aF w' b C
 | 6=>∃ b,w.heap.size<=b/\w'.heap[b]?=ZX (Z4 #[Z7 Z9 ((ab kept).length:Nat)] 3 (0,0))
 | _=>True
def CQ (a:∀ b,w.heap.size<=b->b<w'.heap.size->w''.heap[b]?=w'.heap[b]?):∀ j u,OF w kept C j u w'->OF w kept C j u w'':=λj u h=>by
 match j,h with
 | 0,h|1,h|2,h=>exact h
 | 3,⟨b,h1,h2,Z,h3⟩=>exact ⟨b,h1,h2,Z,h3.keep (a b h2 h3.lt)⟩
 | 4,⟨b,h1,h2,z,h3⟩=>exact ⟨b,h1,h2,z,(a b h2 (T5.1 h3).1).trans h3⟩
 | 5,⟨b,h2,h3⟩=>exact ⟨b,h2,h3.keep (a b h2 h3.lt)⟩
 | 6,⟨b,h2,h3⟩=>exact ⟨b,h2,(a b h2 (T5.1 h3).1).trans h3⟩
 | _+7,_=>trivial
theorem I8 (B2 S kept:Nat) (C:Ck) (hR:RF1=ops) (sz:a.tmps.size=35) (he:kept<65536)
 (i2:a.eval (Z2 2)=Z6 (ZX ⟨B2,0,ZY⟩)) (i3:a.eval (Z2 3)=Z6 (ZX ⟨S,0,ZY⟩)) (hh:aF w B2 C) (ha:Bx w S (Z7 Z8 (kept:Int)))
 (h:∀ g w' T U,LR 5 14 a g->g.eval (Z2 5)=Z6 (ZX ⟨T,0,ZY⟩)->g.eval (Z2 6)=Z6 (ZX ⟨U,0,ZY⟩)->w.heap.size<=T->w.heap.size<=U->aF w' T C->Bx w' U (Z7 Z9 ((ab kept).length:Nat))->bW w w'->Q .normal g w') :
 (Code.region 1 ops ZW).wpIn Fence.wide n ZN Q a w:=by
 subst hR;refine js (by kernel_rfl) I7 a w (by omega) (OF w kept C) (BFw w) ?_ ?_ ?_
 . have hf:∀ t b,¬ OE w.heap.size t w.drew b:=λt b ⟨P,c,F⟩=>by
    have:b<w.heap.size:=(T5.1 F).1;omega
   exact ⟨(T6 _ w).drew,λt b _ q=>absurd q (hf t b),λ_ b=>hf _ b,λ_ b=>hf _ b⟩
 . intro j y;match j,y with
   | 0,_=>
    intro o g w' D M ho B m x I A d i;exact se (w':=w') (v:=.agg (aU C)) (by (conv at ho=>rhs;whnf);simp [execOp,ho,(m.slot 2 (by omega)).trans i2,mB (hh.mono d.1 hh.lt),Result.andThen]) (by rw [ho];intro c h;cases h) B ⟨Aq d _ (by decide) (by decide),rfl,kq⟩
   | 1,_=>
    intro o g w' D M ho B m x I A d i;have cs:=(ha.keep (d.1.block S ha.lt)).cell;exact se (v:=Z7 Z8 (kept:Int)) (by (conv at ho=>rhs;whnf);simp only [execOp,ho,(m.slot 3 (by omega)).trans i3];go_simp) (by rw [ho];intro c h;cases h) B ⟨Aq d _ (by decide) (by decide),rfl,kq⟩
   | 2,_=>
    intro o g w' D M ho B m x I A d i;have s0:g.eval (Z2 12)=Z7 Z8 (kept:Int):=i 1 (A 1 (by decide));refine Lt (f:=223) (args:=#[Z7 Z8 (kept:Int)]) (w1:=w') (by have sf:g.eval (.func 223)=.func (.func 223) #[] #[]:=rfl;generalize g.eval=ev at s0 sf ⊢;(conv at ho=>rhs;whnf);simp [execOp,ho,aaF,resolve,invoke,s0,sf,go_sem]) (by rw [ho];intro c h;cases h) B (Bn kept he w') ?_;rintro e w'' ⟨rfl,rfl⟩;exact ⟨_,rfl,Aq d _ (by decide) (by decide),rfl,kq⟩
   | 3,_=>
    intro o g w' D M ho B m x I A d i;have E:=zeroCk w';have Y:=(T6 _ w').alloc lR (Z4 (aU dU) 332);refine se (v:=Z6 (ZX ⟨w'.heap.size,0,ZY⟩)) (w':=w'.alloc (Z4 (aU dU) 332)) (by (conv at ho=>rhs;whnf);simp only [execOp,ho];go_simp) (by rw [ho];intro c h;cases h) B ⟨⟨d.1.alloc d.1.size _,λt b G q H=>?_,nofun,λe b q=>?_⟩,⟨_,rfl,d.1.size,dU,aF.new w' dU⟩,λj u _=>CQ (λb _ X=>Y.block b X) j u⟩
    . rcases iC q with q|⟨rfl,rfl⟩<;>rcases iC H with H|⟨rfl,e⟩
      . exact d.2.1 t b G q H
      . subst e;exact absurd q (d.2.2.1 x b)
      . exact absurd H (d.2.2.1 x G)
      . rfl
    . rcases iC q with q|⟨_,e⟩
      . exact d.2.2.2 (by rwa [gQ (by decide)] at e) b q
      . cases e
   | 4,_=>
    intro o g w' D M ho B m x I A d i;have Y:=(T6 _ w').alloc lR (Z4 #[Z7 Z9 0] 3);refine se (v:=Z6 (ZX ⟨w'.heap.size,0,ZY⟩)) (w':=w'.alloc (Z4 #[Z7 Z9 0] 3)) (by (conv at ho=>rhs;whnf);simp only [execOp,ho];go_simp) (by rw [ho];intro c h;cases h) B ⟨⟨d.1.alloc d.1.size _,λt b G q H=>?_,λe b q=>?_,nofun⟩,⟨_,rfl,d.1.size,_,Uk _ _⟩,λj u _=>CQ (λb _ X=>Y.block b X) j u⟩
    . rcases iC q with q|⟨rfl,rfl⟩<;>rcases iC H with H|⟨rfl,e⟩
      . exact d.2.1 t b G q H
      . subst e;exact absurd q (d.2.2.2 x b)
      . exact absurd H (d.2.2.2 x G)
      . rfl
    . rcases iC q with q|⟨_,e⟩
      . exact d.2.2.1 (by rwa [gQ (by decide)] at e) b q
      . cases e
   | 5,_=>
    intro o g w' D M ho B m x I A d i;obtain ⟨r,V,N,Z,K⟩:OF w kept C 3 (g.eval (Z2 5)) w':=i 3 (A 3 (by decide));have J:aF (w'.setRow r (aU C)) r C:=K.setRow C;have L:∀ k,k≠r->k<w'.heap.size->(w'.setRow r (aU C)).heap[k]?=w'.heap[k]?:=λk m hl=>(aN w' r (aU C)).block k hl (λe=>m (by cases e;rfl));have hm:(w'.setRow r (aU C)).heap.size=w'.heap.size:=(by simp [World.setRow]);refine Cc (w':=w'.setRow r (aU C)) (by (conv at ho=>rhs;whnf);simp [execOp,ho,V,show g.eval (Z2 11)=.agg (aU C) from i 0 (A 0 (by decide)),nA C K,Result.andThen]) (by rw [ho];intro c h;cases h) ⟨GO d _ (by decide) (by decide) (d.1.grown (aN w' r (aU C)) d.1.size (λk e=>by cases e;exact N)) λt b ⟨P,c,F⟩=>?_,⟨r,N,J⟩,λj u y q=>?_⟩
    . by_cases e:b=r
      . subst e;rw [J.heap] at F;cases F;exact ⟨P,_,K.heap⟩
      . exact ⟨P,c,(L b e (by rw [<- hm];exact (T5.1 F).1)).symm.trans F⟩
    . match j,y,q with
      | 0,_,q|1,_,q|2,_,q=>exact q
      | 3,_,⟨b,h1,h2,Z',h3⟩=>
       obtain rfl:b=r:=d.2.1 _ b r ⟨h2,_,h3.heap⟩ ⟨N,_,K.heap⟩;exact ⟨b,h1,h2,C,J⟩
      | 4,_,⟨b,h1,h2,z,h3⟩=>exact ⟨b,h1,h2,z,(L b (λe=>by subst e;rw [K.heap] at h3;cases h3) (T5.1 h3).1).trans h3⟩
      | 5,y,_=>rw [x] at y;cases y
      | 6,y,_=>exact nomatch x.symm.trans ((I 6 y).2 5 (by decide))
      | _+7,_,_=>trivial
   | 6,_=>
    intro o g w' D M ho B m x I A d i;obtain ⟨s,W,O,z,E⟩:OF w kept C 4 (g.eval (Z2 6)) w':=i 4 (A 4 (by decide));have cc:w'.cell? ⟨s,0,ZY⟩=ZX z:=(by simp [World.cell?,E]);have ff:w'.frozen? ⟨s,0,ZY⟩=ZV:=(by simp [World.frozen?,E]);have J:(w'.setCell ⟨s,0,ZY⟩ (Z7 Z9 ((ab kept).length:Nat))).heap[s]?=ZX (Z4 #[Z7 Z9 ((ab kept).length:Nat)] 3 (0,0)):=(by simp [World.setCell,Vw,E]);have L:∀ k,k≠s->(w'.setCell ⟨s,0,ZY⟩ (Z7 Z9 ((ab kept).length:Nat))).heap[k]?=w'.heap[k]?:=λk m=>Uj _ _ _ _ m;refine Cc (w':=w'.setCell ⟨s,0,ZY⟩ (Z7 Z9 ((ab kept).length:Nat))) (by (conv at ho=>rhs;whnf);simp only [execOp,ho,W,show g.eval (Z2 13)=Z7 Z9 ((ab kept).length:Nat) from i 2 (A 2 (by decide))];go_simp) (by rw [ho];intro c h;cases h) ⟨GO d _ (by decide) (by decide) (d.1.setCell (p:=⟨s,0,ZY⟩) O _) λt b ⟨P,c,F⟩=>?_,⟨s,O,J⟩,λj u y q=>?_⟩
    . by_cases e:b=s
      . subst e;rw [J] at F;cases F;exact ⟨P,_,E⟩
      . exact ⟨P,c,(L b e).symm.trans F⟩
    . match j,y,q with
      | 0,_,q|1,_,q|2,_,q=>exact q
      | 3,_,⟨b,h1,h2,Z',h3⟩=>exact ⟨b,h1,h2,Z',h3.keep (L b (λe=>by subst e;have R:=h3.heap;rw [E] at R;cases R))⟩
      | 4,_,⟨b,h1,h2,z',h3⟩=>
       obtain rfl:b=s:=d.2.1 _ b s ⟨h2,_,h3⟩ ⟨O,_,E⟩;exact ⟨b,h1,h2,_,J⟩
      | 5,_,⟨b,h2,h3⟩=>exact ⟨b,h2,h3.keep (L b (λe=>by subst e;have R:=h3.heap;rw [E] at R;cases R))⟩
      | 6,y,_=>rw [x] at y;cases y
      | _+7,_,_=>trivial
 . rintro g w' m _ ⟨D,hi,d⟩ i;obtain ⟨r,V,N,Z,K⟩:OF w kept C 3 (g.eval (Z2 5)) w':=i 3 (by decide);obtain ⟨s,W,O,z,E⟩:OF w kept C 4 (g.eval (Z2 6)) w':=i 4 (by decide);obtain ⟨b,l,hC⟩:OF w kept C 5 ZZ w':=i 5 (by decide);obtain ⟨G,l',hM⟩:OF w kept C 6 ZZ w':=i 6 (by decide);obtain rfl:b=r:=d.2.1 _ b r ⟨l,_,hC.heap⟩ ⟨N,_,K.heap⟩;obtain rfl:G=s:=d.2.1 _ G s ⟨l',_,hM⟩ ⟨O,_,E⟩;exact h g w' b G ⟨m.size,m.defers,m.slot⟩ V W N O hC ⟨_,hM⟩ d.1
noncomputable def aaG:Array Oper:=((Tryz.f212.body.bind (Ka · 11))).getD #[]
def aaH:List (Op×Option Nat×a8):=[(.load 332 (Z2 8),ZX 32,[]),(.load 3 (Z2 9),ZX 33,[]),(.store 332 (Z2 5) (Z2 32),ZY,[0,0]),(.store 3 (Z2 6) (Z2 33),ZY,[1,2,0,1,2])]
def E8:bF aaG 32 34 aaH:=eU (by kernel_rfl) (by kernel_rfl)
theorem E9 {l:Nat} (p q A y n:Nat) (C H:Ck) (v:ZT) (R:aaG=ops) (sz:a.tmps.size=35)
 (V:a.eval (Z2 5)=Z6 (ZX ⟨p,0,ZY⟩)) (X:a.eval (Z2 6)=Z6 (ZX ⟨q,0,ZY⟩)) (Y:a.eval (Z2 8)=Z6 (ZX ⟨A,0,ZY⟩)) (Z:a.eval (Z2 9)=Z6 (ZX ⟨y,0,ZY⟩))
 (P:aF w A C) (z:Bx w y (Z7 Z9 (n:Int))) (E:aF w p H) (F:Bx w q v)
 (h:∀ g,LR 32 34 a g->Q .normal g ((w.drew.setRow p (aU C)).setCell ⟨q,0,ZY⟩ (Z7 Z9 (n:Int)))) :
 (Code.region 11 ops ZW).wpIn (Fence.wide.inRound l) m ZN Q a w:=by
 subst R;obtain ⟨W,K⟩:=nM (w.drew.setRow p (aU C));have J:∀ k,k≠p->k<w.heap.size->W.heap[k]?=w.heap[k]?:=λk f S=>by rw [<- K];exact (aN w.drew p (aU C)).block k S (λe=>f (by cases e;rfl))
 have L:=F.keep (J q (yB E F).symm F.lt);have cc:=L.cell;have ff:=L.frozen;have N:∀ b:Bool,(if b=ZW then W else w.drew).cell? ⟨y,0,ZY⟩=ZX (Z7 Z9 (n:Int)):=λb=>by
  cases b
  . exact z.cell
  . exact (z.keep (J y (yB E z).symm z.lt)).cell
 have M:=nA C (show aF w.drew p H from E);rw [K] at h M;refine js (by kernel_rfl) E8 a w (by omega) (λj u _=>u=([.agg (aU C),Z7 Z9 (n:Int),ZZ,ZZ]:List ZT).getD j ZZ) (LS 2 3 w W (W.setCell ⟨q,0,ZY⟩ (Z7 Z9 (n:Int)))) rfl ?_ ?_
 . intro j T;match j,T with
   | 0,_=>
    intro o g w' D G ho t f i s r d x;have O:D 2=ZV:=Ym.2 λe=>nomatch i.symm.trans ((s 2 e).2 0 (by decide));obtain rfl:=CA d O;exact iu (w':=w.drew) (by (conv at ho=>rhs;whnf);simp [execOp,ho,(f.slot 8 (by omega)).trans Y,mB (show aF w.drew A C from P),Result.andThen]) (by rw [ho];intro c h;cases h) t ⟨GH d _ (by decide) (by decide),rfl,kq⟩
   | 1,_=>
    intro o g w' D G ho t f i s r d x;have B:D 3=ZV:=Ym.2 λe=>nomatch i.symm.trans ((s 3 e).2 1 (by decide));have cs:=N (D 2);have U:w'=if D 2=ZW then W else w.drew:=(by unfold LS at d;rw [B] at d;exact d);rw [<- U] at cs;exact iu (v:=Z7 Z9 (n:Int)) (by (conv at ho=>rhs;whnf);simp only [execOp,ho,(f.slot 9 (by omega)).trans Z];go_simp) (by rw [ho];intro c h;cases h) t ⟨GH d _ (by decide) (by decide),rfl,kq⟩
   | 2,_=>
    intro o g w' D G ho t f i s r d x;have B:D 3=ZV:=Ym.2 λe=>nomatch i.symm.trans ((s 3 e).2 2 (by decide));obtain rfl:=CA d i;exact Ca (w':=W) (by (conv at ho=>rhs;whnf);simp [execOp,ho,(f.slot 5 (by omega)).trans V,show g.eval (Z2 32)=.agg (aU C) from x 0 (r 0 (by decide)),M,Result.andThen]) (by rw [ho];intro c h;cases h) ⟨by unfold LS;rw [gQ (j:=3) (by decide),B];rfl,rfl,kq⟩
   | 3,_=>
    intro o g w' D G ho t f i s r d x;unfold LS at d;rw [i,r 2 (by decide)] at d;obtain rfl:w'=W:=d;exact Ca (w':=w'.setCell ⟨q,0,ZY⟩ (Z7 Z9 (n:Int))) (by (conv at ho=>rhs;whnf);simp only [execOp,ho,(f.slot 6 (by omega)).trans X,show g.eval (Z2 33)=Z7 Z9 (n:Int) from x 1 (r 1 (by decide))];go_simp) (by rw [ho];intro c h;cases h) ⟨by unfold LS;rw [gQ (j:=2) (by decide),r 2 (by decide)];rfl,rfl,kq⟩
 . rintro g w' f _ ⟨D,I,d⟩ _;unfold LS at d;rw [I 2 (by decide),I 3 (by decide)] at d;obtain rfl:w'=W.setCell ⟨q,0,ZY⟩ (Z7 Z9 (n:Int)):=d;exact h g ⟨f.size,f.defers,f.slot⟩
section
attribute [local go_sem] Oper.semAt_some
theorem Ar (C:Ck) (kept a:Nat) (w:ZU) :
 ZR ZN 226 #[.agg (aU C),Z7 Z8 kept,fA a] w λe w'=>e=Z3 (.func (.func 228) #[] #[Z6 (ZX ⟨w.heap.size,0,ZY⟩),Z6 (ZX ⟨w.heap.size+1,0,ZY⟩),Z6 (ZX ⟨w.heap.size+1+1,0,ZY⟩)]) /\
  aF w' w.heap.size C/\Bx w' (w.heap.size+1) (Z7 Z8 (kept:Int))/\Bx w' (w.heap.size+1+1) (fA a)/\bW w w'/\w'.heap.size=w.heap.size+3:=by
 unfold fA;go_enter func226,ntmps226;go_wp2;go_ret;refine ⟨rfl,?_,?_,?_,?_,by simp⟩
 . exact (aF.new w C).keep (by rw [We _ _ _ (by simp;omega),We _ _ _ (by simp)])
 . have h:=Bx.new (w.alloc (Z4 (aU C) 332)) 133 (Z7 Z8 (kept:Int));rw [Uw] at h;exact h.alloc _
 . have h:=Bx.new ((w.alloc (Z4 (aU C) 332)).alloc (Z4 #[Z7 Z8 (kept:Int)] 133)) 201 (.func (.func 225) #[] #[Z6 (ZX ⟨a,0,ZY⟩)]);simp only [Uw] at h;exact h
 . exact ((bA w _).alloc (by simp) _).alloc (by simp;omega) _
theorem As (K:a8) (n0 c l:Nat) (J:cA->ZU->Prop) (o:∀ s A B,J s A->ZS n0 A B->J s B)
 (p:∀ s A,J s A->A.cell? ⟨c,0,ZY⟩=ZX (Z7 Z9 (s.2:Int))/\n0<=A.heap.size/\aJ A) (r:2<=n0)
 (u:∀ m s C d,J s d->eF C->YieldAt Fence.wide m ZN l #[.agg (aU C)] d λe a=>e=Z3 (.bool ZW)/\J (fw K s C) a/\bj n0 d a)
 (n b Bs f:Nat) (C:Ck) (kept:Nat) (s:cA) (W:ZU) (w:aF W b C) (y:Bx W Bs (Z7 Z8 (kept:Int))) (q:Bx W f (fA c)) (g:eF C) (x:kept<65536) (t:J s W) :
 CallsIn Fence.wide n ZN 228 #[.func (.yield l) #[] #[],Z6 (ZX ⟨b,0,ZY⟩),Z6 (ZX ⟨Bs,0,ZY⟩),Z6 (ZX ⟨f,0,ZY⟩)] W λe a=>(∃ v,e=Z3 v)/\J (iK K 8 C kept 0 s) a:=by
 have i:=λm=>LV K n0 c l J o p r u 8 m C kept 0 s W g (by have:=g.Sl;omega) x (by decide) t;have c1:=y.cell;have j:=q.cell;unfold fA at j i;refine Xk func228 rfl trivial ?_ rfl;simp only [ntmps228,UL,UG,U0,YM,YN,Vr,Vs,Vt,Vu,Ut,UX];gi_wp2_with (refine kS rfl (Z2 1) rfl b C rfl w ?_)
 refine ⟨trivial,λh=>(by cases h),(i _).mono ?_⟩;rintro e a ⟨rfl,k,_⟩;gi_wp2;go_end0
 exact ⟨⟨_,rfl⟩,k⟩
structure FI (w:ZU) (kept B5 B6 B7:Nat) (s:cA) (W:ZU):Prop where
 SK:aF W B5 s.1
 least:Bx W B6 (Z7 Z9 (s.2:Int))
 Sq:Bx W B7 (fA B6)
 set:Bx W (w.heap.size+1) (Z7 Z8 (kept:Int))
 res:aF W (w.heap.size+1+1) dU
 below:bW w W
def FI.mono {B5 B6 B7:Nat} {s:cA} {W':ZU} (h:FI w kept B5 B6 B7 s W) (a:ZS B W W') (b:W.heap.size<=B\/(B5<B/\B6<B/\B7<B/\w.heap.size+3<=B)):FI w kept B5 B6 B7 s W':=by
 have:=h.SK.lt;have:=h.least.lt;have:=h.Sq.lt;have:=h.res.lt;exact ⟨h.SK.keep (a.block _ (by omega)),h.least.keep (a.block _ (by omega)),h.Sq.keep (a.block _ (by omega)),h.set.keep (a.block _ (by omega)),h.res.keep (a.block _ (by omega)),h.below.trans (a.mono (by omega))⟩
def L8 (p least a:Nat) (w:ZU) (c:z=(p:Int)) (b:w.cell? ⟨a,0,ZY⟩=ZX (Z7 Z9 (least:Int))) :
 ZR ZN 225 #[Z7 Z9 z,Z6 (ZX ⟨a,0,ZY⟩)] w λe w'=>e=Z3 (.bool (decide (p<least)))/\w'=w:=by
 subst c;exact xW p least a w b
def cR (x:Ck) (pre:List Sh):Nat:=((pre.map (·.1)).filter (cI x)).length
theorem OG (x:Ck) (pre:List Sh) (i:Sh):cR x (pre++[i])=cR x pre+(if cI x i.1=ZW then 1 else 0):=by
 unfold cR;rw [UD,Wr,Uc];congr 1;by_cases h:cI x i.1=ZW
 . simp [h]
 . simp [h]
def Rc {x:Ck} (h:pre.map (·.1)=ab kept):cR x pre=iJ (ab kept) x:=by unfold cR iJ;rw [h]
def OH {x:Ck} (h:pre.map (·.1)<+:ab kept):cR x pre<=iJ (ab kept) x:=by
 unfold cR iJ;obtain ⟨R,a⟩:=h;rw [<- a,Wr,Uc];omega
def aaI (x:Ck) (pre:List Sh):cR x pre<=pre.length:=by
 unfold cR;exact TZ (WM _ _) (by rw [Ud];exact TY _)
def InI (X:ZU) (s:cA) (x:Ck) (pre:List Sh) (Y:ZU):Prop:=bW X Y/\Bx Y X.heap.size (Z7 Z9 (cR x pre:Int))/\(cR x pre=0\/cR x pre<s.2)
def InI.own {s:cA} {x:Ck} (i:X.heap.size+1<=B):OwnFrom B (λpre Y=>InI X s x pre Y):=by
 rintro pre A h row ⟨c,d,g⟩ b a;have f:=d.lt;exact ⟨c.grown b (by have:=c.size;omega) (λk e=>by have:=(a k e).1;omega),d.keep (b.block _ f (λe=>by have:=(a _ e.symm).1;omega)),g⟩
theorem Fa (C:Ck) (kept:Nat) (w:ZU) (hf:eF C) (V:kept<65536) (hT:aJ w) (h2:3<=w.heap.size) :
 ZR ZN 212 #[.agg (aU C),Z7 Z8 kept] w λe w'=>e=Z3 (.agg (aU (aP 8 C kept).1))/\bW w w':=by
 have hp:=b9 C;have h9:=b9 dU;have hz:=zeroCk;obtain ⟨n,HN⟩:∃ n:Nat,cJ (9<=n):=⟨9,TY _⟩;refine (Vj (n:=n)).1 ?_;refine Wo func212 rfl trivial ?_ rfl;simp only [ntmps212,UL,UG,U0,YM,YN,Vr,Vs,Vt,Vu,Ut,UX];have b0:bW w (((w.alloc (Z4 (aU C) 332)).alloc (Z4 #[Z7 Z8 (kept:Int)] 133)).alloc (Z4 (aU dU) 332)):=((bA w _).alloc (by simp) _).alloc (by simp;omega) _;have c0:aF (((w.alloc (Z4 (aU C) 332)).alloc (Z4 #[Z7 Z8 (kept:Int)] 133)).alloc (Z4 (aU dU) 332)) w.heap.size C:=(aF.new w C).keep (by rw [We _ _ _ (by simp;omega),We _ _ _ (by simp)]);have s0:Bx (((w.alloc (Z4 (aU C) 332)).alloc (Z4 #[Z7 Z8 (kept:Int)] 133)).alloc (Z4 (aU dU) 332)) (w.heap.size+1) (Z7 Z8 (kept:Int)):=by
  have h:=Bx.new (w.alloc (Z4 (aU C) 332)) 133 (Z7 Z8 (kept:Int));rw [Uw] at h;exact h.alloc _
 have r0:aF (((w.alloc (Z4 (aU C) 332)).alloc (Z4 #[Z7 Z8 (kept:Int)] 133)).alloc (Z4 (aU dU) 332)) (w.heap.size+1+1) dU:=by
  have h:=aF.new ((w.alloc (Z4 (aU C) 332)).alloc (Z4 #[Z7 Z8 (kept:Int)] 133)) dU;simp only [Uw] at h;exact h
 have z0:(((w.alloc (Z4 (aU C) 332)).alloc (Z4 #[Z7 Z8 (kept:Int)] 133)).alloc (Z4 (aU dU) 332)).heap.size=w.heap.size+3:=by simp
 obtain ⟨w3,qe⟩:=nM (((w.alloc (Z4 (aU C) 332)).alloc (Z4 #[Z7 Z8 (kept:Int)] 133)).alloc (Z4 (aU dU) 332));rw [qe] at b0 c0 s0 r0 z0;have HB:=ak b0;have HC:=ak c0;have HS:=ak s0;have O:=ak r0;have HZ:=ak z0;clear b0 c0 s0 r0 z0;gi_wp2;refine KB ?_;gi_wp2;refine I8 w.heap.size (w.heap.size+1) kept C (by kernel_rfl) rfl V rfl rfl HC.o HS.o ?_;rintro Q d f a q7 e5 e6 l5 l6 c5 G v;obtain ⟨ls,Z,rfl⟩:=q7.split (by decide) (by simp);clear q7;obtain ⟨u0,u1,u2,u3,u4,u5,u6,u7,u8,rfl⟩:=aaD Z;clear Z;simp only [abS,Wn,abP,Xw,UX,Ut] at e5 e6 ⊢;obtain rfl:u0=Z6 (ZX ⟨f,0,ZY⟩):=e5;obtain rfl:u1=Z6 (ZX ⟨a,0,ZY⟩):=e6;clear qe;have qg:=HZ.o;have cN:=(Bx.new d 201 .nilFunc).cell;have fN:=(Bx.new d 201 .nilFunc).frozen;have u:bW d ((d.alloc (Z4 #[.nilFunc] 201)).setCell ⟨d.heap.size,0,ZY⟩ (fA a)):=(bA _ _).setCell (p:=⟨d.heap.size,0,ZY⟩) lR _;have M:FI w kept f a d.heap.size (C,(ab kept).length) ((d.alloc (Z4 #[.nilFunc] 201)).setCell ⟨d.heap.size,0,ZY⟩ (fA a)):=
  ⟨c5.keep (u.block _ c5.lt),G.keep (u.block _ G.lt),(Bx.new d 201 .nilFunc).set _,HS.o.keep ((u.block _ (by have:=v.size;omega)).trans (v.block _ (by omega))),O.o.keep ((u.block _ (by have:=v.size;omega)).trans (v.block _ (by omega))),(HB.o.trans (v.mono (by omega))).trans (u.mono (by have:=v.size;omega))⟩
 have k8:aF ((d.alloc (Z4 #[.nilFunc] 201)).setCell ⟨d.heap.size,0,ZY⟩ (fA a)) w.heap.size C:=HC.o.keep ((u.block _ (by have:=v.size;omega)).trans (v.block _ (by omega)));have qh:((d.alloc (Z4 #[.nilFunc] 201)).setCell ⟨d.heap.size,0,ZY⟩ (fA a)).heap.size=d.heap.size+1:=by simp [World.setCell]
 have x9:=v.size;have xq:=G.lt;obtain ⟨j,kj⟩:=nM ((d.alloc (Z4 #[.nilFunc] 201)).setCell ⟨d.heap.size,0,ZY⟩ (fA a));rw [kj] at M k8 qh;unfold fA at kj;have R:=M.Sq.cell;unfold fA at R;have c3:=M.set.cell;have H:=ak M;have qj:=ak k8;have U:=ak qg;clear M k8 qh u c5 G v HB HC HS O HZ x9 qg hz hp h9;have ka:=Ar C kept a j;unfold fA at ka;gi_wp2;refine wpIn_label ?_;gi_wp2_with (refine kS rfl (Z2 2) rfl w.heap.size C rfl qj.out ?_)
 refine dk ka ?_;clear ka;rintro e w6 ⟨rfl,k1,k2,k3,k4,k5⟩;have qk:=ak k1;have qm:=ak k2;have qn:cJ (Bx w6 (j.heap.size+1+1) (fA a)):=ak k3;have qo:=ak k4;have kp:=ak k5;clear k1 k2 k3 k4 k5 kj cN fN R c3;gi_wp2;have qv:FI w kept f a d.heap.size (C,(ab kept).length) w6:=H.o.mono qo.out (.inl lR);have xn:=H.o.SK.lt;have xp:=H.o.least.lt;have xx:=H.o.Sq.lt;have xm:=H.o.res.lt;have q8:=kp.out;obtain ⟨m,HM⟩:∃ m:Nat,cJ (9<=m):=⟨9,TY _⟩;refine KC (P:=ZN) (n:=n) m (w:=w6) (gf:=228) (lb:=#[Z6 (ZX ⟨j.heap.size,0,ZY⟩),Z6 (ZX ⟨j.heap.size+1,0,ZY⟩),Z6 (ZX ⟨j.heap.size+1+1,0,ZY⟩)]) rfl (VC func228 (by kernel_rfl) rfl)
  (encs:=λC:Ck=>#[.agg (aU C)]) (λ_=>rfl) (fw (ab kept)) eF (FI w kept f a d.heap.size) (λs A B h hb=>h.mono hb (.inr ⟨by omega,by omega,by omega,by omega⟩)) (λs=>s=aP 8 C kept) (C,(ab kept).length)
  ?call qv (λB x Q A=>∃ q,B<=q/\aF A q x/\Q={ tmps:=#[.agg (aU C),Z7 Z8 (kept:Int),Z6 (ZX ⟨w.heap.size,0,ZY⟩),Z6 (ZX ⟨w.heap.size+1,0,ZY⟩),Z6 (ZX ⟨w.heap.size+1+1,0,ZY⟩),Z6 (ZX ⟨f,0,ZY⟩),Z6 (ZX ⟨a,0,ZY⟩),Z6 (ZX ⟨d.heap.size,0,ZY⟩),Z6 (ZX ⟨q,0,ZY⟩),u4,u5,u6,u7,u8,.func (.func 225) #[] #[Z6 (ZX ⟨a,0,ZY⟩)],.agg (aU C),Z7 Z8 (kept:Int),.func (.func 225) #[] #[Z6 (ZX ⟨a,0,ZY⟩)],.func (.func 228) #[] #[Z6 (ZX ⟨j.heap.size,0,ZY⟩),Z6 (ZX ⟨j.heap.size+1,0,ZY⟩),Z6 (ZX ⟨j.heap.size+1+1,0,ZY⟩)],.agg (aU x),ZZ,ZZ,ZZ,ZZ,ZZ,ZZ,ZZ,ZZ,ZZ,ZZ,ZZ,ZZ,ZZ,ZZ,ZZ],defers:=[] }) ?ax ?assign ?body ?done
 case call=>
  intro l J W k7 xi x0 qz hY qy;refine (As (ab kept) (w6.heap.size+2) a l J x0 (λs A hj=>?_) (by omega) hY (n-1) j.heap.size (j.heap.size+1) (j.heap.size+1+1) C kept _ W (qk.out.keep (k7.block _ (by omega))) (qm.out.keep (k7.block _ (by omega))) (qn.out.keep (k7.block _ (by omega))) hf V qy).mono ?_
  . obtain ⟨fi,hs⟩:=qz s A hj;exact ⟨fi.least.cell,hs,hT.mono (by omega) fi.below⟩
  . rintro e W' ⟨hv,qx⟩;exact ⟨hv,_,rfl,qx⟩
 case ax=>
  rintro B x Q A A' ⟨q,h1,ky,h3⟩ x3;exact ⟨q,h1,ky.keep (x3.block q h1 ky.lt),h3⟩
 case assign=>
  intro l s x W K z q4 hK;have hz:=zeroCk;have h9:=b9 dU;gi_wp2_with (refine jL rfl (Z2 8) (Z2 19) rfl W.heap.size x dU rfl rfl (aF.new W dU) ?_)
  exact hK _ _ ((bA _ _).grown (aN _ _ _) (by simp) (λk e=>by cases e;exact TY _)) ⟨W.heap.size,TY _,(aF.new W dU).setRow x,rfl⟩
 case body=>
  rintro l B s x Q X hl xg xc ⟨r,hr⟩ z q4 ⟨q,xb,qf,rfl⟩;have Z:=z.below.size;have x6:l<X.heap.size:=(T5.1 hr).1;have k6:bW X (X.alloc (Z4 #[Z7 Z9 0] 3)):=bA _ _;have c3:=(z.mono k6 (.inl lR)).set.cell;have hc:bW X ((X.alloc (Z4 #[Z7 Z9 0] 3)).alloc (Z4 #[Z7 Z8 (kept:Int)] 133)):=k6.alloc (by simp) _;have kz:=(Bx.new X 3 (Z7 Z9 0)).alloc (Z4 #[Z7 Z8 (kept:Int)] 133);have kf:=(Bx.new (X.alloc (Z4 #[Z7 Z9 0] 3)) 133 (Z7 Z8 (kept:Int))).cell;have kk:((X.alloc (Z4 #[Z7 Z9 0] 3)).alloc (Z4 #[Z7 Z8 (kept:Int)] 133)).heap.size=X.heap.size+1+1:=by simp
  rw [Uw] at kf;have hx:=dN kept (X.alloc (Z4 #[Z7 Z9 0] 3));rw [Uw] at hx;have y:=ak z;have T:=ak qf;have S:=ak hc;have km:=ak kz;have ks:=ak kf;have kx:=ak kk;have O:=ak hr;have ko:=ak hx;clear z qf k6 kz kf kk hc hr Z hx q8;gi_wp2;refine dH ko.out ?_;rintro e w' ⟨rfl,qd⟩;rw [<- qd] at S km ks kx;clear ko c3 qd;gi_wp2;have x1:aJ w':=hT.mono (by omega) ((y.o.mono S.out (.inl lR)).below);have kk:=kx.out;have x8:w'.heap[l]?=ZX (.loop r):=(S.out.block l x6).trans O.o;have xd:=y.o.least;refine wpIn_rangeFunc_ownN (l₀:=l) (r₀:=r) rfl x8 (by have:=HM.o;omega) (gf:=147) (lb:=#[Z6 (ZX ⟨X.heap.size+1,0,ZY⟩)]) rfl trivial (VC func147 (by kernel_rfl) rfl)
   ((eV (m-1) (X.heap.size+1) kept V w' (by omega) ks.out (by omega) x1).inRound l) (λh k=>qK h k) (qM (by omega)) (T6 _ _) (λ_=>rfl)
   (λpre Y=>InI X s x pre Y) (λc pre Y=>c=.exit 1/\bW X Y/\1<=cR x pre/\s.2<=cR x pre)
   (InI.own (by omega)) (λc=>by
    rintro pre A Bw row ⟨g,t,E⟩ hg ke;exact ⟨g,t.grown hg (by have:=t.size;omega) (λk e=>by have:=(ke k e).1;omega),E⟩)
   ⟨S.out,km.out,.inl rfl⟩
   (λi I _=>I={ tmps:=#[.agg (aU C),Z7 Z8 (kept:Int),Z6 (ZX ⟨w.heap.size,0,ZY⟩),Z6 (ZX ⟨w.heap.size+1,0,ZY⟩),Z6 (ZX ⟨w.heap.size+1+1,0,ZY⟩),Z6 (ZX ⟨f,0,ZY⟩),Z6 (ZX ⟨a,0,ZY⟩),Z6 (ZX ⟨d.heap.size,0,ZY⟩),Z6 (ZX ⟨q,0,ZY⟩),Z6 (ZX ⟨X.heap.size,0,ZY⟩),Z7 Z9 (i.1:Int),u6,u7,u8,.func (.func 225) #[] #[Z6 (ZX ⟨a,0,ZY⟩)],.agg (aU C),Z7 Z8 (kept:Int),.func (.func 225) #[] #[Z6 (ZX ⟨a,0,ZY⟩)],.func (.func 228) #[] #[Z6 (ZX ⟨j.heap.size,0,ZY⟩),Z6 (ZX ⟨j.heap.size+1,0,ZY⟩),Z6 (ZX ⟨j.heap.size+1+1,0,ZY⟩)],.agg (aU x),Z7 Z8 (kept:Int),.func (.func 147) #[] #[Z6 (ZX ⟨X.heap.size+1,0,ZY⟩)],Z7 Z9 (i.1:Int),ZZ,ZZ,ZZ,ZZ,ZZ,ZZ,ZZ,ZZ,ZZ,ZZ,ZZ,ZZ],defers:=[] })
   (λ_ _ _ _ _ _ hs _ _=>hs)
   ?assign2 ?body2 ?done2 ?stop2
  case assign2=>
   rintro l2 pre i Y K hi hK;unfold qJ;gi_wp2;exact hK _ _ (Yj _ _) (Gr.refl _) hi rfl
  case body2=>
   rintro l2 pre i I Y _ _ ⟨g,t,E⟩ rfl x7;have h8:=T.out.lt;have q5:=T.out.keep (g.block q h8);have q6:=aaI x pre;have x5:(ab kept).length<=16:=(by rw [<- kT kept];exact pW kept);have qp:=ak g;have qq:=ak t;have qs:=ak E;have c9:=t.cell;have f9:=t.frozen;have qa:=xA q i.1 x Y q5 q4 i.2;have qc:=OG x pre i;have kv:=ak qc;have u:bW X (Y.setCell ⟨X.heap.size,0,ZY⟩ (Z7 Z9 ((cR x pre:Int)+1))):=g.setCell (p:=⟨X.heap.size,0,ZY⟩) lR _;have k0:=y.o.mono u (.inl lR);have R:=k0.Sq.cell;have G:=k0.least.cell;have hy:=t.set (Z7 Z9 ((cR x pre:Int)+1));have xk:=hy.cell;unfold fA at R;have hq:=ak u;have qi:=ak hy;clear g t E qc u k0 hy q5;gi_wp2;refine dH qa ?_;clear qa;rintro e w'' ⟨rfl,kh⟩;subst kh;cases hn:cI x i.1 with
   | false=>
    have F:cJ (cR x (pre++[i])=cR x pre):=ak (by rw [kv.out,hn];simp);clear hn;gi_wp2;refine ⟨Yj _ _,Gr.refl _,qp.out,?_,?_⟩
    . rw [F.out];exact qq.out
    . rw [F.out];exact qs.out
   | true=>
    have F:cJ (cR x (pre++[i])=cR x pre+1):=ak (by rw [kv.out,hn];simp);clear hn;gi_wp2;refine dH (L8 (cR x pre+1) s.2 a _ (by omega) G) ?_;rintro e xy ⟨rfl,ki⟩;have q9:KeepsFrom w'.heap.size w'' (w''.setCell ⟨X.heap.size,0,ZY⟩ (Z7 Z9 ((cR x pre:Int)+1))):=(V9 _ _ _).from _;have kr:=ak q9;clear q9;subst ki;by_cases k9:cR x pre+1<s.2
    . rw [U1 k9];gi_wp2;refine ⟨kr.out,λ_=>hT.mono (by omega) (y.o.mono hq.out (.inl lR)).below,hq.out,?_,?_⟩
      . rw [F.out];exact qi.out
      . rw [F.out];exact .inr k9
    . rw [Vz k9];gi_wp2;refine ⟨kr.out,rfl,hq.out,?_,?_⟩
      . rw [F.out];omega
      . rw [F.out];omega
  case done2=>
   rintro ys Y xa ⟨g,t,E⟩;have q6:=Rc (x:=x) xa;rw [q6] at t E;have b:=y.o.mono g (.inl lR);have h8:=T.out.lt;have x2:=T.out.keep (g.block q h8);have q8:=kp.out;gi_wp2;refine E9 f a q X.heap.size (iJ (ab kept) x) x s.1 _ (by kernel_rfl) rfl rfl rfl rfl rfl x2 t b.SK b.least ?_;intro a3 xf;have kg:fw (ab kept) s x=(x,iJ (ab kept) x):=(by unfold fw;rw [TX E]);rw [kg];have N:=yB b.SK b.least;have qr:=yB b.SK b.Sq;have xj:=yB b.SK b.set;have hd:=yB b.res b.least;have L:∀ k,k≠f->k≠a->k<Y.heap.size->((Y.drew.setRow f (aU x)).setCell ⟨a,0,ZY⟩ (Z7 Z9 (iJ (ab kept) x:Int))).heap[k]?=Y.heap[k]?:=λk k1 k2 k3=>
    (Wj _ _ _ _ k2).trans ((aN Y.drew f (aU x)).block k k3 (λe=>k1 (by cases e;rfl)))
   have hp:Y.heap.size<=((Y.drew.setRow f (aU x)).setCell ⟨a,0,ZY⟩ (Z7 Z9 (iJ (ab kept) x:Int))).heap.size:=(by simp [World.setCell,World.setRow]);have xe:=g.size;have xo:w.heap.size<=f:=(by have:=U.out;omega);have xv:w.heap.size<=a:=(by have:=U.out;omega);refine ⟨⟨?_,?_,?_,?_,?_,?_⟩,?_⟩
   . exact (((show aF Y.drew f s.1 from b.SK).setRow x)).keep (Wj _ _ _ _ N)
   . exact ((show Bx Y.drew a _ from b.least).keep ((aN Y.drew f (aU x)).block a b.least.lt (λe=>N (by cases e;rfl)))).set _
   . exact b.Sq.keep (L _ (Vo qr) (by omega) b.Sq.lt)
   . exact b.set.keep (L _ (Vo xj) (by have:=U.out;omega) b.set.lt)
   . exact b.res.keep (L _ (by have:=U.out;omega) hd b.res.lt)
   . exact b.below.trans ⟨rfl,rfl,rfl,hp,λk V=>L k (by omega) (by omega) (by have:=b.below.size;omega)⟩
   . exact (bj.RU g).trans ⟨rfl,rfl,rfl,hp,λk k1 k2=>L k (by omega) (by omega) k2⟩
  case stop2=>
   rintro c pre Y kb ⟨rfl,g,t,E⟩;have xh:=OH (x:=x) kb;have kg:fw (ab kept) s x=s:=(by unfold fw;rw [TW (by omega)]);rw [kg];gi_wp2;exact ⟨y.o.mono g (.inl lR),bj.RU g⟩
 case done=>
  rintro D s X hD rfl z hK;have hb:=z.SK;have qb:=z.res;have y:=ak z;have h9:=b9 dU;gi_wp2_with (first
   | (refine kS rfl (Z2 5) rfl f (aP 8 C kept).1 rfl hb ?_)
   | (refine jL rfl (Z2 4) (Z2 34) rfl (w.heap.size+1+1) (aP 8 C kept).1 dU rfl rfl qb ?_))
  have q0:(X.setRow (w.heap.size+1+1) (aU (aP 8 C kept).1)).heap[D]?=ZX (.deferred (ZX [])):=((aN X (w.heap.size+1+1) _).block D (T5.1 hK).1 (λe=>by cases e;omega)).trans hK;refine ⟨by simp,.inl ⟨_,_,rfl,WE q0,?_⟩⟩;have kc:aF ((X.setRow (w.heap.size+1+1) (aU (aP 8 C kept).1)).putObj D (.deferred ZY)) (w.heap.size+1+1) (aP 8 C kept).1:=(qb.setRow (aP 8 C kept).1).keep (U6 (by omega));have x4:bW w ((X.setRow (w.heap.size+1+1) (aU (aP 8 C kept).1)).putObj D (.deferred ZY)):=
   Below.RY (y.o.below.grown (aN _ _ _) y.o.below.size (λk e=>by cases e;omega)) (by omega) (T5.1 q0).1 _
  exact ⟨.agg (aU (aP 8 C kept).1),V8 results212 _ _ (w.heap.size+1+1) 332 (aU (aP 8 C kept).1) (0,0) _ rfl kc.heap XM rfl (dZ _),rfl,x4⟩
end
def OI (m:Nat->Nat->Nat) (q:Nat) (src:a8):Nat->Nat->Nat:=λr j=>if r=q/\j<src.length then src.getD j 0 else m r j
theorem CR (z:o.guard=ZY) (d s:Operand)
 (ho:o.op=.call { callee:=.builtin .copy,args:=#[d,s],argTypes:=#[40,40] }) (b q:Nat) (v:ZT) (hd:a.eval d=Z5 (ZX ⟨b,q*16,ZY⟩) 16 16) (hs:a.eval s=v)
 (C:Ck) (src:a8) (hC:aF w b C) (hq:q<8) (hS:Bs w v src) (h8:src.length<=16)
 (h:∀ w',aF w' b ⟨OI C.m q src,C.told,C.count⟩->ZS b w w'->wpList ZN ops Q rest (a.put o.dst (goInt src.length)) w'):wpList ZN ops Q (o::rest) a w:=by
 obtain ⟨ao,c,rfl,I,J,K,t⟩:=hS;refine abV z d s 40 40 ho 5 Uq (by kernel_rfl) (ZX ⟨b,q*16,ZY⟩) ao 16 16 src.length c hd hs b (q*16) _ 332 hC.heap (src.map (λx=>Value.int .u8 ((x:Nat):Int))) ?_ ?_ ?_ ?_ b w (T6 _ _) lR ?_
 . rw [Ud];show src.length=min src.length 16;omega
 . intro l;rw [Ud] at l;obtain ⟨H,off,rfl,B⟩:=t (by intro e;rw [e] at l;simp at l);refine ⟨rfl,_,rfl,λj u k=>?_⟩;have g:j<src.length:=by
    obtain ⟨q,_⟩:=Vc.1 k;simpa using q
   rw [Vp,B j g];simp [g] at k;simp [g,k]
 . simp;omega
 . intro u D;obtain ⟨x,_,rfl⟩:=Ua.1 D;rfl
 . intro w' A y;have E:=A.out;rw [Ud];refine h w' ⟨_,E,?_,λi r=>?_⟩ y
   . rw [UL,length_splice _ _ _ (by simp;omega)];simp
   . unfold splice;rw [Xl];have p:∀ x,x<130->((YF 130).map (nG C))[x]?=ZX (nG C x):=λx F=>by rw [UE,VU F];rfl
     have hL:((YF 130).map (nG C)).length=130:=(by rw [Ud,UM]);by_cases G:i<q*16
     . rw [VG (by simp;omega),Yb,TX G,p i r];congr 1;unfold nG;rw [TX (by omega),TX (by omega)];show _=Value.int .u8 ((OI C.m q src (i/16) (i%16):Nat):Int);unfold OI;rw [TW (by omega)]
     . have n:(((YF 130).map (nG C)).take (q*16)).length=q*16:=(by rw [Us,hL];omega);rw [U7 (by rw [n];omega),n];by_cases L:i<q*16+src.length
       . rw [VG (by simp;omega)];have f:i-q*16<src.length:=(by omega);rw [UE,Ue f];simp only [WR];congr 1;unfold nG;rw [TX (by omega)];show _=Value.int .u8 ((OI C.m q src (i/16) (i%16):Nat):Int);unfold OI;rw [TX (by omega),show i%16=i-q*16 by omega,Ub,Ue f];rfl
       . rw [U7 (by simp;omega)];simp only [Ud];rw [Wg,show q*16+src.length+(i-q*16-src.length)=i by omega,p i r];congr 1;unfold nG;by_cases f:i<128
         . rw [TX f,TX f];show _=Value.int .u8 ((OI C.m q src (i/16) (i%16):Nat):Int);unfold OI;rw [TW (by omega)]
         . rw [TW f,TW f]
theorem Fb (h:aF w b C) (q i v:Nat) (d:q<8) (c:i<16):aF (w.setCell ⟨b,q*16+i,ZY⟩ (Z7 .u8 (v:Int))) b ⟨λr j=>if r=q/\j=i then v else C.m r j,C.told,C.count⟩:=
 (h.set (q*16+i) (Z7 .u8 (v:Int))).congr (λx f=>by
  unfold nG;by_cases e:x=q*16+i
  . rw [TX e,TX (by omega)];show _=Value.int .u8 ((if x/16=q/\x%16=i then v else _:Nat):Int);rw [TX (by omega)]
  . rw [TW e];by_cases a:x<128
    . rw [TX a,TX a];show _=Value.int .u8 ((if x/16=q/\x%16=i then v else C.m (x/16) (x%16):Nat):Int);rw [TW (by omega)]
    . rw [TW a,TW a])
def mf (M:List a8) (i j:Nat):Nat:=(M.getD i []).getD j 0
theorem L9 (M:Nat->Nat->Nat) (D:Nat):jZ M D 0=dU:=by
 unfold jZ dU;congr 1
theorem Ma (M:List a8) (D k:Nat) (hl:(M.getD (D+k) []).length=D) :
 (⟨λr j=>if r=k/\j=D+k then 1 else OI (jZ (mf M) D k).m k (M.getD (D+k) []) r j,0,k+1⟩:Ck)=jZ (mf M) D (k+1):=by
 unfold jZ;congr 1;funext r j;show (if r=k/\j=D+k then 1 else (if r=k/\j<(M.getD (D+k) []).length then (M.getD (D+k) []).getD j 0 else (if r<k then (if j<D then mf M (D+r) j else if j=D+r then 1 else 0) else 0)))=(if r<k+1 then (if j<D then mf M (D+r) j else if j=D+r then 1 else 0) else 0);rw [hl];by_cases e:r=k
 . subst e;by_cases a:j=D+r
   . simp [a];intro h;omega
   . by_cases b:j<D
     . simp [a,b,mf]
     . simp [a,b]
 . by_cases a:r<k
   . simp [e,a,show r<k+1 by omega]
   . simp [e,a,show ¬ r<k+1 by omega]
def CoR (w:ZU) (M:List a8) (D:Nat) (i:ZT) (wr:ZU):Prop:=
 ∃ k:Nat,D+k<=M.length/\i=Z7 Z9 (k:Int)/\aF wr (w.heap.size+1) (jZ (mf M) D k)/\aF wr w.heap.size dU/\bW w wr
theorem At (b off c:Nat) (M:List a8) (D:Nat) (w:ZU) (k0:M.length<=c) (L:∀ i (hi:i<M.length),∃ u,w.cell? ⟨b,off+i,ZY⟩=ZX u/\Bs w u M[i]) (hD:1<=D) (k9:D<M.length) (k8:M.length<=16) (hP:M.length<=D+8) (F:∀ i,i<M.length->(M.getD i []).length=D) :
 ZR ZN 219 #[Z5 (ZX ⟨b,off,ZY⟩) M.length c,Z7 Z9 D] w λe w'=>e=Z3 (.agg (aU (jZ (mf M) D (M.length-D))))/\bW w w':=by
 have hz:=zeroCk;have ka:(D:Int)<=(M.length:Int):=by omega
 have hy:¬ c<=D:=by omega
 have N:=ak L;have E:=ak F;clear L F;have K:CoR w M D (Z7 Z9 (0:Nat)) ((w.alloc (Z4 (aU dU) 332)).alloc (Z4 (aU dU) 332)):=by
  refine ⟨0,by omega,rfl,?_,(aF.new w dU).keep (We _ _ _ (by simp)),(bA _ _).alloc (by simp) _⟩;rw [L9];have h:=aF.new (w.alloc (Z4 (aU dU) 332)) dU;rw [Uw] at h;exact h
 have G:=ak K;clear K;go_enter func219,ntmps219;go_wp2;clear hz;go_loopw [12] (λi wr=>CoR w M D i wr) (λi _=>(M.length-D)-(intOf i).toNat)
 case atStart=>exact G.out
 case round=>
  clear G;rename ZU=>wo;obtain ⟨k,hk,rfl,A,B,f⟩:=hrel;by_cases y:D+k<M.length
  . have k5:(k:Int)<((M.length-D:Nat):Int):=(by omega);obtain ⟨u,C,J⟩:=N.o (D+k) y;have kf:wo.cell? ⟨b,off+D+k,ZY⟩=ZX u:=(by rw [Vx,f.cell (Ui C)];exact C);have H:=J.mono f;have n:=E.o (D+k) y;have s:M.getD (D+k) []=M[D+k]:=(by simp [y]);rw [s] at n;have z:=Ma M D k (by rw [s];exact n);rw [s] at z;have ke:=λw'=>pD w' (w.heap.size+1) (k*16);have kc:(k:Int)<8:=(by omega);have kb:(D:Int)+(k:Int)<16:=(by omega);have kh:wrap64 ((D:Int)+(k:Int))=((D+k:Nat):Int):=(by unfold wrap64;omega);have k7:IntKind.i64.wrap ((D:Int)+(k:Int))=((D+k:Nat):Int):=(by rw [UF];omega);have kg:wrap64 ((k:Int)+1)=((k+1:Nat):Int):=(by unfold wrap64;omega);have k6:IntKind.i64.wrap ((k:Int)+1)=((k+1:Nat):Int):=(by rw [UF];omega);have V:=ak z;have g:=ak H;have x:=ak A;have l:=ak B;have S:=ak f;have W:=ak n;clear z H A B f J C E s n;generalize M[D+k]=row at *;go_wp2_with (refine CR rfl (Z2 20) (Z2 21) rfl (w.heap.size+1) k _ rfl rfl _ row x.out (by omega) g.o (by have:=W.out;omega) ?_;intro w2 a d;have c1:=a.at k (D+k) (by omega) (by omega);have f1:=a.frozen (k*16+(D+k));have O:(w2.setCell ⟨w.heap.size+1,k*16+(D+k),ZY⟩ (Z7 .u8 1)).cell? ⟨w.heap.size+1,129,ZY⟩=ZX (Z7 Z9 (k:Int)):=(Fb a k (D+k) 1 (by omega) (by omega)).Sy;have Q:(w2.setCell ⟨w.heap.size+1,k*16+(D+k),ZY⟩ (Z7 .u8 1)).frozen? ⟨w.heap.size+1,129,ZY⟩=ZV:=(Fb a k (D+k) 1 (by omega) (by omega)).frozen 129;have T:=ak a;have R:=ak d;clear a d);have a:=T.out;have d:=R.out;have Y:=Fb a k (D+k) 1 (by omega) (by omega);have hr:=xD Y (k+1);have hv:=l.o.keep (d.block w.heap.size (by omega));have P:(⟨(⟨λr j=>if r=k/\j=D+k then 1 else OI (jZ (mf M) D k).m k row r j,(jZ (mf M) D k).told,(jZ (mf M) D k).count⟩:Ck).m,(jZ (mf M) D k).told,k+1⟩:Ck)=jZ (mf M) D (k+1):=V.out;have Z:aF ((w2.setCell ⟨w.heap.size+1,k*16+(D+k),ZY⟩ (Z7 .u8 1)).setCell ⟨w.heap.size+1,129,ZY⟩ (Z7 Z9 ((k+1:Nat):Int))) (w.heap.size+1) (jZ (mf M) D (k+1)):=(by rw [<- P];exact hr);have hx:aF ((w2.setCell ⟨w.heap.size+1,k*16+(D+k),ZY⟩ (Z7 .u8 1)).setCell ⟨w.heap.size+1,129,ZY⟩ (Z7 Z9 ((k+1:Nat):Int))) w.heap.size dU:=
     hv.keep ((Wj _ _ _ _ (by show w.heap.size≠w.heap.size+1;omega)).trans (Wj _ _ _ _ (by show w.heap.size≠w.heap.size+1;omega)))
    have X:bW w ((w2.setCell ⟨w.heap.size+1,k*16+(D+k),ZY⟩ (Z7 .u8 1)).setCell ⟨w.heap.size+1,129,ZY⟩ (Z7 Z9 ((k+1:Nat):Int))):=
     ((S.out.trans (d.mono (by omega))).setCell (p:=⟨w.heap.size+1,k*16+(D+k),ZY⟩) (by show w.heap.size<=w.heap.size+1;omega) _).setCell (p:=⟨w.heap.size+1,129,ZY⟩) (by show w.heap.size<=w.heap.size+1;omega) _
    have t:=aE Z hx X;go_roundw
    case rel=>exact ⟨k+1,by omega,by go_num,t.o.1,t.o.2.1,t.o.2.2⟩
    case measure=>simp [intOf];omega
  . have k5:¬ (k:Int)<((M.length-D:Nat):Int):=(by omega);have I:M.length-D=k:=(by omega);have U:=ak I;have g:=ak f;have x:=ak A;have l:=ak B;clear I;go_wp2_with (first
     | refine YE rfl 332 (Z2 5) rfl (w.heap.size+1) rfl 332 (aU (jZ (mf M) D k)) (0,0) _ x.out.heap XM rfl (dZ _) ?_
     | refine Wu rfl 332 (Z2 4) (Z2 35) rfl w.heap.size (aU (jZ (mf M) D k)) rfl rfl 332 (aU dU) l.o.heap (dZ _) (by rw [b9,b9]) (mz _) ?_)
    refine Uv (v:=.agg (aU (jZ (mf M) D k))) (V8 results219 _ _ w.heap.size 332 (aU (jZ (mf M) D k)) (0,0) _ rfl (l.o.setRow (jZ (mf M) D k)).heap XM rfl (dZ _)) rfl ?_;rw [U.out];exact ⟨rfl,g.o.grown (aN _ _ _) g.o.size (λq e=>by cases e;exact TY _)⟩
def aw (n lost:Nat):Nat:=lost &&& (2^n-1)
def bE (n lost:Nat):Nat:=(2^n-1) &&& (18446744073709551615-aw n lost)
def m6 (h:n<=16):2^n<=65536:=U9 (n:=2) (i:=n) (j:=16) (by decide) h
def yC (n lost i:Nat):(aw n lost).testBit i=(lost.testBit i&&decide (i<n)):=by unfold aw;rw [XC,Xz]
def oK (lost:Nat) (h:n<=16):aw n lost<65536:=by
 have:=m6 h;have:aw n lost<=2^n-1:=Nat.and_le_right;have:0<2^n:=Wh n;omega
def CS (lost:Nat) (h:n<=16):bE n lost<65536:=by
 have:=m6 h;have:bE n lost<=2^n-1:=WT;have:0<2^n:=Wh n;omega
def qt (lost i:Nat) (h:n<=16):(bE n lost).testBit i=(decide (i<n) && !lost.testBit i):=by
 have:=oK lost h;unfold bE;rw [XC,Xz,show 18446744073709551615-aw n lost=2^64-(aw n lost+1) by omega,Xy (by omega),yC];by_cases a:i<n
 . simp [a,show i<64 by omega]
 . simp [a]
theorem cd (h:n<=16):i∈ab (aw n lost)↔i<n/\lost.testBit i=ZW:=by
 rw [cZ,yC];simp only [WS,Wt];constructor
 . rintro ⟨_,a,b⟩;exact ⟨b,a⟩
 . rintro ⟨a,b⟩;exact ⟨by omega,b,a⟩
theorem oL (h:n<=16):i∈ab (bE n lost)↔i<n/\lost.testBit i=ZV:=by
 rw [cZ,qt lost i h];simp only [WS,Wt,Bool.not_eq_true'];constructor
 . rintro ⟨_,a,b⟩;exact ⟨a,b⟩
 . rintro ⟨a,b⟩;exact ⟨by omega,a,b⟩
def Fe (s:Nat):(ab s).Nodup:=List.Pairwise.filter _ YQ
def Mc (h:ez w B v T) (d:cQ T D M) (hD:∀ r∈M,r.length=D) (k:M≠[]) :
 ∃ g c,v=Z5 (ZX ⟨g,0,ZY⟩) M.length c/\M.length<=c/\∀ i (b:i<M.length),∃ u,w.cell? ⟨g,0+i,ZY⟩=ZX u/\Bs w u M[i]:=by
 have f:T.length=M.length:=by simpa using UB YR d
 rcases h.own.2 with ⟨_,m⟩|⟨g,c,cur,rfl,_,_,n,_⟩
 . exact absurd (UY (by omega)) k
 . refine ⟨g,c,by rw [f],by omega,λi b=>?_⟩;have a:i<T.length:=(by omega);refine ⟨fY T[i],by rw [Um];exact h.Ss a,?_⟩;have:=h.S7 a;have j:T[i].2=(D,M[i]):=by
    have:=UB (λl=>l[i]?) d;simpa [a,b] using this
   rw [j] at this;have e:(M[i]).take D=M[i]:=(by rw [<- hD _ (T8 b),VK]);rw [e] at this;exact this
def GP (D L G i:Nat) (a:i<D):(aR D L G).getD i []=dr D i:=by
 unfold aR;rw [UC,Ub,VG (by simpa using a)];simp [a]
def jN (D L G:Nat) (hD:D<=12) (hG:G<=4):Gf.Code (mf (aR D L G)) D (L+G):=by
 refine ⟨λi j=>?_,λi a j=>?_,λi j b=>?_⟩
 . unfold mf;by_cases a:i<(aR D L G).length
   . have e:(aR D L G).getD i []=(aR D L G)[i]:=(by simp [a]);rw [e];exact dz (oG D L G hD hG _ (T8 a)) j
   . have e:(aR D L G).getD i []=[]:=(by simp [a]);rw [e];simp
 . unfold mf;rw [GP D L G i a];unfold dr;rw [Ub,Xn];by_cases e:i=j
   . subst e;simp [a]
   . simp only [e,if_false];rw [TW (λh=>e h.symm)];by_cases b:j<D
     . simp [b]
     . simp [b]
 . unfold mf;by_cases a:i<(aR D L G).length
   . have e:(aR D L G).getD i []=(aR D L G)[i]:=(by simp [a]);have:=kN D L G _ (T8 a);rw [e,Ub,Vm (by omega)];rfl
   . have e:(aR D L G).getD i []=[]:=(by simp [a]);rw [e];simp
def jO (D L G:Nat):Ck:=jZ (mf (aR D L G)) D (L+G)
def Au (hD:D<=12) (hL:L<=4) (hG:G<=4) {pre:a8} {C:Ck} (h:tells (jO D L G) pre=ZX C):eF C:=by
 rcases (jN D L G hD hG).told pre with ⟨c,a,b⟩|⟨a,_⟩
 . have e:tells (jO D L G) pre=ZX c:=a;rw [h] at e;obtain rfl:=UQ e;exact ⟨b.byt,b.le,by have:C.count=L+G:=b.count;omega⟩
 . have e:tells (jO D L G) pre=ZY:=a;rw [h] at e;cases e
def PB (W:ZU) (n0 Bg:Nat) (regs:Int) (L:List St):Prop:=
 Bg<n0/\n0<=W.heap.size/\∃ v,W.heap[Bg]?=ZX (Z4 #[Z7 Z9 regs,v] 206 (0,0))/\W.ownsRow n0 299 4 v L.length (eG .u8 L)
def Tryz.Tn:(ZN.info? 299).map (λi=>(i.zero,i.size,i.bytes))=ZX (ZX (.agg #[Z7 .u8 0,Z7 Z9 0,Z7 Z9 0,Z7 .u8 0]),4,32):=by kernel_rfl
def Av {F:Fence} (p:o.guard=ZY) (x y:Operand) (ho:o.op=.call { callee:=.builtin .append,args:=#[x,y],argTypes:=#[204,204] })
 (n0 q:Nat) (L:List St) (s:St) (v:ZT) (hx:a.eval x=v) (hy:a.eval y=Z5 (ZX ⟨q,0,ZY⟩) 1 1) (h3:w.ownsRow n0 299 4 v L.length (eG .u8 L)) (hc:∀ j u,(Ik .u8 s)[j]?=ZX u->w.cell? ((⟨q,0,ZY⟩:Addr).add j)=ZX u) (h6:n0<=w.heap.size) (hL:L.length<=100000)
 (hK:∀ g' cap' w2,n0<=g'->w2.ownsRow n0 299 4 (Z5 (ZX ⟨g',0,ZY⟩) (L.length+1) cap') (L.length+1) (eG .u8 (L++[s]))->w.grownBy w2 v.ownBlock->wpListIn F n ZN ops Q rest (a.put o.dst (Z5 (ZX ⟨g',0,ZY⟩) (L.length+1) cap')) w2):wpListIn F n ZN ops Q (o::rest) a w:=by
 obtain ⟨t,h,i,k,l⟩:=Uu Tryz.Tn;refine wpListIn_append_own w p x y 204 ho n0 299 t (.agg #[Z7 .u8 0,Z7 Z9 0,Z7 Z9 0,Z7 .u8 0]) 4 32 underlying204 h i k l rfl (by decide) v L.length (eG .u8 L) hx h3 ⟨q,0,ZY⟩ 1 1 (Ik .u8 s) hy (by simp [Ik]) hc (λu c=>by simp [Ik] at c;rcases c with rfl|rfl|rfl|rfl<;>rfl) (by unfold maxLen;omega) (by omega) h6 ?_;intro z w2 b d _;obtain ⟨g',cap',rfl,f⟩:∃ g' cap',z=Z5 (ZX ⟨g',0,ZY⟩) (L.length+1) cap'/\n0<=g':=by
  rcases b.2 with ⟨_,A⟩|⟨g,cap,cur,r,m,_⟩
  . omega
  . exact ⟨g,cap,r,m⟩
 have e:eG .u8 L++Ik .u8 s=eG .u8 (L++[s]):=by rw [qQ];simp [eG]
 rw [e] at b;exact hK g' cap' w2 f b d
def jP {xs:List ZT} (h:w.ownsRow n0 t 4 v k xs) {q:Nat} (e:v.ownBlock=ZX q):n0<=q:=(h.lt q e).1
def PB.next {L:List St} {s:St} (h:Bg<n0) (x:n0<=W.heap.size) (n:W.heap[Bg]?=ZX (Z4 #[Z7 Z9 regs,v] 206 (0,0))) (f:W.ownsRow n0 299 4 v L.length (eG .u8 L))
 (a:(W.alloc ob).grownBy w2 v.ownBlock) (u:n0<=g') (m:w2.ownsRow n0 299 4 (Z5 (ZX ⟨g',0,ZY⟩) (L.length+1) cap') (L.length+1) (eG .u8 (L++[s]))) :
 PB (w2.setCell ⟨Bg,1,ZY⟩ (Z5 (ZX ⟨g',0,ZY⟩) (L.length+1) cap')) n0 Bg regs (L++[s])/\w2.cell? ⟨Bg,1,ZY⟩=ZX v/\w2.frozen? ⟨Bg,1,ZY⟩=ZV /\
  (∀ k,k<n0->k≠Bg->(w2.setCell ⟨Bg,1,ZY⟩ (Z5 (ZX ⟨g',0,ZY⟩) (L.length+1) cap')).heap[k]?=W.heap[k]?)/\KeepsOthers W (w2.setCell ⟨Bg,1,ZY⟩ (Z5 (ZX ⟨g',0,ZY⟩) (L.length+1) cap')) /\
  (w2.setCell ⟨Bg,1,ZY⟩ (Z5 (ZX ⟨g',0,ZY⟩) (L.length+1) cap')).os=W.os/\(w2.setCell ⟨Bg,1,ZY⟩ (Z5 (ZX ⟨g',0,ZY⟩) (L.length+1) cap')).tape=W.tape/\(w2.setCell ⟨Bg,1,ZY⟩ (Z5 (ZX ⟨g',0,ZY⟩) (L.length+1) cap')).output=W.output:=by
 have hold:∀ k,k<n0->w2.heap[k]?=W.heap[k]?:=λk b=>(a.block k (by simp;omega) (λe=>by have:=jP f e.symm;omega)).trans (oe W _ k (by omega));have d:=(hold Bg h).trans n;obtain ⟨_,c1,l,_⟩:=ay d;have w:W.heap.size<=w2.heap.size:=by have:=a.size;simp at this;omega
 have p:(w2.setCell ⟨Bg,1,ZY⟩ (Z5 (ZX ⟨g',0,ZY⟩) (L.length+1) cap')).heap[Bg]?=ZX (Z4 #[Z7 Z9 regs,Z5 (ZX ⟨g',0,ZY⟩) (L.length+1) cap'] 206 (0,0)):=by
  obtain ⟨r,b⟩:=T5.1 d;show (w2.heap.modify Bg _)[Bg]?=_;rw [VP (by rw [YS];exact r),YT,b];rfl
 refine ⟨⟨h,by simp [World.setCell];omega,_,p,?_⟩,c1,l,λk b t=>(Wj _ _ _ _ t).trans (hold k b),?_,a.os,a.tape,a.output⟩
 . have:=m.kept (dD w2 Bg 1 (Z5 (ZX ⟨g',0,ZY⟩) (L.length+1) cap')) (.inr (by simp [Value.ownBlock];omega));simpa using this
 . refine ((KeepsOthers.alloc W ob).trans (ab8 a λj o c i=>?_)).trans (V9 _ _ _);rcases (f.alloc ob).2 with ⟨rfl,_⟩|⟨g,cap,cur,rfl,_,q,_⟩
   . simp [Value.ownBlock] at c
   . obtain rfl:g=j:=(by simpa [Value.ownBlock] using c);rw [q] at i;cases i;rfl
theorem PB.own {L:List St} (h:PB X n0 Bg regs L) (l:n0<=B) (a:X.grownBy Y row) (hr:∀ r,row=ZX r->B<=r/\∃ o:Obj,X.heap[r]?=ZX o/\o.isCells=ZV):PB Y n0 Bg regs L:=by
 obtain ⟨f,i,v,j,b⟩:=h;refine ⟨f,TZ i a.size,v,(a.block Bg (by omega) (λe=>by have:=(hr Bg e.symm).1;omega)).trans j,b.kept a ?_⟩;rcases b.2 with ⟨rfl,_⟩|⟨g,cap,cur,rfl,_,d,_⟩
 . exact .inl rfl
 . refine .inr λc=>?_;obtain ⟨_,o,ho,k⟩:=hr g (by simpa [Value.ownBlock] using c.symm);rw [d] at ho;cases ho;cases k
def lU (C:Ck) (i:Nat):List St:=if cI C i=ZW then ⟨0,0,i,0⟩::((YF C.told).filter (λr=>decide (C.m r i≠0))).map (λr:Nat=>(⟨1,1+(r:Int),0,C.m r i⟩:St)) else []
def wrTo (C:Ck) (pre:a8):List St:=(pre.map (lU C)).flatten
def yD (C:Ck) (pre:a8) (i:Nat):wrTo C (pre++[i])=wrTo C pre++lU C i:=by unfold wrTo;simp
def gO (C:Ck) (i k:Nat):List St:=((YF k).filter (λr=>decide (C.m r i≠0))).map (λr:Nat=>(⟨1,1+(r:Int),0,C.m r i⟩:St))
def uy (C:Ck) (i:Nat):gO C i 0=[]:=rfl
def CT (C:Ck) (i k:Nat) (h:C.m k i≠0):gO C i (k+1)=gO C i k++[⟨1,1+(k:Int),0,C.m k i⟩]:=by unfold gO;rw [VF];simp [h]
def yE (C:Ck) (i k:Nat) (h:C.m k i=0):gO C i (k+1)=gO C i k:=by unfold gO;rw [VF];simp [h]
def CU (C:Ck) (i k:Nat):(gO C i k).length<=k:=by
 unfold gO;rw [Ud];exact TZ (WM _ _) (by simp)
def iD (h:cI C i=ZW):lU C i=⟨0,0,i,0⟩::gO C i C.told:=by unfold lU gO;rw [TX h]
def lV (h:cI C i=ZV):lU C i=[]:=by unfold lU;simp [h]
def Md (C:Ck) (i:Nat):(lU C i).length<=C.told+1:=by
 cases h:cI C i
 . rw [lV h];simp
 . rw [iD h];have:=CU C i C.told;simp;omega
theorem sy (C:Ck):∀ pre:a8,(wrTo C pre).length<=pre.length*(C.told+1)
 | []=>by simp [wrTo]
 | i::pre=>by
  have:=sy C pre;have:=Md C i;have e:wrTo C (i::pre)=lU C i++wrTo C pre:=by unfold wrTo;simp
  rw [e,Uc,UG,WY];omega
def fO (pre:a8):List St:=(YF pre.length).map (λk:Nat=>(⟨2,(k:Int)+1,((pre.getD k 0:Nat):Int),0⟩:St))
theorem Ff (pre:a8) (i:Nat):fO (pre++[i])=fO pre++[⟨2,(pre.length:Int)+1,i,0⟩]:=by
 unfold fO;rw [Uc,abY,VF,UD];congr 1
 . apply YH;intro k a;have:=UA.1 a;simp [this,VG]
 . simp
def fX (C:Ck) (gone kept:Nat):List St:=wrTo C (ab kept)++fO (ab gone)
def Fg {B:Ck} {s:St} (h:s∈fX B gone kept):(∃ i∈ab kept,s=⟨0,0,(i:Int),0⟩)\/(∃ i∈ab kept,∃ r,r<B.told/\s=⟨1,1+(r:Int),0,B.m r i⟩)\/(∃ k,∃ d:k<(ab gone).length,s=⟨2,(k:Int)+1,((ab gone)[k]:Int),0⟩):=by
 unfold fX wrTo at h;rcases Un.1 h with h|h
 . obtain ⟨l,hl,a⟩:=YU.1 h;obtain ⟨i,c,rfl⟩:=Ua.1 hl;cases hr:cI B i
   . rw [lV hr] at a;cases a
   . rw [iD hr] at a;rcases Uz.1 a with rfl|a
     . exact .inl ⟨i,c,rfl⟩
     . unfold gO at a;obtain ⟨r,e,rfl⟩:=Ua.1 a;exact .inr (.inl ⟨i,c,r,UA.1 (Vv.1 e).1,rfl⟩)
 . unfold fO at h;obtain ⟨k,d,rfl⟩:=Ua.1 h;have b:=UA.1 d;exact .inr (.inr ⟨k,b,by simp [b]⟩)
def Re {B:Ck} (gone kept:Nat) (e:B.told<=8):(fX B gone kept).length<=160:=by
 have:=sy B (ab kept);have a:∀ s,(ab s).length<=16:=λs=>TZ (WM _ _) (by simp);have:(ab kept).length*(B.told+1)<=16*9:=Xm (a kept) (by omega);have:=a gone;unfold fX fO;simp only [Uc,Ud,UM];omega
def aaJ {B:Ck} (h:B.told=(ab gone).length) (b:B.told<=8) (g:∀ i∈ab kept,i<n) (d:∀ i∈ab gone,i<n):iO (1+((ab gone).length:Int)) (fX B gone kept) (n:Int):=by
 have:=Re gone kept b;refine ⟨⟨by omega,by omega,by omega⟩,λi f=>?_⟩;rcases Fg (T8 f) with ⟨j,a,e⟩|⟨j,a,r,hr,e⟩|⟨k,c,e⟩
 . have:=g j a;rw [e];exact .inl ⟨.inl rfl,by show (0:Int)<=0;omega,by show (0:Int)<_;omega,by show (0:Int)<=(j:Int);omega,by show (j:Int)<_;omega⟩
 . rw [e];exact .inr ⟨rfl,by show (0:Int)<=1+(r:Int);omega,by show (1+(r:Int))<_;omega,by show (0:Int)<=0;omega,by show (0:Int)<_;omega,by show (1+(r:Int))≠0;omega⟩
 . have:=d _ (T8 c);rw [e];exact .inl ⟨.inr rfl,by show (0:Int)<=(k:Int)+1;omega,by show ((k:Int)+1)<_;omega,by show (0:Int)<=((ab gone)[k]:Int);omega,by show ((ab gone)[k]:Int)<_;omega⟩
theorem OJ (L:List α) (f:α->a8) (v:Nat->Nat):nH (L.map f) 0 v↔∃ x∈L,v=dM (f x):=by
 unfold nH;constructor
 . rintro ⟨i,a,_,rfl⟩;have b:i<L.length:=(by simpa using a);exact ⟨L[i],T8 b,by simp⟩
 . rintro ⟨x,c,rfl⟩;obtain ⟨i,a,rfl⟩:=UZ c;exact ⟨i,by simpa using a,T7 _,by simp⟩
def GQ (x i:Nat):x/2^i%2=0↔x.testBit i=ZV:=by
 rw [Wy];simp
theorem CV (M:List a8) (lost n:Nat) (h:n<=16):nH (dh M lost n) 0=Kq (mf M) n (λi=>i∉ab (aw n lost)):=by
 funext v;apply propext;unfold dh;rw [OJ];unfold Kq;constructor
 . rintro ⟨i,a,rfl⟩;obtain ⟨c,d⟩:=Vv.1 a;refine ⟨i,UA.1 c,λb=>?_,rfl⟩;have:=(cd h).1 b;rw [(GQ lost i).1 (Wx d)] at this;exact absurd this.2 (by decide)
 . rintro ⟨i,a,b,rfl⟩;refine ⟨i,Vv.2 ⟨UA.2 a,U1 ((GQ lost i).2 ?_)⟩,rfl⟩;cases hb:lost.testBit i
   . rfl
   . exact absurd ((cd h).2 ⟨a,hb⟩) b
theorem Fh (hD:D<=12) (hG:G<=4) (h:D+L+G<=16):gW D L G lost↔∃ C,tells (jO D L G) (ab (aw (D+L+G) lost))=ZX C:=by
 have a:=jN D L G hD hG;have e:D+(L+G)=D+L+G:=by omega
 unfold gW;rw [CV _ _ _ h];constructor
 . intro g;rcases a.told (ab (aw (D+L+G) lost)) with ⟨C,b,_⟩|⟨_,c⟩
   . exact ⟨C,b⟩
   . refine absurd ?_ (a.Tp (Fe _) (λi j=>by rw [e];exact ((cd h).1 j).1) c);rw [e];exact g
 . rintro ⟨C,f⟩;rcases a.told (ab (aw (D+L+G) lost)) with ⟨k,_,c⟩|⟨b,_⟩
   . have:=a.full c;rw [e] at this;exact this
   . have d:tells (jO D L G) (ab (aw (D+L+G) lost))=ZY:=b;rw [f] at d;cases d
def oM (hD:D<=12) (hG:G<=4) {C:Ck} (d:tells (jO D L G) (ab (aw (D+L+G) lost))=ZX C) :
 Hn (mf (aR D L G)) D (L+G) (ab (aw (D+L+G) lost)) (aP 8 C (bE (D+L+G) lost)).1/\fq (jZ (mf (aR D L G)) D (L+G)) (vP (mf (aR D L G)) D (D+(L+G))) (ab (aw (D+L+G) lost)) C:=by
 have e:=jN D L G hD hG;rcases e.told (ab (aw (D+L+G) lost)) with ⟨f,b,c⟩|⟨b,_⟩
 . have a:tells (jO D L G) (ab (aw (D+L+G) lost))=ZX f:=b;rw [d] at a;obtain rfl:=UQ a;exact ⟨e.SY c (zq 8 C _).1,c⟩
 . have a:tells (jO D L G) (ab (aw (D+L+G) lost))=ZY:=b;rw [d] at a;cases a
def bZ (D L G lost:Nat) (C:Ck):List St:=fX (aP 8 C (bE (D+L+G) lost)).1 (aw (D+L+G) lost) (bE (D+L+G) lost)
section
def ln (D:List a8) (R:List a8) (P:List St):List a8:=P.foldl (λR s=>dR D s R) R
def uz (D R:List a8):ln D R []=R:=rfl
def I9 (D R:List a8) (s:St) (P:List St):ln D R (s::P)=ln D (dR D s R) P:=rfl
def lW (D R:List a8) (P Q:List St):ln D R (P++Q)=ln D (ln D R P) Q:=by unfold ln;rw [Wq]
def uA (P:List St) (D R0:List a8):∀ k,k<=P.length->bU P D R0 k=ln D R0 (P.take k)
 | 0,_=>by simp [bU,ln]
 | k+1,h=>by
  have a:k<P.length:=by omega
  show dR D (bK P k) (bU P D R0 k)=_;rw [uA P D R0 k (by omega),dW P k a,abv a,lW];rfl
def uB (P:List St) (D R0:List a8):∀ k,k<=P.length->(∀ i (h:i<P.length),i<k->P[i].k≠2)->dE P D R0 k=[]
 | 0,_,_=>rfl
 | k+1,h,hn=>by
  have a:k<P.length:=by omega
  show ir (bK P k) _ _=[];rw [uB P D R0 k (by omega) (λi b c=>hn i b (by omega)),dW P k a];unfold ir;rw [TW (hn k a (by omega))]
def CW (D R:List a8) {s:St} (h:s.k=2):dR D s R=R:=by
 unfold dR;rw [TW (by omega),TW (by omega)]
def uC (A Q:List St) (D R0:List a8) (f:∀ s∈A,s.k≠2) (g:∀ s∈Q,s.k=2):∀ k,k<=Q.length ->
 bU (A++Q) D R0 (A.length+k)=ln D R0 A/\dE (A++Q) D R0 (A.length+k)=(Q.take k).map (λs=>(s.b,(ln D R0 A).getD s.a.toNat []))
 | 0,_=>by
  refine ⟨?_,?_⟩
  . rw [VV,uA _ _ _ _ (by simp)];simp
  . rw [VV,uB _ _ _ _ (by simp) (λi j c=>by rw [XT c];exact f _ (T8 c))];simp
 | k+1,h=>by
  obtain ⟨d,n⟩:=uC A Q D R0 f g k (by omega);have l:k<Q.length:=by omega
  have j:A.length+k<(A++Q).length:=by simp;omega
  have m:bK (A++Q) (A.length+k)=Q[k]:=by rw [dW _ _ j,XS (by omega)];simp
  have e:=g _ (T8 l);refine ⟨?_,?_⟩
  . show dR D (bK (A++Q) (A.length+k)) (bU (A++Q) D R0 (A.length+k))=_;rw [m,d,CW D _ e]
  . show ir (bK (A++Q) (A.length+k)) (bU (A++Q) D R0 (A.length+k)) (dE (A++Q) D R0 (A.length+k))=_;rw [m,d,n];unfold ir;rw [TX e,abv l,UD];rfl
def xl (f:Nat->Nat) (K:a8):Nat:=K.foldr (λi a=>f i^^^a) 0
def Me (f:Nat->Nat):xl f []=0:=rfl
def Aw (f:Nat->Nat) (i:Nat) (K:a8):xl f (i::K)=f i^^^xl f K:=rfl
theorem CX (f:Nat->Nat) (p:Nat->Bool):∀ n,xl f ((YF n).filter p)=xs (λi=>if p i=ZW then f i else 0) n
 | 0=>rfl
 | n+1=>by
  have b:∀ A B:a8,xl f (A++B)=xl f A^^^xl f B:=by
   intro A B;induction A with
   | nil=>rw [Ut,Me,V1]
   | cons a A ih=>rw [UX,Aw,Aw,ih,U4]
  rw [VF,Wr,b,CX f p n];show _=xs _ n^^^(if p n=ZW then f n else 0);congr 1;by_cases h:p n=ZW
  . rw [TX h];simp [h,xl]
  . rw [TW h];simp [h,xl]
structure Rg (R:List a8) (T m:Nat) (v:Nat->Nat->Nat):Prop where
 len:R.length=1+T
 row:∀ r,r<T->R.getD (1+r) []=(YF m).map (v r)
def oN {R:List a8} {a:Nat} {x:a8} (c:a<R.length):(R.set a x).getD b []=if a=b then x else R.getD b []:=by
 rw [Ub,Xn];by_cases e:a=b
 . subst e;simp [c]
 . simp [e]
theorem Fi (m:Nat) (v:Nat->Nat) (y:a8) (c:Nat):iP ((YF m).map v) y c=(YF m).map (λq=>v q^^^gm c (y.getD q 0)):=by
 unfold iP;rw [Ud,UM];apply YH;intro q a;have:=UA.1 a;simp [this]
theorem CY (B:Ck) (D:List a8) (i T m:Nat) (y:a8) (v:Nat->Nat->Nat) {R:List a8} (g:Rg R T m v) (h:R.getD 0 []=y):∀ k,k<=T ->
 (ln D R (gO B i k)).getD 0 []=y/\Rg (ln D R (gO B i k)) T m (λr q=>if r<k then v r q^^^gm (B.m r i) (y.getD q 0) else v r q)
 | 0,_=>by rw [uy,uz];exact ⟨h,g.len,λr hr=>by rw [g.row r hr];simp⟩
 | k+1,hk=>by
  obtain ⟨d,a⟩:=CY B D i T m y v g h k (by omega);by_cases f:B.m k i=0
  . rw [yE B i k f];refine ⟨d,a.len,λr hr=>?_⟩;rw [a.row r hr];apply YH;intro q _;by_cases c:r<k
    . rw [TX c,TX (by omega)]
    . by_cases e:r=k
      . subst e;rw [TW c,TX (by omega),f,bM,U5]
      . rw [TW c,TW (by omega)]
  . rw [CT B i k f,lW];generalize h5:ln D R (gO B i k)=b at d a;have j:ln D b [⟨1,1+(k:Int),0,B.m k i⟩]=b.set (1+k) (iP (b.getD (1+k) []) (b.getD 0 []) (B.m k i)):=by
     show dR D ⟨1,1+(k:Int),0,B.m k i⟩ b=_;unfold dR;have e:(1+(k:Int)).toNat=1+k:=(by omega);simp only [e];rw [TW (by decide),TX trivial];rfl
    have hl:1+k<b.length:=(by rw [a.len];omega);rw [j];refine ⟨by rw [oN hl,TW (by omega)];exact d,by rw [V4];exact a.len,λr hr=>?_⟩;rw [oN hl,d];by_cases e:r=k
    . subst e;rw [TX rfl,a.row r hr,Fi];apply YH;intro q _;rw [TW (by omega),TX (by omega)]
    . rw [TW (by omega),a.row r hr];apply YH;intro q _;by_cases c:r<k
      . rw [TX c,TX (by omega)]
      . rw [TW c,TW (by omega)]
theorem OK (B:Ck) (D:List a8) (i m:Nat) (v:Nat->Nat->Nat) {R:List a8} (a:Rg R B.told m v):Rg (ln D R (lU B i)) B.told m (λr q=>v r q^^^gm (B.m r i) ((D.getD i []).getD q 0)):=by
 cases hr:cI B i
 . rw [lV hr,uz];refine ⟨a.len,λr h=>?_⟩;rw [a.row r h];apply YH;intro q _;rw [ij.1 hr r h,bM,U5]
 . rw [iD hr,I9];have b:0<R.length:=(by rw [a.len];omega);have e:dR D ⟨0,0,(i:Int),0⟩ R=R.set 0 (D.getD i []):=by
    unfold dR;rw [TX rfl];rfl
   rw [e];have d:Rg (R.set 0 (D.getD i [])) B.told m v:=⟨by rw [V4];exact a.len,λr h=>by rw [oN b,TW (by omega)];exact a.row r h⟩;obtain ⟨_,c⟩:=CY B D i B.told m (D.getD i []) v d (by rw [oN b,TX rfl]) B.told lR;refine ⟨c.len,λr h=>?_⟩;rw [c.row r h];apply YH;intro q _;rw [TX h]
theorem Mf (B:Ck) (D:List a8) (m:Nat):∀ (K:a8) (v:Nat->Nat->Nat) (R:List a8),Rg R B.told m v->Rg (ln D R (wrTo B K)) B.told m (λr q=>v r q^^^xl (λi=>gm (B.m r i) ((D.getD i []).getD q 0)) K)
 | [],v,R,h=>by
  rw [show wrTo B []=[] from rfl,uz];exact ⟨h.len,λr hr=>by rw [h.row r hr];simp [Me]⟩
 | i::K,v,R,h=>by
  have e:wrTo B (i::K)=lU B i++wrTo B K:=by unfold wrTo;simp
  rw [e,lW];have:=Mf B D m K _ _ (OK B D i m v h);refine ⟨this.len,λr hr=>?_⟩;rw [this.row r hr];apply YH;intro q _;rw [Aw,U4]
def Mg (T m:Nat):Rg (eW (1+T) m) T m (λ_ _=>0):=by
 refine ⟨by simp [eW],λr hr=>?_⟩;unfold eW;have:1+r<1+T:=by omega
 rw [Ub,WB,TX this];simp [List.map_const']
def Mh {P:List St} {D:List a8} (h:∀ s∈P,s.k=0->(D.getD s.b.toNat []).length=m):∀ k,k<=P.length->fl P D k=ZY\/fl P D k=ZX m
 | 0,_=>.inl rfl
 | k+1,hk=>by
  rcases Mh h k (by omega) with e|e
  . by_cases a:(bK P k).k=0
    . rw [zJ P D k e a];rw [dW P k (by omega)] at a ⊢;exact .inr (by rw [h _ (T8 _) a])
    . rw [tB P D k a];exact .inl e
  . exact .inr (oh P D k m e)
def CZ {P:List St} {D:List a8} (h:∀ s∈P,s.k=0->(D.getD s.b.toNat []).length=m) {k:Nat} (a:k<P.length) (c:P[k].k=0):fl P D (k+1)=ZX m:=by
 rcases Mh h k (by omega) with e|e
 . rw [zJ P D k e (by rw [dW P k a];exact c),dW P k a,h _ (T8 a) c]
 . exact oh P D k m e
def Kb (S:List a8) (lost:Nat):List a8:=(YF S.length).map (λi=>if lost.testBit i=ZW then [] else S.getD i [])
def Ay (S:List a8) (lost i:Nat) (a:i<S.length):(Kb S lost).getD i []=if lost.testBit i=ZW then [] else S.getD i []:=by simp [Kb,a]
def Mi (row:a8) (Dt:List a8) (q:Nat):∀ t,Oh row Dt t q=xs (λj=>gm (row.getD j 0) ((Dt.getD j []).getD q 0)) t
 | 0=>rfl
 | t+1=>by
  show Oh row Dt t q^^^gm (row.getD t 0) ((Dt.getD t []).getD q 0)=xs (λj=>gm (row.getD j 0) ((Dt.getD j []).getD q 0)) t^^^gm (row.getD t 0) ((Dt.getD t []).getD q 0);rw [Mi row Dt q t]
def Rf (a:i<M.length) (j:Nat):mf M i j=(M[i]).getD j 0:=by unfold mf;simp [a]
theorem Az (M Dt:List a8) (m i:Nat) (a:i<M.length):(fu M Dt m).getD i []=(YF m).map (λq=>xs (λj=>gm (mf M i j) ((Dt.getD j []).getD q 0)) Dt.length):=by
 have e:(fu M Dt m).getD i []=cM M[i] Dt m Dt.length:=by simp [fu,a]
 rw [e];unfold cM;apply YH;intro q _;rw [Mi];exact eS _ (λj _=>by rw [Rf a])
def AA (M Dt:List a8) (m:Nat):(fu M Dt m).length=M.length:=by simp [fu]
def oO:og lost i↔lost.testBit i=ZW:=by
 unfold og;rw [Wy];simp
section
variable {D L G lost m:Nat} {C:Ck} {Dt:List a8}
def lX (c:D+L+G<=16) {s:St} (e:s∈bZ D L G lost C) (a:s.k=0):∃ i:Nat,s.b=(i:Int)/\i<D+L+G/\lost.testBit i=ZV:=by
 rcases Fg e with ⟨i,d,rfl⟩|⟨_,_,_,_,rfl⟩|⟨_,_,rfl⟩
 . exact ⟨i,rfl,(oL c).1 d⟩
 . exact absurd a (Nat.one_ne_zero)
 . exact absurd a (Nat.succ_ne_zero 1)
def AC (c:D+L+G<=16):∀ s∈bZ D L G lost C,s.k=0->((Kb (fu (aR D L G) Dt m) lost).getD s.b.toNat []).length=m:=by
 intro s f a;obtain ⟨i,d,e,hl⟩:=lX c f a;have:(fu (aR D L G) Dt m).length=D+L+G:=by rw [AA,cO]
 rw [d,VL,Ay _ _ _ (by omega),TW (by rw [hl];decide),Az _ _ _ _ (by rw [cO];exact e)];simp
def OL (c:D+L+G<=16) (h:m<=4096):gL (bZ D L G lost C) (Kb (fu (aR D L G) Dt m) lost) lost:=by
 intro i b a;rw [dW _ _ b] at a ⊢;have e:=AC (m:=m) (Dt:=Dt) c _ (T8 b) a;obtain ⟨j,f,g,hl⟩:=lX c (T8 b) a;refine ⟨λd=>?_,by rw [e];exact CZ (AC c) b a,by omega⟩;rw [f,VL] at d;have:=oO.1 d;rw [hl] at this;cases this
theorem Fj (b:D+L+G<=16) (a:0<iJ (ab (bE (D+L+G) lost)) (aP 8 C (bE (D+L+G) lost)).1):eH (bZ D L G lost C) (Kb (fu (aR D L G) Dt m) lost)=m:=by
 unfold iJ at a;obtain ⟨i,g⟩:=List.exists_mem_of_length_pos a;obtain ⟨c,d⟩:=Vv.1 g;have j:(⟨0,0,(i:Int),0⟩:St)∈bZ D L G lost C:=by
  unfold bZ fX wrTo;refine UO _ (YU.2 ⟨lU _ i,Ua.2 ⟨i,c,rfl⟩,?_⟩);rw [iD d];exact Va
 obtain ⟨k,h,e⟩:=UZ j;have f:=CZ (AC (m:=m) (Dt:=Dt) b) h (by rw [e]);have:=Gx _ _ _ _ f (bZ D L G lost C).length (by omega);unfold eH;rw [this];rfl
theorem OM (hD:D<=12) (hG:G<=4) (b:D+L+G<=16) (E:tells (jO D L G) (ab (aw (D+L+G) lost))=ZX C) (p:Dt.length=D) (R:∀ l∈Dt,∀ x∈l,x<256) :
 ∃ O,dE (bZ D L G lost C) (Kb (fu (aR D L G) Dt m) lost) (eW (1+(ab (aw (D+L+G) lost)).length) (eH (bZ D L G lost C) (Kb (fu (aR D L G) Dt m) lost))) (bZ D L G lost C).length=O /\
  O.length=(ab (aw (D+L+G) lost)).length/\∀ k (P:k<O.length) (f:k<(ab (aw (D+L+G) lost)).length),O[k].1=(((ab (aw (D+L+G) lost))[k]:Nat):Int)/\(0<iJ (ab (bE (D+L+G) lost)) (aP 8 C (bE (D+L+G) lost)).1->O[k].2=(fu (aR D L G) Dt m).getD (ab (aw (D+L+G) lost))[k] []):=by
 obtain ⟨o,_⟩:=oM hD hG E;have H:=jN D L G hD hG;have e:D+(L+G)=D+L+G:=by omega
 have F:(bZ D L G lost C).length=(wrTo (aP 8 C (bE (D+L+G) lost)).1 (ab (bE (D+L+G) lost))).length+(fO (ab (aw (D+L+G) lost))).length:=by unfold bZ fX;rw [Uc]
 have J:(fO (ab (aw (D+L+G) lost))).length=(ab (aw (D+L+G) lost)).length:=by unfold fO;simp
 have N:=λR0=>uC (wrTo (aP 8 C (bE (D+L+G) lost)).1 (ab (bE (D+L+G) lost))) (fO (ab (aw (D+L+G) lost))) (Kb (fu (aR D L G) Dt m) lost) R0 (λs a=>by
  unfold wrTo at a;obtain ⟨l,hl,a⟩:=YU.1 a;obtain ⟨i,c,rfl⟩:=Ua.1 hl;cases hr:cI (aP 8 C (bE (D+L+G) lost)).1 i
  . rw [lV hr] at a;cases a
  . rw [iD hr] at a;rcases Uz.1 a with rfl|a
    . exact (by decide:(0:Nat)≠2)
    . unfold gO at a;obtain ⟨r,_,rfl⟩:=Ua.1 a;exact (by decide:(1:Nat)≠2)) (λs a=>by
  unfold fO at a;obtain ⟨k,_,rfl⟩:=Ua.1 a;rfl) _ lR
 refine ⟨_,rfl,?_⟩;rw [F];have g:=(N (eW (1+(ab (aw (D+L+G) lost)).length) (eH (bZ D L G lost C) (Kb (fu (aR D L G) Dt m) lost)))).2;rw [VK] at g;rw [show bZ D L G lost C=wrTo (aP 8 C (bE (D+L+G) lost)).1 (ab (bE (D+L+G) lost))++fO (ab (aw (D+L+G) lost)) from rfl] at g ⊢;rw [g];refine ⟨by simp [J],λk P f=>?_⟩;have:k<(fO (ab (aw (D+L+G) lost))).length:=by omega
 have B:(fO (ab (aw (D+L+G) lost)))[k]=⟨2,(k:Int)+1,(((ab (aw (D+L+G) lost))[k]:Nat):Int),0⟩:=by
  simp [fO,f]
 rw [UU,B];refine ⟨rfl,λz=>?_⟩;have v:=Fj (m:=m) (Dt:=Dt) b z;rw [show bZ D L G lost C=wrTo (aP 8 C (bE (D+L+G) lost)).1 (ab (bE (D+L+G) lost))++fO (ab (aw (D+L+G) lost)) from rfl] at v;rw [v];have M:=Mf (aP 8 C (bE (D+L+G) lost)).1 (Kb (fu (aR D L G) Dt m) lost) m (ab (bE (D+L+G) lost)) (λ_ _=>0) (eW (1+(ab (aw (D+L+G) lost)).length) m) (by rw [o.told];exact Mg _ _);have A:=M.row k (by rw [o.told];exact f);have y:((k:Int)+1).toNat=1+k:=by omega
 show (ln _ _ _).getD ((k:Int)+1).toNat []=_;rw [y,A,Az _ _ _ _ (by rw [cO];exact ((cd b).1 (T8 f)).1)];apply YH;intro q Q;have K:=UA.1 Q;have u:=o.sum H (λi c=>by rw [e];exact ((cd b).1 c).1) (λj=>(Dt.getD j []).getD q 0) (λj=>by
  show (Dt.getD j []).getD q 0<256;by_cases n:j<Dt.length
  . have w:Dt.getD j []=Dt[j]:=(by simp [n]);rw [w];exact dz (R _ (T8 n)) q
  . simp [n]) k f
 rw [e] at u;rw [p,<- u,V1];rw [show ab (bE (D+L+G) lost)=(YF 16).filter (λi=>(bE (D+L+G) lost).testBit i) from rfl,CX];obtain ⟨d,I⟩:=Nat.exists_eq_add_of_le b;rw [I,zt];have S:xs (λi=>if (bE (D+L+G) lost).testBit (D+L+G+i)=ZW then gm ((aP 8 C (bE (D+L+G) lost)).1.m k (D+L+G+i)) (((Kb (fu (aR D L G) Dt m) lost).getD (D+L+G+i) []).getD q 0) else 0) d=0:=ef d (λi _=>by
  rw [TW];rw [qt _ _ b,show decide (D+L+G+i<D+L+G)=ZV from Vz (by omega)];simp)
 rw [S,U5];apply eS;intro i c;have:(fu (aR D L G) Dt m).length=D+L+G:=by rw [AA,cO]
 rw [qt _ _ b];have t:i∈ab (aw (D+L+G) lost)↔lost.testBit i=ZW:=by
  rw [cd b];exact ⟨λh=>h.2,λh=>⟨c,h⟩⟩
 cases hb:lost.testBit i
 . rw [TX (show (decide (i<D+L+G) && !false)=ZW by simp [c]),TW (λh=>by rw [t,hb] at h;cases h),Ay _ _ _ (by omega),TW (by rw [hb];decide),Az _ _ _ _ (by rw [cO];exact c),p];congr 1;simp [K]
 . rw [TW (show ¬ (decide (i<D+L+G) && !true)=ZW by simp),TX (t.2 hb)]
end
theorem C3 (hD:D<=12) (hG:G<=4) (b:D+L+G<=16) (c:tells (jO D L G) (ab (aw (D+L+G) lost))=ZX C):∀ s∈bZ D L G lost C,zH s:=by
 intro s g;have a:=(oM hD hG c).1;have:=a.le;have:=a.Sl;rcases Fg g with ⟨i,e,rfl⟩|⟨i,_,r,hr,rfl⟩|⟨j,f,rfl⟩
 . have:=((oL b).1 e).1;exact ⟨by show 0<256;decide,by show -9223372036854775808<=(0:Int);omega,by show (0:Int)<=9223372036854775807;omega,by show -9223372036854775808<=(i:Int);omega,by show (i:Int)<=9223372036854775807;omega,by show 0<256;decide⟩
 . exact ⟨by show 1<256;decide,by show -9223372036854775808<=(1:Int)+(r:Int);omega,by show (1:Int)+(r:Int)<=9223372036854775807;omega,by show -9223372036854775808<=(0:Int);omega,by show (0:Int)<=9223372036854775807;omega,a.byt r i⟩
 . have:(ab (aw (D+L+G) lost)).length<=16:=TZ (WM _ _) (by simp);have d:=((cd b).1 (T8 f)).1;generalize (ab (aw (D+L+G) lost))[j]=y at d;exact ⟨by show 2<256;decide,by show -9223372036854775808<=(j:Int)+1;omega,by show (j:Int)+1<=9223372036854775807;omega,by show -9223372036854775808<=(y:Int);omega,by show (y:Int)<=9223372036854775807;omega,by show 0<256;decide⟩
def Mj (hD:D<=12) (hL:L<=4) (hG:G<=4) (c:D+L+G<=16) (d:tells (jO D L G) (ab (aw (D+L+G) lost))=ZX C):iO (1+((ab (aw (D+L+G) lost)).length:Int)) (bZ D L G lost C) ((D+L+G:Nat):Int):=by
 have b:=(oM hD hG d).1;have:=b.le;have:=b.Sl;exact aaJ b.told (by omega) (λi a=>((oL c).1 a).1) (λi a=>((cd c).1 a).1)
end
def mfl (a:g<L) (j:Nat) (b:j<D):mf (aR D L G) (D+g) j=if g*(D/L)<=j/\j<(g+1)*(D/L) then 1 else 0:=by
 unfold mf aR;have e:((YF D).map (dr D)++(YF L).map (dC D L)++(YF G).map (dm D)).getD (D+g) []=dC D L g:=by
  rw [UC,Ub,U7 (by simp)];simp only [Ud,UM,WQ];rw [VG (by simpa using a)];simp [a]
 rw [e];unfold dC;simp [b]
def mfg (a:i<G) (j:Nat) (b:j<D):mf (aR D L G) (D+L+i) j=gi ((D+i)^^^j):=by
 unfold mf aR;have e:((YF D).map (dr D)++(YF L).map (dC D L)++(YF G).map (dm D)).getD (D+L+i) []=dm D i:=by
  rw [Ub,U7 (by simp)];simp only [Uc,Ud,UM,WQ];simp [a]
 rw [e];unfold dm;simp [b]
def Rh (o:1<=D) (hD:D<=12) (hG:G<=4) (k:D%L=0) (p:d<D+L+G):∃ j,j<D/\mf (aR D L G) d j≠0:=by
 by_cases a:d<D
 . refine ⟨d,a,?_⟩;unfold mf;rw [GP D L G d a];unfold dr;simp [a]
 . by_cases n:d<D+L
   . obtain ⟨g,rfl⟩:∃ g,d=D+g:=⟨d-D,by omega⟩;have h:g<L:=(by omega);have c:D/L*L=D:=Nat.div_mul_cancel (Nat.dvd_of_mod_eq_zero k);have m:0<D/L:=Y5 λe=>by rw [e] at c;omega
     have f:g*(D/L)<D:=by
      have b:=ack h m;rw [Ww L,c] at b;exact b
     refine ⟨g*(D/L),f,?_⟩;rw [mfl h _ f,TX ⟨TY _,by rw [XL];omega⟩];decide
   . obtain ⟨i,rfl⟩:∃ i,d=D+L+i:=⟨d-(D+L),by omega⟩;have l:i<G:=(by omega);refine ⟨0,by omega,?_⟩;rw [mfg l 0 (by omega),U5];exact aak (by omega) (by omega)
theorem ON (u:1<=D) (hD:D<=12) (hG:G<=4) (t:D%L=0) (b:D+L+G<=16) (z:tells (jO D L G) (ab (aw (D+L+G) lost))=ZX C) (n:d<D+L+G) (hl:lost.testBit d=ZW):0<iJ (ab (bE (D+L+G) lost)) (aP 8 C (bE (D+L+G) lost)).1:=by
 apply Y5;intro h;obtain ⟨r,_⟩:=oM hD hG z;have l:=jN D L G hD hG;have e:D+(L+G)=D+L+G:=by omega
 obtain ⟨k,o,w⟩:=UZ ((cd b).2 ⟨n,hl⟩);obtain ⟨j,A,x⟩:=Rh u hD hG t n;have y:∀ i,i∈ab (bE (D+L+G) lost)->cI (aP 8 C (bE (D+L+G) lost)).1 i=ZV:=λi a=>by
  cases hr:cI (aP 8 C (bE (D+L+G) lost)).1 i
  . rfl
  . unfold iJ at h;have:=UY h;have p:i∈(ab (bE (D+L+G) lost)).filter (cI (aP 8 C (bE (D+L+G) lost)).1):=Vv.2 ⟨a,hr⟩;rw [this] at p;cases p
 have c:=r.sum l (λi a=>by rw [e];exact ((cd b).1 a).1) (λq=>if q=j then 1 else 0) (λq=>by show (if q=j then 1 else 0)<256;split<;>decide) k o;rw [e,w] at c;have E:=ef (f:=λi=>if i∈ab (aw (D+L+G) lost) then 0 else gm ((aP 8 C (bE (D+L+G) lost)).1.m k i) (xs (λq=>gm (mf (aR D L G) i q) (if q=j then 1 else 0)) D)) (D+L+G) (λi a=>by
  by_cases g:i∈ab (aw (D+L+G) lost)
  . rw [TX g]
  . have v:lost.testBit i=ZV:=by
     cases hb:lost.testBit i
     . rfl
     . exact absurd ((cd b).2 ⟨a,hb⟩) g
    have:=ij.1 (y i ((oL b).2 ⟨a,v⟩)) k (by rw [r.told];exact o);rw [TW g,this,bM])
 rw [E] at c;have s:=jl (f:=λq=>gm (mf (aR D L G) d q) (if q=j then 1 else 0)) (k:=j) D A (λq _ B=>by rw [TW B,bI]);rw [s,TX rfl,eA _ (l.byt d j)] at c;exact x c.symm
section
section
variable {P:List St} {A B:List a8} (h:∀ k,k<P.length->(bK P k).k=0->A.getD (bK P k).b.toNat []=B.getD (bK P k).b.toNat [])
include h
def AD:∀ k,k<=P.length->fl P A k=fl P B k
 | 0,_=>rfl
 | k+1,hk=>by
  have ih:=AD k (by omega);unfold fl;rw [ih];cases fl P B k with
  | some n=>rfl
  | none=>
   show (if (bK P k).k=0 then _ else _)=if (bK P k).k=0 then _ else _;by_cases a:(bK P k).k=0
   . rw [TX a,TX a,h k (by omega) a]
   . rw [TW a,TW a]
def uD (R0:List a8):∀ k,k<=P.length->bU P A R0 k=bU P B R0 k
 | 0,_=>rfl
 | k+1,hk=>by
  unfold bU;rw [uD R0 k (by omega)];unfold dR;by_cases a:(bK P k).k=0
  . rw [TX a,TX a,h k (by omega) a]
  . rw [TW a,TW a]
def uE (R0:List a8):∀ k,k<=P.length->dE P A R0 k=dE P B R0 k
 | 0,_=>rfl
 | k+1,hk=>by
  unfold dE;rw [uE R0 k (by omega),uD h R0 k (by omega)]
def C4:eH P A=eH P B:=by unfold eH;rw [AD h _ lR]
def Ml {y:Nat} (f:gL P B y) (g:∀ k,k<P.length->(bK P k).k=0->¬ og x (bK P k).b.toNat):gL P A x:=λk c a=>by
 obtain ⟨_,d,e⟩:=f k c a;rw [<- AD h (k+1) (by omega),<- h k c a] at d;rw [<- h k c a] at e;exact ⟨g k c a,d,e⟩
end
def OO {s:Nat} {dl Dl:List a8} (v:1<=D) (hD:D<=12) (hG:G<=4) (q:D%L=0) (f:D+L+G<=16) (j:tells (jO D L G) (ab (aw (D+L+G) s))=ZX C) (z:d<D+L+G) (H:s.testBit d=ZW) (r:dl.length=D) (I:∀ l∈dl,∀ x∈l,x<256)
 (e:∀ i,(zX (bZ D L G s C)).testBit i=ZW->Dl.getD i []=(fu (aR D L G) dl 44).getD i []/\x.testBit i=ZV) :
 gL (bZ D L G s C) Dl x/\dE (bZ D L G s C) Dl (eW (1+(ab (aw (D+L+G) s)).length) (eH (bZ D L G s C) Dl)) (bZ D L G s C).length=(ab (aw (D+L+G) s)).map (λd:Nat=>((d:Int),(fu (aR D L G) dl 44).getD d [])):=by
 have h:∀ k,k<(bZ D L G s C).length->(bK (bZ D L G s C) k).k=0->(zX (bZ D L G s C)).testBit (bK (bZ D L G s C) k).b.toNat=ZW:=λk e a=>by
  rw [dW _ _ e] at a ⊢;exact (si _ _).2 ⟨_,T8 e,a,rfl⟩
 have g:∀ k,k<(bZ D L G s C).length->(bK (bZ D L G s C) k).k=0->Dl.getD (bK (bZ D L G s C) k).b.toNat []=(Kb (fu (aR D L G) dl 44) s).getD (bK (bZ D L G s C) k).b.toNat []:=λk c a=>by
  rw [(e _ (h k c a)).1];rw [dW _ _ c] at a ⊢;obtain ⟨i,w,F,hl⟩:=lX f (T8 c) a;rw [w,VL,Ay _ _ _ (by rw [AA,cO];exact F),TW (by rw [hl];decide)]
 refine ⟨Ml g (OL f (by decide)) λk c a E=>?_,?_⟩
 . have:=(e _ (h k c a)).2;rw [oO.1 E] at this;cases this
 . obtain ⟨O,u,A,y⟩:=OM (m:=44) (Dt:=dl) hD hG f j r I;have B:=ON v hD hG q f j z H;rw [uE g _ _ lR,C4 g,u];refine Ve (by simp [A]) λk p J=>?_;have t:k<(ab (aw (D+L+G) s)).length:=(by omega);obtain ⟨n,o⟩:=y k p t;rw [UU,<- n,<- o B]
end
section
attribute [local go_sem] Oper.semAt_some
def Mm (v:ZT) (w:ZU):(Instr.typeAssert (.iface 213 v) 215 213 ZW).run ZN w=.ok (Z0 #[v,.bool ZW]) w:=by
 simp [Instr.typeAssert,UR underlying213]
def Ja:(ZN.info? 213).map (·.size)=ZX 44:=by kernel_rfl
def C6 (w:ZU) (z:Array ZT) (c:z.size=44) (l:a8) (hl:l.length=44):(Instr.storeAt 213 (Z6 (ZX ⟨w.heap.size,0,ZY⟩)) (.agg (aI l).toArray)).run ZN (w.alloc (Z4 z 213))=.ok () (w.alloc (Z4 (aI l).toArray 213)):=by
 have a:(aI l).toArray.size=44:=by rw [UL,aW,hl]
 have:=run_storeVar_new (P:=ZN) w 213 z (aI l).toArray (by rw [a];exact Ja) (by rw [a,c]) (by
  rw [List.all_toArray,Xd];intro u b;obtain ⟨x,_,rfl⟩:=Ua.1 b;rfl)
 simp only [Instr.storeAt,Instr.sureAddr,Ux,Vf,UK,this]
def AE {F:Fence} (d:o.guard=ZY) (x y:Operand) (ho:o.op=.store 213 x y) {z:Array ZT} {l:a8}
 (e:a.eval x=Z6 (ZX ⟨w.heap.size,0,ZY⟩)) (f:a.eval y=.agg (aI l).toArray) (g:z.size=44) (hl:l.length=44) (h:wpListIn F n ZN ops Q rest (a.put o.dst ZZ) (w.alloc (Z4 (aI l).toArray 213))):wpListIn F n ZN ops Q (o::rest) a (w.alloc (Z4 z 213)):=by
 refine Yh d λK b=>?_;unfold Oper.wpIn;refine ⟨by simp [Oper.about,ho],?_⟩;rw [VE F _ _ (by rw [ho];intro c h;cases h)];simp [execOp,ho,e,f,C6 w z g l hl,Result.andThen];exact b _ _ h
def C7 (X:ZU) (a:Addr):(Instr.storeAt 231 (Z6 (ZX a)) (.agg #[])).run ZN X=.ok () X:=by kernel_rfl
def AF {F:Fence} (d:o.guard=ZY) (x y:Operand) (ho:o.op=.store 231 x y) {ad:Addr}
 (e:a.eval x=Z6 (ZX ad)) (f:a.eval y=.agg #[]) (h:wpListIn F n ZN ops Q rest (a.put o.dst ZZ) w):wpListIn F n ZN ops Q (o::rest) a w:=by
 refine Yh d λK b=>?_;unfold Oper.wpIn;refine ⟨by simp [Oper.about,ho],?_⟩;rw [VE F _ _ (by rw [ho];intro c h;cases h)];simp [execOp,ho,e,f,C7,Result.andThen];exact b _ _ h
def Mn {fn:Func} {R:ZQ->ZU->Prop} (hr:fn.results=#[]) (b:a.defers=[{ target:=.collected D',args:=#[] }])
 (hK:Z.heap[D']?=ZX (.deferred (ZX []))) (hR:R (Z3 (Z0 #[])) (Z.putObj D' (.deferred ZY))):bodyPostM Fence.wide n ZN fn R .normal a Z:=by
 obtain ⟨d,c⟩:=a;simp only at b;subst b;refine ⟨by simp,.inl ⟨_,_,rfl,WE hK,?_⟩⟩;refine ⟨Z0 #[],?_,hR⟩;simp [results,hr]
def Kn (w:ZU) (base:Nat) (f0 f:Nat->ZT) (R:Nat->a8) (ds:a8):Prop:=(∀ i,i∉ds->f i=f0 i)/\∀ i,i∈ds->∃ bl,f i=Z5 (ZX ⟨bl,0,ZY⟩) 44 44/\base<=bl/\bl<w.heap.size/\w.heap[bl]?=ZX (Z4 (aI (R i)).toArray 213 (0,0))
def Kn.keep (h:Kn w base f0 f R ds) (d:w.heap.size<=w'.heap.size) (c:∀ k o,base<=k->w.heap[k]?=ZX o->o.isCells=ZW->w'.heap[k]?=ZX o):Kn w' base f0 f R ds:=by
 refine ⟨h.1,λi b=>?_⟩;obtain ⟨bl,e,a,g,j⟩:=h.2 i b;exact ⟨bl,e,a,T9 g d,c bl _ a j rfl⟩
def Kn.nil (w:ZU) (base:Nat) (f0:Nat->ZT) (R:Nat->a8):Kn w base f0 f0 R []:=⟨λ_ _=>rfl,λ_ h=>by cases h⟩
def DR (S x:Nat):Nat:=S &&& (18446744073709551615-x)
def GR (S x:Nat) (a:S<65536) (b:x<65536):bits .andNot .u64 (S:Int) (x:Int)=(DR S x:Int):=YC S x (by omega) (by omega)
def Fk (x:Nat) (a:S<65536):DR S x<65536:=Xj WT a
theorem sA (d:x<65536):i∈ab (DR S x)↔i∈ab S/\x.testBit i=ZV:=by
 rw [cZ,cZ];unfold DR;have e:(18446744073709551615-x).testBit i=(decide (i<64) && !x.testBit i):=by
  have:=Xy (x:=x) (n:=64) (by omega) i;rwa [show 2^64-(x+1)=18446744073709551615-x by omega] at this
 rw [XC,e];constructor
 . rintro ⟨b,a⟩;simp at a;exact ⟨⟨b,a.1⟩,a.2.2⟩
 . rintro ⟨⟨b,a⟩,c⟩;refine ⟨b,?_⟩;simp [a,c];omega
def AG:Nat->ZT:=λ_=>Z5 ZY 0 0
def wg (ds l:a8):a8:=l.filter λi=>decide (i∉ds)
def Ri (h:i∈ds):wg ds (l++[i])=wg ds l:=by unfold wg;rw [Wr];simp [h]
def mH (h:i∉ds):wg ds (l++[i])=wg ds l++[i]:=by unfold wg;rw [Wr];simp [h]
def GS:i∈wg ds l↔i∈l/\i∉ds:=by unfold wg;rw [Vv];simp
def C8:∃ z,∀ w:ZU,(Instr.typeAssert .nilIface 215 213 ZW).run ZN w=.ok (Z0 #[z,.bool ZV]) w:=by
 exact ⟨.agg (YG 44 (Z7 .u8 0)).toArray,λw=>by kernel_rfl⟩
def C9:∃ z,∀ w:ZU,(Instr.typeAssert .nilIface 215 231 ZW).run ZN w=.ok (Z0 #[z,.bool ZV]) w:=by
 exact ⟨.agg #[],λw=>by kernel_rfl⟩
def gnB (A:aC) (b i:Nat):Bool:=A.lost i || A.bad i b || A.bl i b
def DS (A:aC) (b:Nat) (ds:a8):a8:=ds.filter λi=>!gnB A b i
def Rj (ds:a8) {d:Nat} (h:gnB A b d=ZW):DS A b (ds++[d])=DS A b ds:=by unfold DS;rw [Wr];simp [h]
def GT (ds:a8) {d:Nat} (h:gnB A b d=ZV):DS A b (ds++[d])=DS A b ds++[d]:=by unfold DS;rw [Wr];simp [h]
def mJ:d∈DS A b ds↔d∈ds/\gnB A b d=ZV:=by unfold DS;rw [Vv];simp
def Mo (h:gnB A b d=ZV):A.R5 d b=ZX (A.rc d b):=by
 unfold gnB at h;simp only [XO] at h;unfold aC.R5 aC.rd;rw [h.1.1,h.1.2,h.2];rfl
def Mp (h:gnB A b d=ZW):(A.lost d=ZW/\A.R5 d b=ZY)\/(A.lost d=ZV/\A.R5 d b=ZY)\/(A.lost d=ZV/\A.R5 d b=ZX .blank):=by
 unfold gnB at h;unfold aC.R5 aC.rd;cases hl:A.lost d<;>cases hb:A.bad d b<;>cases hk:A.bl d b<;>simp [hl,hb,hk] at h ⊢
def Jb:∃ z,∀ w:ZU,(Instr.typeAssert (cF .blank) 215 213 ZW).run ZN w=.ok (Z0 #[z,.bool ZV]) w:=by
 exact ⟨.agg (YG 44 (Z7 .u8 0)).toArray,λw=>by kernel_rfl⟩
def Jc (w:ZU):(Instr.typeAssert (cF .blank) 215 231 ZW).run ZN w=.ok (Z0 #[.agg #[],.bool ZW]) w:=by kernel_rfl
def VrK (p d b:Nat) (A:aC) (F:aH) (w:ZU) (Y:ZT) (w':ZU):Prop:=
 az w' p A F/\aa F.S w w'/\dA F A.n w w' (λi=>if i=d then 1 else 0)/\(ZR ZN 76 #[Y,.iface 66 (Z7 Z9 11)] w' λe w''=>e=Z3 (.bool (A.lost d))/\w''=w')/\(A.R5 d b≠ZY->Y=.nilIface)
def Jd {v:Nat} (j:bt w v p D L G ps ho) (h:az w p A F) (d b:Nat) (l:d<A.n) (k:b<A.nb) (o:bh w) (m:¬ F.S 2) :
 ZR ZN 120 #[Z6 (ZX ⟨v,0,ZY⟩),Z7 Z9 d,Z7 Z9 b] w λe w'=>∃ Y,e=Z3 (Z0 #[fU (A.R5 d b),Y])/\VrK p d b A F w Y w':=by
 refine (qT j h d b l k o m).mono ?_;rintro e w' ⟨a,c,g,⟨r,hr,rfl⟩|⟨hr,q,rfl,s,i⟩⟩
 . refine ⟨.nilIface,by rw [hr];rfl,a,c,g,?_⟩;have hl:A.lost d=ZV:=(by cases h:A.lost d;rfl;unfold aC.R5 at hr;rw [TX h] at hr;cases hr);rw [hl];exact ⟨zO 11 w',λ_=>rfl⟩
 . refine ⟨r9 q,by rw [hr];rfl,a,c,g,?_⟩;have f:=BW i 11;cases hl:A.lost d<;>(rw [hl] at f;exact ⟨f,λq=>absurd hr q⟩)
structure FgI (w:ZU) (r v b g N p D L G ps ho gone sp B0:Nat) (ds:a8) (A:aC) (F:aH) (M:Nat->a8) (B S:Nat) (pre:List (Mb S)) (X:ZU):Prop where
 b2:ZO X w.heap.size 170 (Z6 (ZX ⟨r,0,ZY⟩))
 rd:eY X r v b g N (gone|||kD (gnB A b) (wg ds (dB pre))) sp
 vol:∃ h,h<2^N/\bt X v p D L G ps h
 row:∃ f,X.rowIs g 40 N f/\Kn X B0 AG f M (ds++DS A b (wg ds (dB pre)))
 arr:az X p A F
 out:aa (λk=>k=g\/k=r\/k=v\/F.S k) w X
 size:B<=X.heap.size
 seen:dA F A.n w X λi=>(wg ds (dB pre)).count i
def FgI.own {v:Nat} {M:Nat->a8} (K:w.heap.size+1<=B) (O:g<w.heap.size) (hr:r<w.heap.size) (P:v<w.heap.size) (j:∀ k,F.S k->k<w.heap.size):OwnFrom B (FgI w r v b g N p D L G ps ho gone sp B0 ds A F M B S):=by
 rintro pre X Y row ⟨n,q,⟨m,E,J⟩,⟨f,s,z⟩,d,t,u,x⟩ a l;have c:∀ k,k<w.heap.size+1->Y.heap[k]?=X.heap[k]?:=λk c=>a.block k (by omega) (λe=>by have:=(l k e.symm).1;omega);refine ⟨(c _ (by omega)).trans n,q.keep (c _ (by omega)),⟨m,E,J.keep (c _ (by omega))⟩,⟨f,s.of_block (c _ (by omega)),z.keep a.size λk o _ ho y=>?_⟩,d.keep λk C=>c k (by have:=j k C;omega),t.later (T:=λk=>w.heap.size<=k) ⟨a.os,a.tape,a.output,a.size,λk H I=>c k (by omega)⟩ (λk H I=>by omega),TZ u a.size,x.keep (c _ (by have:=j _ d.sg;omega))⟩;refine (a.block k (T5.1 ho).1 (λe=>?_)).trans ho;obtain ⟨_,Q,i,h⟩:=l k e.symm;rw [ho] at i;cases i;rw [y] at h;cases h
structure Rk (w:ZU) (r v b g N p D L G ps ho gone sp B0:Nat) (ds:a8) (A:aC) (F:aH) (M:Nat->a8) (nw:a8) (e:ZQ) (w':ZU):Prop where
 ret:e=Z3 (Z0 #[])
 rd:eY w' r v b g N (gone|||kD (gnB A b) nw) sp
 vol:∃ h,h<2^N/\bt w' v p D L G ps h
 row:∃ f,w'.rowIs g 40 N f/\Kn w' B0 AG f M (ds++DS A b nw)
 arr:az w' p A F
 out:aa (λk=>k=g\/k=r\/k=v\/F.S k) w w'
 seen:dA F A.n w w' λi=>nw.count i
theorem Je {v:Nat} {M:Nat->a8} (s:pH w v p D L G ps ho A F) (hb:b<A.nb) (hM:∀ i,i<A.n->A.rc i b=.shard (M i)/\(M i).length=44) (hr:eY w r v b g N gone sp) (kj:w.rowIs g 40 N f0) (x9:Kn w B0 AG f0 M ds) (T:Nat) (hT:T<65536) (x6:gone<65536) (y6:sp<65536) (yc:∀ i,i∈ab T->i<N/\i<A.n)
 (yj:ho<2^N) (x1:N<=16) (qc:v≠r) (z6:3<=r) (z9:3<=v) (qn:¬ F.S g) (q0:¬ F.S r) (x7:r≠g) (xy:v≠g) (z3:3<=g) (qy:B0<=w.heap.size) (z0:g<B0) (z5:r<B0) (z8:v<B0) (qi:∀ k,F.S k->k<B0) :
 ZR ZN 111 #[Z6 (ZX ⟨r,0,ZY⟩),Z7 Z8 T] w (Rk w r v b g N p D L G ps ho gone sp B0 ds A F M (wg ds (ab (DR (DR T gone) sp)))):=by
 obtain ⟨S1,q7⟩:=nM (DR T gone);obtain ⟨S,qj⟩:=nM (DR S1 sp);have qo:=GR T gone hT x6;have qp:=GR S1 sp (by rw [<- q7];exact Fk _ hT) y6;have B:S<65536:=by rw [<- qj,<- q7];exact Fk _ (Fk _ hT)
 rw [q7] at qo ⊢;rw [qj] at qp ⊢;have yb:∀ i,i∈ab S->i∈ab T:=λi a=>by
  rw [<- qj] at a;have:=((sA y6).1 a).1;rw [<- q7] at this;exact ((sA x6).1 this).1
 clear q7 qj;obtain ⟨n,HN⟩:∃ n:Nat,cJ (9<=n):=⟨9,TY _⟩;have ks:∀ k,F.S k->k<w.heap.size:=λk m=>T9 (qi k m) qy;have yi:=kj.lt;have yp:=hr.lt;have yr:=s.vol.lt;refine (Vj (n:=n)).1 ?_;refine Wo func111 rfl trivial ?_ rfl;simp only [ntmps111,UL,UG,U0,YM,YN,Vr,Vs,Vt,Vu,Ut,UX];gi_wp2;obtain ⟨w1,qe⟩:=nM (w.alloc (Z4 #[Z6 (ZX ⟨r,0,ZY⟩)] 170));have h2:ZO w1 w.heap.size 170 (Z6 (ZX ⟨r,0,ZY⟩)):=by rw [<- qe];exact UH w _ _
 have xh:w1.heap.size=w.heap.size+1:=by rw [<- qe];simp
 have qk:bW w w1:=by rw [<- qe];exact bA w _
 rw [qe];clear qe;have qb:=hr.keep (qk.block _ hr.lt);have c3:=qb.cells.2.2.2.1;have c4:=qb.cells.2.2.2.2;refine eC PL 99 [(0,ZW),(1,ZW),(2,ZW),(3,ZW),(4,ZW),(5,ZW),(6,ZW),(7,ZW),(8,ZW),(9,ZW),(10,ZW),(11,ZV)] (λw'=>w'.cell? ⟨w.heap.size,0,ZY⟩=ZX (Z6 (ZX ⟨r,0,ZY⟩))/\w'.cell? ⟨r,3,ZY⟩=ZX (Z7 Z8 gone)/\w'.cell? ⟨r,4,ZY⟩=ZX (Z7 Z8 sp)) (by kernel_rfl) (by kernel_rfl) ⟨h2.cell,c3,c4⟩ ?_;iterate 11 (refine aZ rfl rfl ?_;apply YI;refine ⟨λw' B=>?_,?_⟩;(obtain ⟨s1,s2,s3⟩:=B;first|(go_simp;done)|(go_simp;exact rfl));simp only [Act.put,Ug,Uf,Uh])
 refine jF PL (dN S w1.drew) rfl rfl nofun (by go_simp) ?_;rintro e w6 ⟨rfl,qf⟩;have he:bW w1 w6:=by rw [qf];exact (T6 _ w1).drew.alloc lR _
 have c5:=(qb.keep (he.block _ qb.lt)).cells.2.2.2;refine ⟨_,rfl,λ_=>⟨XJ ((he.block _ h2.lt).trans h2),c5.1,c5.2⟩,gS ?_⟩;clear qo qp c3 c4 c5 he;have xj:w6.heap.size=w1.heap.size+1:=by rw [qf];simp
 have xq:w6.cell? ⟨w1.heap.size,0,ZY⟩=ZX (Z7 Z8 (S:Int)):=by rw [qf];exact (UH w1.drew 133 (Z7 Z8 (S:Int))).cell
 have he:bW w1 w6:=by rw [qf];exact (T6 _ w1).drew.alloc lR _
 have k5:bW w w6:=qk.trans (he.mono qk.size);have y2:wg ds (dB ([]:List (Mb S)))=[]:=rfl;have xz:FgI w r v b g N p D L G ps ho gone sp B0 ds A F M (w1.heap.size+1) S [] w6:=
  ⟨(he.block _ h2.lt).trans h2,by rw [y2,show kD (gnB A b) []=0 from rfl,Nat.or_zero];exact hr.keep (k5.block _ hr.lt),⟨ho,yj,s.vol.keep (k5.block _ s.vol.lt)⟩,⟨f0,kj.of_block (k5.block _ kj.lt),by rw [y2,show DS A b []=[] from rfl,Wk];exact x9.keep k5.size λk o _ ho _=>(k5.block k (T5.1 ho).1).trans ho⟩,s.arr.below k5 lR,aa.RT k5 _,by omega,(dA.same (k5.block _ (s.arr.RS s.arr.sg))).mono λ_ _=>T7 _⟩
 have y8:=ak xq;have qv:=al xz k5;have HZ:=al xh xj;clear xq xz h2 qk k5 he qb qf xh;rename_i hK
 refine hK _ _ ?_;clear hK;simp only [Act.put,Ug,Uf,Uh];gi_wp2;obtain ⟨xh,yx,xj⟩:w.heap.size+1<=w1.heap.size/\w1.heap.size<=w.heap.size+1/\w6.heap.size=w1.heap.size+1:=by have:=HZ.o;omega
 rw [<- xj] at qv;refine Wp rfl (by have:=HN.o;omega) (gf:=147) (lb:=#[Z6 (ZX ⟨w1.heap.size,0,ZY⟩)]) rfl trivial (VC func147 (by kernel_rfl) rfl)
  (nt (n-1) w1.heap.size S B w6 (by omega) y8.out (by have:=s.room;omega) (s.tab.mono (by exact s.tab.lt) qv.out.2)) (λh k=>qK h k) (qM (by have:=s.room;omega)) (T6 _ _) (λ_=>rfl)
  (FgI w r v b g N p D L G ps ho gone sp B0 ds A F M w6.heap.size S) (λ_ _ _=>False) (FgI.own (by omega) yi yp yr ks) (λ_ _ _ _ _ h _ _=>h.elim) qv.out.1
  (λx=>{ tmps:=#[Z6 (ZX ⟨r,0,ZY⟩),Z7 Z8 (T:Int),Z6 (ZX ⟨w.heap.size,0,ZY⟩),ZZ,Z7 Z9 (x.1:Int),ZZ,ZZ,ZZ,ZZ,Z7 Z8 (T:Int),Z6 (ZX ⟨r,0,ZY⟩),Z6 (ZX ⟨r,0,ZY⟩),Z6 (ZX ⟨r,3,ZY⟩),Z7 Z8 (gone:Int),Z7 Z8 (S1:Int),Z6 (ZX ⟨r,0,ZY⟩),Z6 (ZX ⟨r,0,ZY⟩),Z6 (ZX ⟨r,4,ZY⟩),Z7 Z8 (sp:Int),Z7 Z8 (S:Int),.func (.func 147) #[] #[Z6 (ZX ⟨w1.heap.size,0,ZY⟩)],Z7 Z9 (x.1:Int),ZZ,ZZ,ZZ,ZZ,ZZ,ZZ,ZZ,ZZ,ZZ,ZZ,ZZ,ZZ,ZZ,ZZ,ZZ,ZZ,ZZ,ZZ,ZZ,ZZ,ZZ,ZZ,ZZ,ZZ,ZZ,ZZ,ZZ,ZZ,ZZ,ZZ,ZZ,ZZ,ZZ,ZZ,ZZ,ZZ,ZZ,ZZ,ZZ,ZZ,ZZ,ZZ,ZZ,ZZ,ZZ,ZZ,ZZ,ZZ,ZZ,ZZ,ZZ,ZZ,ZZ,ZZ,ZZ,ZZ,ZZ,ZZ,ZZ,ZZ,ZZ,ZZ,ZZ,ZZ,ZZ,ZZ,ZZ,ZZ,ZZ,ZZ,ZZ,ZZ,ZZ,ZZ,ZZ,ZZ,ZZ,ZZ],defers:=[] }) ?assign ?body ?done ?stop
 case assign=>
  intro l2 x X Kk hK;unfold xL;gi_wp2;exact hK
 case body=>
  rintro l2 pre x X a xa;clear xa;have ys:x.1∈ab S:=cZ.2 x.2;obtain ⟨qs,y7⟩:=yc _ (yb _ ys);have qx:=a.b2.lt;have c2:=a.b2.cell;obtain ⟨c0,c1,cs,c3,c4⟩:=a.rd.cells;obtain ⟨f,E,H⟩:=a.row;have cg:=E.cell (i:=x.1) qs;have y4:¬ F.S w.heap.size:=λq=>by have:=ks _ q;omega
  have W:=a.arr;have yn:∀ d∈wg ds (dB pre),d<16:=λd hd=>by replace hd:=(GS.1 hd).1;unfold dB at hd;obtain ⟨y,_,rfl⟩:=Ua.1 hd;exact y.2.1
  have y1:=zT (gnB A b) _ yn;obtain ⟨gn,x5⟩:=nM (kD (gnB A b) (wg ds (dB pre)));have I:=a.rd;obtain ⟨hl,qa,J⟩:=a.vol;have yk:hl<65536:=T9 qa (U9 (n:=2) (by decide) x1);rw [x5] at y1 I;by_cases hy:x.1∈ds++DS A b (wg ds (dB pre))
  . obtain ⟨bl,yd,ye,yf,yg⟩:=H.2 _ hy;rw [yd] at cg;have HI:=ak a;have HK:=ak H;have HR:=ak E;clear a H E W I J;gi_wp2;rename_i q6
    refine q6 _ _ ?_;clear q6;simp only [Act.put,Ug,Uf,Uh,Bool.not_false];gi_wp2;have a:=HI.o;refine ⟨⟨TY _,λk o _ ho _=>ho⟩,λ_=>s.tab.keep (a.out.block _ s.tab.lt (λq=>by rcases q with q|q|q|q;omega;omega;omega;exact s.t q)),?_⟩;by_cases k9:x.1∈ds
    . refine ⟨a.b2,?_,a.vol,⟨f,HR.o,?_⟩,a.arr,a.out,a.size,?_⟩<;>rw [eM,Ri k9]
      . exact a.rd
      . exact HK.o
      . exact a.seen
    . have ka:=(mJ.1 ((Un.1 hy).resolve_left k9)).2;refine ⟨a.b2,?_,a.vol,⟨f,HR.o,?_⟩,a.arr,a.out,a.size,a.seen.mono λi _=>?_⟩<;>rw [eM,mH k9];rotate_left 2
      . rw [Y6];omega
      . rw [zR _ ka];exact a.rd
      . rw [GT _ ka,<- UC];refine ⟨λi kb=>HK.o.1 i (λq=>kb (UO _ q)),λi kb=>HK.o.2 i ?_⟩;rcases Un.1 kb with q|q
        . exact q
        . rw [Vn.1 q];exact hy
  . have yh:f x.1=Z5 ZY 0 0:=H.1 _ hy;rw [yh] at cg;have k9:x.1∉ds:=λq=>hy (UO _ q);have h5:bh X:=s.laid.keep (a.out.block _ s.laid.lt (λq=>by rcases q with q|q|q|q;omega;omega;omega;exact s.g q));have HI:=hide7 a H E W I J h5;clear a H E W I J h5;gi_wp2;rename_i q6
    refine q6 _ _ ?_;clear q6;simp only [Act.put,Ug,Uf,Uh];gi_wp2;obtain ⟨a,H,E,W,I,J,h5⟩:=HI.o;have z4:gone|||gn<65536:=WG (n:=16) x6 y1;have qm:bW X X.drew:=(T6 _ X).drew;have xe:∀ w',aa F.S X w'->w'.cell? ⟨w.heap.size,0,ZY⟩=ZX (Z6 (ZX ⟨r,0,ZY⟩))/\w'.cell? ⟨r,0,ZY⟩=ZX (Z6 (ZX ⟨v,0,ZY⟩))/\w'.cell? ⟨r,1,ZY⟩=ZX (Z7 Z9 b):=λw' hO=>⟨XJ ((hO.block _ qx y4).trans a.b2),(a.rd.keep (hO.block _ a.rd.lt q0)).cells.1,(a.rd.keep (hO.block _ a.rd.lt q0)).cells.2.1⟩;refine eC (fV _) 99 [(0,ZW),(1,ZW),(2,ZW),(3,ZW),(4,ZW),(5,ZW),(6,ZW),(7,ZW),(8,ZW),(9,ZV),(10,ZW),(11,ZW),(12,ZW),(13,ZW),(14,ZW)] (λw'=>w'.cell? ⟨w.heap.size,0,ZY⟩=ZX (Z6 (ZX ⟨r,0,ZY⟩))/\w'.cell? ⟨r,0,ZY⟩=ZX (Z6 (ZX ⟨v,0,ZY⟩))/\w'.cell? ⟨r,1,ZY⟩=ZX (Z7 Z9 b)) (by kernel_rfl) (by kernel_rfl) (xe _ (aa.drew X)) ?_;iterate 9 (refine aZ rfl rfl ?_;apply YI;refine ⟨λw' B=>?_,?_⟩;(obtain ⟨s1,s2,s3⟩:=B;first|(go_simp;done)|(go_simp;exact rfl));simp only [Act.put,Ug,Uf,Uh])
    refine jF (fV _) (Jd (J.keep (qm.block _ J.lt)) (W.below qm lR) x.1 b y7 hb (h5.below qm h5.lt) s.g) rfl rfl nofun (by go_simp) ?_;rintro e w2 ⟨Y,rfl,xn,ke,qd,qz,q8⟩;refine ⟨_,rfl,λ_=>xe _ ((aa.drew X).trans ke),?_⟩;simp only [Act.put,Ug,Uf,Uh];iterate 5 (refine aZ rfl rfl ?_;apply YI;refine ⟨λw' B=>?_,?_⟩;(obtain ⟨s1,s2,s3⟩:=B;first|(go_simp;done)|(go_simp;exact rfl));simp only [Act.put,Ug,Uf,Uh])
    refine gS ?_;have Q:aa (F.S) X w2:=(aa.drew X).trans ke;have qq:∀ k,B0<=k->k<X.heap.size->w2.heap[k]?=X.heap[k]?:=λk m Z=>Q.block k Z (λq=>by have:=qi k q;omega);have k6:=ak xn;have xv:∀ i,(wg ds (dB pre)).count i+(if i=x.1 then 1 else 0)<=(wg ds (dB (pre++[x]))).count i:=λi=>by
     rw [eM,mH k9,Y6,List.count_singleton];by_cases e:i=x.1
     . subst e;simp
     . rw [TW e];omega
    have xk:=ak (a.seen.trans (qd.after rfl));clear qd;have qg:=al Q qq;clear a H E W I J h5 xn Q ke qq c0 c1 cs c3 c4 cg c2 qm xe;rename_i hK
    refine hK _ _ ?_;clear hK;have q9:∀ z,gnB A b x.1=ZW->eY z r v b g N (gone|||gn|||2^x.1) sp->(∃ h,h<2^N/\bt z v p D L G ps h)->aa (λk=>k=r\/k=v) w2 z->(X.heap.size<=z.heap.size/\∀ k,w.heap.size<=k->k<X.heap.size->z.heap[k]?=X.heap[k]?)/\aJ z/\FgI w r v b g N p D L G ps ho gone sp B0 ds A F M w6.heap.size S (pre++[x]) z:=λz xx xd yq kf=>by
     obtain ⟨a,H,E,_⟩:=HI.o;have y3:∀ k,F.S k->¬ (k=r\/k=v):=λk m e=>by rcases e with e|e;exact q0 (by rw [<- e];exact m);exact s.v (by rw [<- e];exact m)
     have y9:=k6.out.keep λk m=>kf.block k (k6.out.RS m) (y3 k m);have kg:aa (λk=>k=r\/k=v\/F.S k) X z:=(qg.out.1.mono λ_ _ q=>.inr (.inr q)).trans (kf.mono λ_ _ q=>q.elim .inl λq=>.inr (.inl q));have xo:aa (λk=>k=g\/k=r\/k=v\/F.S k) w z:=a.out.trans (kg.mono λ_ _ q=>.inr q);have xp:∀ k,w.heap.size<=k->k<X.heap.size->z.heap[k]?=X.heap[k]?:=λk m Z=>kg.block k Z (λq=>by rcases q with q|q|q;omega;omega;have:=ks k q;omega);refine ⟨⟨kg.size,xp⟩,s.tab.keep (xo.block _ s.tab.lt (λq=>by rcases q with q|q|q|q;omega;omega;omega;exact s.t q)),?_⟩;have Z:∀ k,B0<=k->k<X.heap.size->z.heap[k]?=X.heap[k]?:=λk m Z=>kg.block k Z (λq=>by rcases q with q|q|q;omega;omega;have:=qi k q;omega);exact ⟨(xp _ lR qx).trans a.b2,by rw [eM,mH k9,zS _ xx,x5,<- Nat.or_assoc];exact xd,yq,⟨f,E.of_block (kg.block _ E.lt (λq=>by rcases q with q|q|q;exact x7 q.symm;exact xy q.symm;exact qn q)),by rw [eM,mH k9,Rj _ xx];exact H.keep kg.size λk o m ho _=>(Z k m (T5.1 ho).1).trans ho⟩,y9,xo,TZ a.size kg.size,(xk.out.out k6.out kf (y3 _ k6.out.sg)).mono λi _=>xv i⟩
    have HF:=ak q9;clear q9;obtain ⟨x0,kh⟩:=hM _ y7;cases ka:gnB A b x.1 with
    | false=>
     rw [Mo ka,x0];obtain ⟨l,y5⟩:=nM (M x.1);rw [y5] at kh ⊢;clear x0 qz HF q8;have z7:=Mm;simp only [fU,cF];gi_wp2_with (show wpListIn _ _ _ _ _ ({ dst:=ZY,op:=Op.store 213 (Z2 7) (Z2 46),type:=_,pos:=_,after:=_,guard:=_ }::_) _ _;refine AE (w:=w2) (l:=l) rfl (Z2 7) (Z2 46) rfl (by rfl) (by rfl) (by rfl) kh ?_)
     obtain ⟨Q,qq⟩:=qg.out;obtain ⟨a,H,E,W,I,J,h5⟩:=HI.o;have yz:X.heap.size<=w2.heap.size:=Q.size;have hj:bW w2 (w2.alloc (Z4 (aI (l)).toArray 213)):=bA w2 _;have xb:(w2.alloc (Z4 (aI (l)).toArray 213)).heap[w2.heap.size]?=ZX (Z4 (aI (l)).toArray 213 (0,0)):=Uk _ _;have yy:(w2.alloc (Z4 (aI (l)).toArray 213)).heap.size=w2.heap.size+1:=(by simp);obtain ⟨c,k8⟩:=nM (w2.alloc (Z4 (aI (l)).toArray 213));rw [k8] at hj xb yy ⊢;have kv:∀ k,k<X.heap.size->¬ F.S k->c.heap[k]?=X.heap[k]?:=λk m ym=>(hj.block k (by omega)).trans (Q.block k m ym);have x4:∀ k,B0<=k->k<X.heap.size->c.heap[k]?=X.heap[k]?:=λk m Z=>kv k Z (λq=>by have:=qi k q;omega);have hg:c.rowIs g 40 N f:=E.of_block (kv g E.lt qn);have h7:c.cell? ⟨w.heap.size,0,ZY⟩=ZX (Z6 (ZX ⟨r,0,ZY⟩)):=XJ ((x4 _ qy (by omega)).trans a.b2);have hz:=(I.keep (kv r I.lt q0)).cells.2.2.1;have qr:=hg.cell (i:=x.1) qs;have zd:=hg.frozen x.1;refine eC (fV _) 99 [(0,ZW),(1,ZW),(2,ZW),(3,ZW),(4,ZW),(5,ZW),(6,ZW),(7,ZW),(8,ZV)] (λw'=>w'.cell? ⟨w.heap.size,0,ZY⟩=ZX (Z6 (ZX ⟨r,0,ZY⟩))/\w'.cell? ⟨r,2,ZY⟩=ZX (Z5 (ZX ⟨g,0,ZY⟩) N N)) (by kernel_rfl) (by kernel_rfl) ⟨h7,hz⟩ ?_;iterate 8 (refine aZ rfl rfl ?_;apply YI;refine ⟨λw' B=>?_,?_⟩;(obtain ⟨s1,s2⟩:=B;first|(go_simp;done)|(go_simp;exact rfl));simp only [Act.put,Ug,Uf,Uh])
     refine nT (fV _) (w1:=c.drew.setCell ⟨g,x.1,ZY⟩ (Z5 (ZX ⟨w2.heap.size,0,ZY⟩) 44 44)) rfl rfl nofun (by go_simp) (λ_=>⟨(Uo (Uj _ _ _ _ (by show w.heap.size≠g;omega))).trans h7,(Uo (Uj _ _ _ _ x7)).trans hz⟩) (gS ?_);obtain ⟨u,R⟩:∃ u,u=c.drew.setCell ⟨g,x.1,ZY⟩ (Z5 (ZX ⟨w2.heap.size,0,ZY⟩) 44 44):=⟨_,rfl⟩;rw [<- R];clear h7 hz qr zd;have hf:∀ k,k≠g->u.heap[k]?=c.heap[k]?:=λk m=>by rw [R];exact Uj _ _ _ _ m
     have za:u.heap.size=c.heap.size:=(by rw [R];simp [World.setCell]);have hh:=hg.set x.1 (Z5 (ZX ⟨w2.heap.size,0,ZY⟩) 44 44);have k0:u.rowIs g 40 N (λi=>if i=x.1 then Z5 (ZX ⟨w2.heap.size,0,ZY⟩) 44 44 else f i):=(by rw [R];exact hh);have kx:∀ k,B0<=k->k<X.heap.size->u.heap[k]?=X.heap[k]?:=λk m Z=>(hf k (by omega)).trans (x4 k m Z);have C:aa (λk=>k=g\/k=r\/k=v\/F.S k) w u:=by
      have h3:aa (λk=>k=g\/k=r\/k=v\/F.S k) w c:=(a.out.trans (Q.mono λ_ _ q=>.inr (.inr (.inr q)))).trans (aa.RT hj _);rw [R];exact (h3.trans (aa.drew c)).trans (aa.setCell _ _ _ (.inl rfl))
     have qh:=k6.out.keep λk m=>by
      have:=ks k m;exact (hf k (λe=>qn (by rw [<- e];exact m))).trans (hj.block k (by omega))
     have k7:Kn u B0 AG (λi=>if i=x.1 then Z5 (ZX ⟨w2.heap.size,0,ZY⟩) 44 44 else f i) M (ds++DS A b (wg ds (dB pre))++[x.1]):=by
      have y0:=H.keep (w':=u) (by omega) λk o m ho _=>(kx k m (T5.1 ho).1).trans ho;refine ⟨λi kb=>?_,λi kb=>?_⟩
      . have h1:i≠x.1:=λe=>kb (by rw [e];simp);show (if i=x.1 then _ else f i)=_;rw [TW h1];exact y0.1 i (λq=>kb (UO _ q))
      . show ∃ bl,(if i=x.1 then _ else f i)=_/\_;by_cases e:i=x.1
        . rw [TX e,e,y5];exact ⟨w2.heap.size,rfl,by omega,by omega,(hf _ (by omega)).trans xb⟩
        . rw [TW e];rcases Un.1 kb with q|q
          . exact y0.2 i q
          . exact absurd (Vn.1 q) e
     have H4:=a6 k0 kx C qh k7;have xc:=ak (I.keep ((hf r x7).trans (kv r I.lt q0)));have xg:=ak (J.keep ((hf v xy).trans (kv v J.lt s.v)));have xf:=ak (xk.out.keep ((hf F.g (λe=>qn (e▸k6.out.sg))).trans (hj.block _ (k6.out.RS k6.out.sg))));have xi:X.heap.size<=u.heap.size:=(by omega);clear hh k0 kx C qh k7 hf R hg kv x4 hj xb a H E W I J h5 Q qq k8 qg k6;rename_i hK
     refine hK _ _ ?_;clear hK;simp only [Act.put,Ug,Uf,Uh];gi_wp2;obtain ⟨hh,kx,C,qh,k7⟩:=H4.o;have a:=HI.o.1;have zc:=a.size;refine ⟨⟨xi,λk o m ho _=>(kx k (by omega) (T5.1 ho).1).trans ho⟩,λ_=>s.tab.keep (C.block _ s.tab.lt (λq=>by rcases q with q|q|q|q;omega;omega;omega;exact s.t q)),?_⟩;exact ⟨(kx _ qy (by omega)).trans a.b2,by rw [eM,mH k9,zR _ ka,x5];exact xc.out,⟨_,qa,xg.out⟩,⟨_,hh,by rw [eM,mH k9,GT _ ka,<- UC];exact k7⟩,qh,C,by omega,xf.out.mono λi _=>xv i⟩
    | true=>
     have HS:=ak qz;have U:cJ (eY w2 r v b g N (gone|||gn) sp/\bt w2 v p D L G ps hl/\ZO w2 w.heap.size 170 (Z6 (ZX ⟨r,0,ZY⟩))):=by
      have Q:=qg.out.1;obtain ⟨a,H,E,W,I,J,h5⟩:=HI.o;exact ak ⟨I.keep (Q.block _ I.lt q0),J.keep (Q.block _ J.lt s.v),(Q.block _ qx y4).trans a.b2⟩
     clear qz x0 kh;rcases Mp ka with ⟨ki,kc⟩|⟨ki,kc⟩|⟨ki,kc⟩<;>(
      rw [kc];rw [ki] at HS
      (first
       | (have q:A.lost x.1=ZW:=ki
          clear q kc ki q8;obtain ⟨z1,kp⟩:=C8;obtain ⟨z2,kr⟩:=C9;simp only [fU];gi_wp2;refine dH HS.o ?_;rintro e c ⟨rfl,k8⟩;subst k8;gi_wp2;obtain ⟨K,O,P⟩:=U.o;have cb:=P.cell;have V:=K.cells.1;have c5:=O.cells.2.2.2.2.2;have f5:c.frozen? ⟨v,5,ZY⟩=ZV:=by
           have h':c.heap[v]?=_:=O;simp [World.frozen?,h']
          refine eC (fV _) 99 [(0,ZW),(1,ZW),(2,ZW),(3,ZW),(4,ZW),(5,ZW),(6,ZW),(7,ZW),(8,ZW),(9,ZW),(11,ZW),(10,ZV),(12,ZV),(13,ZW),(14,ZW),(15,ZV)] (λw'=>w'.cell? ⟨w.heap.size,0,ZY⟩=ZX (Z6 (ZX ⟨r,0,ZY⟩))/\w'.cell? ⟨r,0,ZY⟩=ZX (Z6 (ZX ⟨v,0,ZY⟩))) (by kernel_rfl) (by kernel_rfl) ⟨cb,V⟩ ?_;iterate 11 (refine aZ rfl rfl ?_;apply YI;refine ⟨λw' B=>?_,?_⟩;(obtain ⟨s1,s2⟩:=B;first|(go_simp;done)|(go_simp;exact rfl));simp only [Act.put,Ug,Uf,Uh])
          refine zE (fV _) (w1:=c.drew) (v:=Z7 Z8 (hl:Int)) rfl rfl nofun (by go_simp) (λ_=>⟨cb,V⟩) ?_;simp only [Act.put,Ug,Uf,Uh];refine jF (fV _) (fK hl x.1 (by omega) (by omega) c.drew) rfl rfl nofun (by go_simp) ?_;rintro e z ⟨rfl,rfl⟩;refine ⟨_,rfl,λ_=>⟨cb,V⟩,?_⟩;simp only [Act.put,Ug,Uf,Uh];iterate 2 (refine aZ rfl rfl ?_;apply YI;refine ⟨λw' B=>?_,?_⟩;(obtain ⟨s1,s2⟩:=B;first|(go_simp;done)|(go_simp;exact rfl));simp only [Act.put,Ug,Uf,Uh])
          refine nT (fV _) (w1:=c.drew.setCell ⟨v,5,ZY⟩ (Z7 Z8 ((hl|||2^x.1:Nat):Int))) rfl rfl nofun (by go_simp) (λ_=>⟨(Uo (Uj _ _ _ _ (by show w.heap.size≠v;omega))).trans cb,(Uo (Uj _ _ _ _ (λe=>qc e.symm))).trans V⟩) (gS ?_);clear cb V c5 f5;have kk:bt (c.drew.setCell ⟨v,5,ZY⟩ (Z7 Z8 ((hl|||2^x.1:Nat):Int))) v p D L G ps (hl|||2^x.1):=af (j:=5) O _;have C:aa (λk=>k=v) c (c.drew.setCell ⟨v,5,ZY⟩ (Z7 Z8 ((hl|||2^x.1:Nat):Int))):=(aa.drew c).trans (aa.setCell _ _ _ rfl);obtain ⟨u,R⟩:=nM (c.drew.setCell ⟨v,5,ZY⟩ (Z7 Z8 ((hl|||2^x.1:Nat):Int)));rw [R] at kk C ⊢;have q5:ZO u w.heap.size 170 (Z6 (ZX ⟨r,0,ZY⟩)):=(C.block _ P.lt (by omega)).trans P;have H4:=a6 (K.keep (C.block r K.lt (λe=>qc e.symm))) kk q5 (C.mono (T:=λk=>k=r\/k=v) λ_ _ q=>.inr q) (WG qa (VS (by decide) qs):hl|||2^x.1<2^N);clear K O P R kk C q5;rename_i hK
          refine hK _ _ ?_;clear hK;simp only [Act.put,Ug,Uf,Uh])
       | (have q:A.R5 x.1 b=ZY:=kc
          clear q kc ki q8;obtain ⟨z1,kp⟩:=C8;obtain ⟨z2,kr⟩:=C9;simp only [fU];gi_wp2;refine dH HS.o ?_;rintro e u ⟨rfl,k8⟩;subst k8;have H4:=a6 U.o.1 U.o.2.1 U.o.2.2 (aa.refl (λk=>k=r\/k=v) u) qa)
       | (have hY:=q8 (by rw [kc];nofun)
          subst hY;clear kc ki q8;obtain ⟨z1,kp⟩:=Jb;have kr:=Jc;simp only [fU,cF] at kp kr ⊢;gi_wp2_with (show wpListIn _ _ _ _ _ ({ dst:=ZY,op:=Op.store 231 (Z2 8) (Z2 57),type:=_,pos:=_,after:=_,guard:=_ }::_) _ _;refine AF rfl (Z2 8) (Z2 57) rfl (by rfl) (by rfl) ?_)
          have ky:bW w2 (w2.alloc (Z4 #[] 231)):=bA w2 _;obtain ⟨c,k8⟩:=nM (w2.alloc (Z4 #[] 231));rw [k8] at ky ⊢;have xm:ZO c w.heap.size 170 (Z6 (ZX ⟨r,0,ZY⟩)):=(ky.block _ U.o.2.2.lt).trans U.o.2.2;have H3:=aE (U.o.1.keep (ky.block _ U.o.1.lt)) (U.o.2.1.keep (ky.block _ U.o.2.1.lt)) xm;clear k8 xm;obtain ⟨K,O,P⟩:=H3.o;have cb:=P.cell;have V:=K.cells.1;have c5:=O.cells.2.2.2.2.2;have f5:c.frozen? ⟨v,5,ZY⟩=ZV:=by
           have h':c.heap[v]?=_:=O;simp [World.frozen?,h']
          refine eC (fV _) 99 [(0,ZW),(1,ZW),(2,ZW),(3,ZW),(4,ZW),(5,ZW),(6,ZW),(7,ZW),(8,ZW),(9,ZW),(11,ZW),(10,ZV),(12,ZV),(13,ZW),(14,ZW),(15,ZV)] (λw'=>w'.cell? ⟨w.heap.size,0,ZY⟩=ZX (Z6 (ZX ⟨r,0,ZY⟩))/\w'.cell? ⟨r,0,ZY⟩=ZX (Z6 (ZX ⟨v,0,ZY⟩))) (by kernel_rfl) (by kernel_rfl) ⟨cb,V⟩ ?_;iterate 11 (refine aZ rfl rfl ?_;apply YI;refine ⟨λw' B=>?_,?_⟩;(obtain ⟨s1,s2⟩:=B;first|(go_simp;done)|(go_simp;exact rfl));simp only [Act.put,Ug,Uf,Uh])
          refine zE (fV _) (w1:=c.drew) (v:=Z7 Z8 (hl:Int)) rfl rfl nofun (by go_simp) (λ_=>⟨cb,V⟩) ?_;simp only [Act.put,Ug,Uf,Uh];refine jF (fV _) (fK hl x.1 (by omega) (by omega) c.drew) rfl rfl nofun (by go_simp) ?_;rintro e z ⟨rfl,rfl⟩;refine ⟨_,rfl,λ_=>⟨cb,V⟩,?_⟩;simp only [Act.put,Ug,Uf,Uh];iterate 2 (refine aZ rfl rfl ?_;apply YI;refine ⟨λw' B=>?_,?_⟩;(obtain ⟨s1,s2⟩:=B;first|(go_simp;done)|(go_simp;exact rfl));simp only [Act.put,Ug,Uf,Uh])
          refine nT (fV _) (w1:=c.drew.setCell ⟨v,5,ZY⟩ (Z7 Z8 ((hl|||2^x.1:Nat):Int))) rfl rfl nofun (by go_simp) (λ_=>⟨(Uo (Uj _ _ _ _ (by show w.heap.size≠v;omega))).trans cb,(Uo (Uj _ _ _ _ (λe=>qc e.symm))).trans V⟩) (gS ?_);clear cb V c5 f5;have kk:bt (c.drew.setCell ⟨v,5,ZY⟩ (Z7 Z8 ((hl|||2^x.1:Nat):Int))) v p D L G ps (hl|||2^x.1):=af (j:=5) O _;have C:aa (λk=>k=v) c (c.drew.setCell ⟨v,5,ZY⟩ (Z7 Z8 ((hl|||2^x.1:Nat):Int))):=(aa.drew c).trans (aa.setCell _ _ _ rfl);obtain ⟨u,R⟩:=nM (c.drew.setCell ⟨v,5,ZY⟩ (Z7 Z8 ((hl|||2^x.1:Nat):Int)));rw [R] at kk C ⊢;have q5:ZO u w.heap.size 170 (Z6 (ZX ⟨r,0,ZY⟩)):=(C.block _ P.lt (by omega)).trans P;have H4:=a6 (K.keep (C.block r K.lt (λe=>qc e.symm))) kk q5 ((aa.RT ky (λk=>k=r\/k=v)).trans (C.mono λ_ _ q=>.inr q)) (WG qa (VS (by decide) qs):hl|||2^x.1<2^N);clear K O P R kk C q5;rename_i hK
          refine hK _ _ ?_;clear hK;simp only [Act.put,Ug,Uf,Uh];gi_wp2;refine dH (zO 11 u) ?_;rintro e z ⟨rfl,km⟩;obtain rfl:u=z:=km.symm;clear U H3 ky km))
      gi_wp2;obtain ⟨K,O,P,x2,x8⟩:=H4.o;have h7:=P.cell;have hz:=K.cells.2.2.2.1;have ze:u.frozen? ⟨r,3,ZY⟩=ZV:=by
       have h':u.heap[r]?=_:=K;simp [World.frozen?,h']
      refine eC (fV _) 99 [(0,ZW),(1,ZW),(2,ZW),(3,ZW),(5,ZW),(4,ZV),(6,ZV),(7,ZW),(8,ZW),(9,ZV)] (λw'=>w'.cell? ⟨w.heap.size,0,ZY⟩=ZX (Z6 (ZX ⟨r,0,ZY⟩))) (by kernel_rfl) (by kernel_rfl) h7 ?_;iterate 5 (refine aZ rfl rfl ?_;apply YI;refine ⟨λw' B=>?_,?_⟩;(first|(go_simp;done)|(go_simp;exact rfl));simp only [Act.put,Ug,Uf,Uh])
      refine zE (fV _) (w1:=u.drew) (v:=Z7 Z8 ((gone|||gn:Nat):Int)) rfl rfl nofun (by go_simp) (λ_=>h7) ?_;simp only [Act.put,Ug,Uf,Uh];refine jF (fV _) (fK (gone|||gn) x.1 (by omega) (by omega) u.drew) rfl rfl nofun (by go_simp) ?_;rintro e z ⟨rfl,rfl⟩;refine ⟨_,rfl,λ_=>h7,?_⟩;simp only [Act.put,Ug,Uf,Uh];iterate 2 (refine aZ rfl rfl ?_;apply YI;refine ⟨λw' B=>?_,?_⟩;(first|(go_simp;done)|(go_simp;exact rfl));simp only [Act.put,Ug,Uf,Uh])
      refine nT (fV _) (w1:=u.drew.setCell ⟨r,3,ZY⟩ (Z7 Z8 ((gone|||gn|||2^x.1:Nat):Int))) rfl rfl nofun (by go_simp) (λ_=>(Uo (Uj _ _ _ _ (by show w.heap.size≠r;omega))).trans h7) (gS ?_);obtain ⟨z,km⟩:∃ z,z=u.drew.setCell ⟨r,3,ZY⟩ (Z7 Z8 ((gone|||gn|||2^x.1:Nat):Int)):=⟨_,rfl⟩;rw [<- km];clear h7 hz ze;have x3:aa (λk=>k=r) u z:=by
       rw [km];exact (aa.drew u).trans (aa.setCell _ _ _ rfl)
      have H5:=ak (HF.o z ka (by rw [km];exact af (j:=3) K _) ⟨_,x8,O.keep (x3.block _ O.lt qc)⟩ (x2.trans (x3.mono λ_ _ q=>.inl q)));clear K O P km x3;simp only [Act.put,Ug,Uf,Uh];gi_wp2;obtain ⟨⟨q1,q2⟩,q3,q4⟩:=H5.o;exact ⟨⟨q1,λk o m ho _=>(q2 k (by omega) (T5.1 ho).1).trans ho⟩,λ_=>q3,q4⟩)
 case done=>
  rintro D' xs X ya yv a hK;have ko:dB xs=ab S:=yv;obtain ⟨f,E,H⟩:=a.row;have kz:∀ k,k<w.heap.size+1->(X.putObj D' (.deferred ZY)).heap[k]?=X.heap[k]?:=λk m=>U6 (by omega);have W:=a.arr;refine Mn results111 rfl hK ⟨rfl,by rw [<- ko];exact a.rd.keep (kz _ (by omega)),a.vol.imp λ_ q=>⟨q.1,q.2.keep (kz _ (by omega))⟩,⟨f,E.of_block (kz _ (by omega)),?_⟩,?_,?_,by rw [<- ko];exact a.seen.keep (kz _ (by have:=ks _ a.arr.sg;omega))⟩
  . rw [<- ko];refine H.keep (by simp [World.putObj]) λk o m ho hc=>(U6 (λe=>?_)).trans ho;rw [e,hK] at ho;cases ho;cases hc
  . exact W.keep λk m=>kz k (by have:=ks k m;omega)
  . exact a.out.later (T:=λk=>w.heap.size<=k) ⟨rfl,rfl,rfl,by simp [World.putObj],λk qo qp=>kz k (by omega)⟩ (λk qo qp=>by omega)
 case stop=>
  rintro D' cc pre X ya yo hx hK;exact hx.elim
end
def AH (N:Nat) (ds:a8) (R:Nat->a8):List a8:=(YF N).map λi=>if i∈ds then R i else []
def OP (N:Nat) (ds:a8):Nat:=zX (((YF N).filter λi=>decide (i∉ds)).map λi:Nat=>⟨0,0,(i:Int),0⟩)
theorem uF (N:Nat) (ds:a8) (i:Nat):(OP N ds).testBit i=ZW↔i<N/\i∉ds:=by
 unfold OP;rw [si];constructor
 . rintro ⟨s,f,_,a⟩;obtain ⟨j,e,rfl⟩:=Ua.1 f;obtain ⟨c,d⟩:=Vv.1 e;have:j=i:=a;subst this;exact ⟨UA.1 c,Wx d⟩
 . rintro ⟨b,a⟩;exact ⟨_,Ua.2 ⟨i,Vv.2 ⟨UA.2 b,U1 a⟩,rfl⟩,rfl,rfl⟩
def Da (N:Nat) (ds:a8) (R:Nat->a8):(AH N ds R).length=N:=by simp [AH]
def Db (a:i<N):(AH N ds R).getD i []=if i∈ds then R i else []:=by simp [AH,a]
def Mq (h:w.heap[bl]?=ZX (Z4 (aI l).toArray 213 (0,0))) (hl:l.length=44) (c:∀ x∈l,x<256):Bs w (Z5 (ZX ⟨bl,0,ZY⟩) 44 44) l:=by
 refine ⟨ZX ⟨bl,0,ZY⟩,44,by rw [hl],by omega,by omega,c,λ_=>⟨bl,0,rfl,λk a=>?_⟩⟩;have e:(aI l)[k]?=ZX (Z7 .u8 ((l.getD k 0:Nat):Int)):=by
  unfold aI;rw [UE,Ue a];simp [a]
 have b:(aI l).toArray[k]?=ZX (Z7 .u8 ((l.getD k 0:Nat):Int)):=by simpa using e
 simp [World.cell?,h,b]
def aaK (n:w.rowIs g 40 N f) (o:∀ i∈ds,(R i).length=44/\∀ x∈R i,x<256) (j:Kn w base AG f R ds):In w g (AH N ds R) (OP N ds):=by
 intro i c;have b:i<N:=by rw [Da] at c;exact c
 have p:(AH N ds R)[i]=if i∈ds then R i else []:=by rw [<- Db b];simp [c]
 have h:=n.cell b;refine ⟨λa=>?_,λa=>?_⟩
 . rw [h,j.1 i ((uF N ds i).1 (oO.1 a)).2];rfl
 . have d:i∈ds:=by
    by_cases q:i∈ds
    . exact q
    . exact absurd (oO.2 ((uF N ds i).2 ⟨b,q⟩)) a
   obtain ⟨bl,k,_,_,l⟩:=j.2 i d;obtain ⟨e,m⟩:=o i d;rw [p,TX d,e];exact ⟨⟨bl,0,ZY⟩,44,by rw [h,k],Mq l e m⟩
theorem Jf (a:∀ i∈ds,(R i).length=44/\∀ x∈R i,x<256):∀ l∈AH N ds R,l.length<=100000:=by
 intro l hl;unfold AH at hl;obtain ⟨i,_,rfl⟩:=Ua.1 hl;split
 . rename_i h;rw [(a i h).1];omega
 . simp
def Jg {row:a8} (h:aM w bl l) (g:m<=l.length) (e:l.take m=row):w.rangeAt bl 0 (aI row)/\row.length=m:=by
 have c:row.length=m:=by rw [<- e,Us];omega
 refine ⟨λj u a=>?_,c⟩;unfold aI at a;rw [UE,Wi] at a;obtain ⟨x,b,rfl⟩:=a;have f:j<row.length:=(Vc.1 b).1;have d:=abQ h (i:=j) (by omega);rw [Um];rw [d];unfold vb;have:l.getD j 0=x:=by
  rw [<- e,Yb,TX (by omega)] at b;rw [Ub,b];rfl
 rw [this]
def qW (h:w.heap[bl]?=ZX (Z4 (aI l).toArray 213 (0,0))):w.rangeAt bl 0 (aI l):=λj u a=>by simp [World.cell?,h];simpa using a
theorem sB (e:gone<65536) (f:sp<65536) {i:Nat}:i∈wg ds (ab (DR (DR S gone) sp))↔i∈ab S/\gone.testBit i=ZV/\sp.testBit i=ZV/\i∉ds:=by
 rw [GS,sA f,sA e];constructor
 . rintro ⟨⟨⟨a,b⟩,c⟩,d⟩;exact ⟨a,b,c,d⟩
 . rintro ⟨a,b,c,d⟩;exact ⟨⟨⟨a,b⟩,c⟩,d⟩
def OQ (T gone sp:Nat) (ds:a8):a8:=wg ds (ab (DR (DR T gone) sp))
def Fl (h:¬ x.testBit i=ZW):x.testBit i=ZV:=by cases q:x.testBit i;rfl;exact absurd q h
section
attribute [local go_sem] Oper.semAt_some
structure CF (w:ZU) (D L G:Nat) (X:ZU):Prop where
 par:X.heap[w.heap.size]?=ZX (Z4 #[Z7 Z9 (D:Int),Z7 Z9 (L:Int),Z7 Z9 (G:Int)] 27 (0,0))
 res:aF X (w.heap.size+1) dU
 err:ZO X (w.heap.size+1+1) 64 .nilIface
 below:bW w X
def CF.mono (h:CF w D L G X) (a:ZS B X Y) (b:w.heap.size+3<=B):CF w D L G Y:=
 ⟨(a.block _ (by omega)).trans h.par,h.res.keep (a.block _ (by omega)),(a.block _ (by omega)).trans h.err,h.below.trans (a.mono (by omega))⟩
def CF.own (h:CF w D L G X) (b:w.heap.size+3<=B) (a:X.grownBy Y row) (hr:∀ r,row=ZX r->B<=r):CF w D L G Y:=
 h.mono (B:=w.heap.size+3) ⟨a.os,a.tape,a.output,a.size,λk c=>a.block k (by have:=h.err.lt;omega) (λe=>by have:=hr k e.symm;omega)⟩ lR
def fy {x z:ZT} (h:X.heap[b]?=ZX (Z4 #[x,y,z] t (0,0))):X.cell? ⟨b,0,ZY⟩=ZX x/\X.cell? ⟨b,1,ZY⟩=ZX y/\X.cell? ⟨b,2,ZY⟩=ZX z:=by simp [World.cell?,h]
def Rm (D L G S:Nat) (w:ZU) (e:ZQ) (w':ZU):Prop:=
 bW w w'/\((tells (jO D L G) (ab S)=ZY/\e=Z3 (Z0 #[.agg (aU dU),.iface 66 (Z7 Z9 3)])) \/
  (∃ C,tells (jO D L G) (ab S)=ZX C/\e=Z3 (Z0 #[.agg (aU C),.nilIface])))
def Fm (pre:List Sh):a8:=pre.map (·.1)
def Jh (pre:List Sh) (x:Sh):Fm (pre++[x])=Fm pre++[x.1]:=by unfold Fm;simp
def CfI (w:ZU) (D L G Bc B:Nat) (pre:List Sh) (X:ZU):Prop:=CF w D L G X/\(∃ C,tells (jO D L G) (Fm pre)=ZX C/\aF X Bc C)/\B<=X.heap.size
def CfX (w:ZU) (D L G B:Nat) (c:Code) (pre:List Sh) (X:ZU):Prop:=c=.ret/\tells (jO D L G) (Fm pre)=ZY/\bW w X/\B<=X.heap.size /\
 aF X (w.heap.size+1) dU/\ZO X (w.heap.size+1+1) 64 (.iface 66 (Z7 Z9 3))
def CfI.own {Bc:Nat} (g:w.heap.size+3<=B) (h:Bc<B):OwnFrom B (CfI w D L G Bc B):=by
 rintro pre X Y row ⟨c,⟨C,d,b⟩,f⟩ a hr;exact ⟨c.own g a (λr e=>(hr r e).1),⟨C,d,b.keep (a.block _ b.lt (λe=>by have:=(hr _ e.symm).1;omega))⟩,TZ f a.size⟩
def CfX.own (l:w.heap.size+3<=B) (c:Code):OwnFrom B (CfX w D L G B c):=by
 rintro pre X Y row ⟨f,g,d,h,i,j⟩ a hr;have b:∀ k,k<w.heap.size+3->Y.heap[k]?=X.heap[k]?:=λk b=>a.block k (by omega) (λe=>by have:=(hr k e.symm).1;omega);exact ⟨f,g,d.grown a d.size (λk e=>by have:=(hr k e).1;omega),TZ h a.size,i.keep (b _ (by omega)),(b _ (by omega)).trans j⟩
def qX (h:aF X b C) (cs:Array ZT):KeepsOthers X (X.setRow b cs):=
 ab8 (aN _ _ _) (λj o e ho=>by cases e;rw [h.heap] at ho;cases ho;rfl)
def Fo (h:aF w b C):(loadVar 332 ⟨b,0,ZY⟩).run ZN w=.ok (.agg (aU C)) w:=W9 w b 332 332 (aU C) (0,0) _ h.heap XM rfl (dZ C)
theorem Mr {ev:ZT} {R:ZQ->ZU->Prop} (c:a.defers=[{ target:=.collected D',args:=#[] }]) (h4:a.tmps.getD 4 ZZ=Z6 (ZX ⟨w.heap.size+1,0,ZY⟩)) (h5:a.tmps.getD 5 ZZ=Z6 (ZX ⟨w.heap.size+1+1,0,ZY⟩))
 (h1:aF Z (w.heap.size+1) C) (h0:ZO Z (w.heap.size+1+1) 64 ev) (hK:Z.heap[D']?=ZX (.deferred (ZX []))) (hD:w.heap.size+3<=D')
 (hR:R (Z3 (Z0 #[.agg (aU C),ev])) (Z.putObj D' (.deferred ZY))):bodyPostM Fence.wide n ZN Tryz.f208 R .ret a Z:=by
 obtain ⟨d,h⟩:=a;simp only at c h4 h5;subst c;refine ⟨by simp,.inl ⟨_,_,rfl,WE hK,?_⟩⟩;have c0:=Fo (show aF (Z.putObj D' (.deferred ZY)) (w.heap.size+1) C from h1.keep (U6 (by omega)));have e:=(show ZO (Z.putObj D' (.deferred ZY)) (w.heap.size+1+1) 64 ev from (U6 (by omega)).trans h0).cell;have b:(loadVar 64 ⟨w.heap.size+1+1,0,ZY⟩).run ZN (Z.putObj D' (.deferred ZY))=.ok ev (Z.putObj D' (.deferred ZY)):=by simp [go_sem,e]
 refine ⟨Z0 #[.agg (aU C),ev],?_,hR⟩;have f:d[4]?.getD ZZ=Z6 (ZX ⟨w.heap.size+1,0,ZY⟩):=by simpa using h4
 have g:d[5]?.getD ZZ=Z6 (ZX ⟨w.heap.size+1+1,0,ZY⟩):=by simpa using h5
 simp [results,results208,asAddr,f,g,c0,b]
theorem lh (D L G S:Nat) (hr:dg D L G=ZW) (qb:1<=D) (hD:D<=12) (hL:1<=L) (k9:L<=4) (hG:G<=4) (hv:D%L=0) (qf:D+L+G<=16) (hS:S<65536) (w:ZU) (hT:aJ w) (h2:3<=w.heap.size) :
 ZR ZN 208 #[.agg #[Z7 Z9 D,Z7 Z9 L,Z7 Z9 G],Z7 Z8 S] w λe w'=>Rm D L G S w e w':=by
 obtain ⟨n,HN⟩:∃ n:Nat,cJ (9<=n):=⟨9,TY _⟩;refine (Vj (n:=n)).1 ?_;refine Wo func208 rfl trivial ?_ rfl;simp only [ntmps208,UL,UG,U0,YM,YN,Vr,Vs,Vt,Vu,Ut,UX];have hz:=zeroCk;gi_wp2;refine dk (kA D L G hr hD hL k9 hG hv _) ?_;rintro e w1 ⟨v,T,rfl,ka,hH,F⟩;have Y:(((w.alloc (Z4 #[Z7 Z9 (D:Int),Z7 Z9 (L:Int),Z7 Z9 (G:Int)] 27)).alloc (Z4 (aU dU) 332)).alloc (Z4 #[.nilIface] 64)).heap.size=w.heap.size+3:=by simp
 have kg:CF w D L G (((w.alloc (Z4 #[Z7 Z9 (D:Int),Z7 Z9 (L:Int),Z7 Z9 (G:Int)] 27)).alloc (Z4 (aU dU) 332)).alloc (Z4 #[.nilIface] 64)):=by
  obtain ⟨a1,a2,a3,a4⟩:=La w (Z4 #[Z7 Z9 (D:Int),Z7 Z9 (L:Int),Z7 Z9 (G:Int)] 27) (Z4 (aU dU) 332) (Z4 #[.nilIface] 64);exact ⟨a2,aF.of_heap a3,a4,((bA w _).alloc (by simp) _).alloc (by simp;omega) _⟩
 try change ZS _ _ _ at F
 rw [Y] at F;have Q:=kg.mono F lR;have M:=F.size;try change ZS _ _ _ at M
 rw [Y] at M;clear kg F Y;have hM:aR D L G≠[]:=λe=>by have:=cO D L G;rw [e] at this;simp at this;omega
 obtain ⟨g,c,rfl,hs,kf⟩:=Mc ka hH (kN D L G) hM;obtain ⟨p0,p1,p2⟩:=fy Q.par;have kh:ZR ZN 219 #[Z5 (ZX ⟨g,0,ZY⟩) (aR D L G).length c,Z7 Z9 D] w1 λe w'=>e=Z3 (.agg (aU (jO D L G)))/\bW w1 w':=by
  have ha:=cO D L G;have h:=At g 0 c (aR D L G) D w1 hs (λi a=>kf i a) qb (by omega) (by omega) (by omega) (λi a=>by
   have e:(aR D L G).getD i []=(aR D L G)[i]:=(by simp [a]);rw [e];exact kN D L G _ (T8 a))
  try change ZS _ _ _ at h
  rw [show (aR D L G).length-D=L+G by omega] at h;exact h
 have k5:=ak Q;clear ka hH Q kf;gi_wp2;refine dk kh ?_;clear kh;rintro e b ⟨rfl,W⟩;have kp:=W.size;have h6:=k5.out.mono W (by omega);have kb:bW b ((b.alloc (Z4 (aU dU) 332)).setRow b.heap.size (aU (jO D L G))):=(bA _ _).grown (aN _ _ _) (by simp) (λk e=>by cases e;exact TY _);have kc:aF ((b.alloc (Z4 (aU dU) 332)).setRow b.heap.size (aU (jO D L G))) b.heap.size (jO D L G):=(aF.new b dU).setRow (jO D L G);have h7:=h6.mono kb (by omega);have ky:((b.alloc (Z4 (aU dU) 332)).setRow b.heap.size (aU (jO D L G))).heap.size=b.heap.size+1:=by simp [World.setRow]
 have H:=aE kc h7 ky;clear k5 W h6 kb kc h7 ky;gi_wp2_with (refine jL rfl (Z2 8) (Z2 22) rfl b.heap.size (jO D L G) dU rfl rfl (aF.new b dU) ?_)
 obtain ⟨d,ks⟩:=nM ((b.alloc (Z4 (aU dU) 332)).setRow b.heap.size (aU (jO D L G)));rw [ks] at H ⊢;clear ks;refine dk (dN S d) ?_;rintro e w' ⟨rfl,rfl⟩;have kz:(d.alloc (Z4 #[Z7 Z8 (S:Int)] 133)).heap.size=d.heap.size+1:=by simp
 have ke:(d.alloc (Z4 #[Z7 Z8 (S:Int)] 133)).cell? ⟨d.heap.size,0,ZY⟩=ZX (Z7 Z8 (S:Int)):=(Bx.new d 133 (Z7 Z8 (S:Int))).cell;have kj:CfI w D L G b.heap.size (d.heap.size+1) [] (d.alloc (Z4 #[Z7 Z8 (S:Int)] 133)):=by
  have E:bW d (d.alloc (Z4 #[Z7 Z8 (S:Int)] 133)):=bA _ _;obtain ⟨u,y,m⟩:=H.o;exact ⟨y.mono E (by omega),⟨jO D L G,rfl,u.keep (E.block _ (by omega))⟩,by omega⟩
 obtain ⟨A,kv⟩:=nM (d.alloc (Z4 #[Z7 Z8 (S:Int)] 133));have hf:=H.o.2.2;have K:=a5 kz hf M kp;have J:=ak ke;have s:=ak kj;clear kz ke kj H hf M kp p0 p1 p2;gi_wp2;try change ZS _ _ _ at K
 try change ZS _ _ _ at J
 try change ZS _ _ _ at s
 rw [kv] at K J s;clear kv;have q9:w.heap.size+3<=A.heap.size/\b.heap.size<A.heap.size/\A.heap.size=d.heap.size+1:=by obtain ⟨u,y,m,N⟩:=K.out;omega
 obtain ⟨k6,q8,U⟩:=q9;try change ZS _ _ _ at s
 rw [<- U] at s;have q0:=ak U;clear U;refine Wp rfl (by have:=HN.o;omega) (gf:=147) (lb:=#[Z6 (ZX ⟨d.heap.size,0,ZY⟩)]) rfl trivial (VC func147 (by kernel_rfl) rfl)
  (eV (n-1) d.heap.size S hS A (by have:=q0.out;omega) J.out (by omega) (hT.mono (by omega) s.out.1.below)) (λh k=>qK h k) (qM (by omega)) (T6 _ _) (λ_=>rfl)
  (CfI w D L G b.heap.size A.heap.size) (CfX w D L G A.heap.size) (CfI.own k6 q8) (CfX.own k6) s.out
  (λx=>{ tmps:=#[.agg #[Z7 Z9 (D:Int),Z7 Z9 (L:Int),Z7 Z9 (G:Int)],Z7 Z8 (S:Int),Z6 (ZX ⟨w.heap.size,0,ZY⟩),ZZ,Z6 (ZX ⟨w.heap.size+1,0,ZY⟩),Z6 (ZX ⟨w.heap.size+1+1,0,ZY⟩),Z5 (ZX ⟨g,0,ZY⟩) (aR D L G).length c,.nilIface,Z6 (ZX ⟨b.heap.size,0,ZY⟩),Z7 Z9 (x.1:Int),Z0 #[Z5 (ZX ⟨g,0,ZY⟩) (aR D L G).length c,.nilIface],.agg #[Z7 Z9 (D:Int),Z7 Z9 (L:Int),Z7 Z9 (G:Int)],Z0 #[Z5 (ZX ⟨g,0,ZY⟩) (aR D L G).length c,.nilIface],Z5 (ZX ⟨g,0,ZY⟩) (aR D L G).length c,.nilIface,.nilIface,.bool ZV,ZZ,ZZ,Z5 (ZX ⟨g,0,ZY⟩) (aR D L G).length c,Z6 (ZX ⟨w.heap.size,0,ZY⟩),Z7 Z9 (D:Int),.agg (aU (jO D L G)),Z7 Z8 (S:Int),.func (.func 147) #[] #[Z6 (ZX ⟨d.heap.size,0,ZY⟩)],Z7 Z9 (x.1:Int),ZZ,ZZ,ZZ,ZZ,ZZ,ZZ],defers:=[] }) ?assign ?body ?done ?stop
 case assign=>
  intro l2 x X Kk hK;unfold qJ;gi_wp2;exact hK
 case body=>
  rintro l2 pre x X ⟨a,⟨C,l,z⟩,t⟩ ha;have h9:=Au hD k9 hG l;have kr:=ui b.heap.size x.1 C X z h9 x.2;have I:tells (jO D L G) (Fm (pre++[x]))=ph C x.1:=by rw [Jh,jY,l];rfl
  have j:=ak a;have Z:=ak t;clear t ha l z h9;have ce:=a.err.cell;have fe:=a.err.frozen;clear a;gi_wp2;refine dH kr ?_;clear kr;rintro e w2 (⟨kk,rfl,qe⟩|⟨C',km,rfl,k7,ki⟩)
  . subst qe;have q7:=ak (I.trans kk);clear I kk;have f:ZO (w2.setRow (w.heap.size+1) (aU dU)) (w.heap.size+1+1) 64 .nilIface:=((aN _ _ _).block _ j.o.err.lt (λe=>by have:=UQ e;omega)).trans j.o.err;have O:=f.cell;have P:=f.frozen;have q6:=ak f;clear f;gi_wp2_with (refine jL rfl (Z2 4) (Z2 29) rfl (w.heap.size+1) dU dU rfl rfl j.o.res ?_)
    have a:=j.o;have V:bW w (w2.setRow (w.heap.size+1) (aU dU)):=a.below.grown (aN _ _ _) a.below.size (λq e=>by cases e;omega);refine ⟨?_,rfl,q7.out,?_,?_,?_,?_⟩
    . exact ((qX j.o.res _).trans (V9 _ _ _)).from _
    . exact V.setCell (p:=⟨w.heap.size+1+1,0,ZY⟩) (by show w.heap.size<=w.heap.size+1+1;omega) _
    . have:=Z.o;simpa [World.setCell,World.setRow] using this
    . exact (a.res.setRow dU).keep (Wj _ _ _ _ (by show w.heap.size+1≠w.heap.size+1+1;omega))
    . exact q6.out.set _
  . have H2:=aE (I.trans km) k7 ki;clear I km k7 ki;gi_wp2;obtain ⟨u,y,m⟩:=H2.o;have h5:=j.o.own (B:=w.heap.size+3) lR m (λr e=>by cases e;obtain ⟨u,y,m,N⟩:=K.out;omega);exact ⟨⟨m.size,λk o hk ho _=>(m.block k (T5.1 ho).1 (λe=>by cases e;omega)).trans ho⟩,λ_=>hT.mono (by omega) h5.below,h5,⟨C',u,y⟩,TZ Z.o m.size⟩
 case done=>
  rintro D' xs X qa kx ⟨a,⟨C,l,z⟩,t⟩ hK;try change ZS _ _ _ at l
  rw [show Fm xs=ab S from kx] at l;have f:ZO (X.setRow (w.heap.size+1) (aU C)) (w.heap.size+1+1) 64 .nilIface:=((aN _ _ _).block _ a.err.lt (λe=>by have:=UQ e;omega)).trans a.err;have O:=f.cell;have P:=f.frozen;have j:=a7 a z t hK l f;clear a z t hK l kx xs s J f;gi_wp2_with (first
   | refine kS rfl (Z2 8) rfl b.heap.size C rfl j.o.2.1 ?_
   | refine jL rfl (Z2 4) (Z2 31) rfl (w.heap.size+1) C dU rfl rfl j.o.1.res ?_)
  obtain ⟨a,z,t,hK,l,f⟩:=j.o;have V:bW w (X.setRow (w.heap.size+1) (aU C)):=a.below.grown (aN _ _ _) a.below.size (λq e=>by cases e;omega);have qc:=V.setCell (p:=⟨w.heap.size+1+1,0,ZY⟩) (by show w.heap.size<=w.heap.size+1+1;omega) .nilIface;have qd:=(qX a.res (aU C)).trans (V9 _ ⟨w.heap.size+1+1,0,ZY⟩ .nilIface);have k8:=qd.same D' _ hK rfl;exact Mr (w:=w) rfl rfl rfl ((a.res.setRow C).keep (Wj _ _ _ _ (by show w.heap.size+1≠w.heap.size+1+1;omega))) (f.set _) k8 (by omega)
   ⟨Below.RY qc (by omega) (T5.1 k8).1 _,.inr ⟨C,l,rfl⟩⟩
 case stop=>
  rintro D' cc pre X qa hy ⟨rfl,ko,E,t,he,h8⟩ hK;have hc:tells (jO D L G) (ab S)=ZY:=by
   obtain ⟨R,hR⟩:=hy;rw [<- hR];exact jb _ _ _ ko
  have HH:=a6 E he h8 hK hc;clear E he h8 hK hc ko;gi_wp2;obtain ⟨u,y,m,N,q5⟩:=HH.o;exact Mr (w:=w) rfl rfl rfl y m N (by omega) ⟨Below.RY u (by omega) (T5.1 N).1 _,.inl ⟨q5,rfl⟩⟩
end
section
attribute [local go_sem] Oper.semAt_some
structure WI (w:ZU) (C:Ck) (regs:Int) (L:List St) (X:ZU):Prop where
 ck:aF X w.heap.size C
 res:X.heap[w.heap.size+1]?=ZX (Z4 #[Z7 Z9 0,Z5 ZY 0 0] 206 (0,0))
 pb:PB X (w.heap.size+3) (w.heap.size+1+1) regs L
 below:bW w X
theorem WI.own {L:List St} (h:WI w C regs L X) (c:w.heap.size+3<=B) (a:X.grownBy Y row) (hr:∀ r,row=ZX r->B<=r/\∃ o:Obj,X.heap[r]?=ZX o/\o.isCells=ZV):WI w C regs L Y:=by
 have:=h.pb.2.1;have b:∀ k,k<w.heap.size+3->Y.heap[k]?=X.heap[k]?:=λk b=>a.block k (by omega) (λe=>by have:=(hr k e.symm).1;omega);exact ⟨h.ck.keep (b _ (by omega)),(b _ (by omega)).trans h.res,h.pb.own c a hr,h.below.grown a h.below.size (λk e=>by have:=(hr k e).1;omega)⟩
def WI.next {L:List St} {s:St} (h:WI w C regs L X) (d:X.heap[w.heap.size+1+1]?=ZX (Z4 #[Z7 Z9 regs,v] 206 (0,0))) (e:X.ownsRow (w.heap.size+3) 299 4 v L.length (eG .u8 L))
 (g:(X.alloc ob).grownBy w2 v.ownBlock) (f:w.heap.size+3<=g') (c:w2.ownsRow (w.heap.size+3) 299 4 (Z5 (ZX ⟨g',0,ZY⟩) (L.length+1) cap') (L.length+1) (eG .u8 (L++[s]))) :
 w2.cell? ⟨w.heap.size+1+1,1,ZY⟩=ZX v/\w2.frozen? ⟨w.heap.size+1+1,1,ZY⟩=ZV/\(WI w C regs (L++[s]) (w2.setCell ⟨w.heap.size+1+1,1,ZY⟩ (Z5 (ZX ⟨g',0,ZY⟩) (L.length+1) cap'))/\KeepsOthers X (w2.setCell ⟨w.heap.size+1+1,1,ZY⟩ (Z5 (ZX ⟨g',0,ZY⟩) (L.length+1) cap'))):=by
 obtain ⟨i,j,l,a,b,m,n,o⟩:=PB.next (n0:=w.heap.size+3) (Bg:=w.heap.size+1+1) (by omega) h.pb.2.1 d e g f c;refine ⟨j,l,⟨h.ck.keep (a _ (by omega) (by omega)),(a _ (by omega) (by omega)).trans h.res,i,h.below.trans ⟨m,n,o,?_,λk p=>a k (by omega) (by omega)⟩⟩,b⟩;exact b.size
def WI.told {L:List St} (h:WI w C regs L X):X.cell? ⟨w.heap.size,128,ZY⟩=ZX (Z7 Z9 (C.told:Int)):=h.ck.Sd
def Dd (X:ZU) (s:St):∀ j v,(Ik .u8 s)[j]?=ZX v->(X.alloc (Z4 #[Z7 .u8 (s.k:Int),Z7 Z9 s.a,Z7 Z9 s.b,Z7 .u8 (s.c:Int)] 299)).cell? ((⟨X.heap.size,0,ZY⟩:Addr).add j)=ZX v:=
 BE X X.heap.size rfl _ _ _ _ _
def Ji (C:Ck) (pre:List Sh):List St:=wrTo C (pre.map (·.1))
def GU (C:Ck) (pre:List Sh) (i k:Nat):List St:=Ji C pre++[⟨0,0,(i:Int),0⟩]++gO C i k
theorem OR (C:Ck) (a:eF C) (pre:List Sh) (s:Nat) (h:pre.length<(ab s).length) (i k:Nat) (l:k<=C.told):(Ji C pre).length<=200/\(GU C pre i k).length<=300:=by
 have b:=sy C (pre.map (·.1));have:=CU C i k;have:(ab s).length<=16:=by rw [<- kT s];exact pW s
 have:=a.le;have:=a.Sl;have c:(pre.map (·.1)).length*(C.told+1)<=16*9:=Xm (by rw [Ud];omega) (by omega);have:(Ji C pre).length<=144:=TZ b c;refine ⟨by omega,?_⟩;unfold GU;simp only [Uc,abY];omega
def Mt (C:Ck) (pre:List Sh) (i:Nat):GU C pre i 0=Ji C pre++[⟨0,0,(i:Int),0⟩]:=by unfold GU;rw [uy,Wk]
def Ro (pre:List Sh) {i k:Nat} (h:C.m k i≠0):GU C pre i (k+1)=GU C pre i k++[⟨1,1+(k:Int),0,C.m k i⟩]:=by unfold GU;rw [CT C i k h,<- UC]
def OS (pre:List Sh) {i k:Nat} (h:C.m k i=0):GU C pre i (k+1)=GU C pre i k:=by unfold GU;rw [yE C i k h]
def OT {x:Sh} (h:cI C x.1=ZW):GU C pre x.1 C.told=Ji C (pre++[x]):=by
 unfold GU Ji;rw [UD,YV,yD,iD h];simp
def Rp {x:Sh} (h:cI C x.1=ZV):Ji C pre=Ji C (pre++[x]):=by
 unfold Ji;rw [UD,YV,yD,lV h];simp
def Jj (X:ZU) (n:Nat) (d:n=X.heap.size) (s:St):∀ j v,(Ik .u8 s)[j]?=ZX v->(X.alloc (Z4 #[Z7 .u8 (s.k:Int),Z7 Z9 s.a,Z7 Z9 s.b,Z7 .u8 (s.c:Int)] 299)).cell? ((⟨n,0,ZY⟩:Addr).add j)=ZX v:=
 BE X n d _ _ _ _ _
def OU {s:Nat} (h:pre.map (·.1)=ab s):Ji C pre=wrTo C (ab s):=by unfold Ji;rw [h]
def yF (C:Ck) (kept:Nat) (pre:List Sh):List St:=wrTo C (ab kept)++fO (pre.map (·.1))
def OV (C:Ck) (kept:Nat):yF C kept []=wrTo C (ab kept):=by unfold yF fO;simp
def Mu (C:Ck) (kept:Nat) (pre:List Sh) (x:Sh):yF C kept (pre++[x])=yF C kept pre++[⟨2,(pre.length:Int)+1,(x.1:Int),0⟩]:=by
 unfold yF;rw [UD,YV,Ff,Ud,<- UC]
def OW (h:pre.map (·.1)=ab gone):yF C kept pre=fX C gone kept:=by unfold yF fX;rw [h]
theorem Rq (C:Ck) (a:eF C) (kept:Nat) (pre:List Sh) (s:Nat) (h:pre.length<(ab s).length):(yF C kept pre).length<=300:=by
 have c:=sy C (ab kept);have:(ab s).length<=16:=by rw [<- kT s];exact pW s
 have b:(ab kept).length<=16:=by rw [<- kT kept];exact pW kept
 have:=a.le;have:=a.Sl;have d:(ab kept).length*(C.told+1)<=16*9:=Xm b (by omega);have:(wrTo C (ab kept)).length<=144:=TZ c d;unfold yF fO;simp only [Uc,Ud,UM];omega
def Mv {R:Nat} {xs:List ZT} (h:X.ownsRow n0 299 4 v k xs) (b:ZO X R 3 u):v.ownBlock≠ZX R:=by
 rcases h.2 with ⟨rfl,_⟩|⟨g,cap,cur,rfl,_,a,_⟩
 . intro e;cases e
 . intro e;obtain rfl:g=R:=(by simpa [Value.ownBlock] using e);rw [show X.heap[g]?=_ from b] at a;have:=UQ a;cases this
theorem WI.set {L:List St} {R:Nat} {u':ZT} (h:WI w C regs L X) (g:w.heap.size+3<=R) (c:ZO X R 3 u):WI w C regs L (X.setCell ⟨R,0,ZY⟩ u'):=by
 have a:∀ k,k≠R->(X.setCell ⟨R,0,ZY⟩ u').heap[k]?=X.heap[k]?:=λk a=>Wj _ _ _ _ a;obtain ⟨d,e,v,f,b⟩:=h.pb;exact ⟨h.ck.keep (a _ (by omega)),(a _ (by omega)).trans h.res,⟨d,by simpa [World.setCell] using e,v,(a _ (by omega)).trans f,b.kept (dD X R 0 u') (.inr (Mv b c))⟩,h.below.setCell (p:=⟨R,0,ZY⟩) (by show w.heap.size<=R;omega) _⟩
structure WP (w:ZU) (C:Ck) (regs:Int) (kept R D:Nat) (pre:List Sh) (Y:ZU):Prop where
 wi:WI w C regs (yF C kept pre) Y
 box:ZO Y R 3 (Z7 Z9 (pre.length:Int))
 mark:Y.heap[D]?=ZX (.deferred (ZX []))
theorem WP.own {R:Nat} (h:WP w C regs kept R D pre X) (c:w.heap.size+3<=B) (d:R<B) (hD:D<B) (b:X.grownBy Y row) (hr:∀ r,row=ZX r->B<=r/\∃ o:Obj,X.heap[r]?=ZX o/\o.isCells=ZV):WP w C regs kept R D pre Y:=by
 have a:∀ k,k<B->k<X.heap.size->Y.heap[k]?=X.heap[k]?:=λk a f=>b.block k f (λe=>by have:=(hr k e.symm).1;omega);exact ⟨h.wi.own c b hr,(a R d h.box.lt).trans h.box,(a D hD (T5.1 h.mark).1).trans h.mark⟩
def WP.next {R:Nat} {x:Sh} (h:WP w C regs kept R D pre X) (j:w.heap.size+3<=R)
 (g:(X.setCell ⟨R,0,ZY⟩ (Z7 Z9 ((pre.length:Int)+1))).heap[w.heap.size+1+1]?=ZX (Z4 #[Z7 Z9 regs,v] 206 (0,0))) (a:(X.setCell ⟨R,0,ZY⟩ (Z7 Z9 ((pre.length:Int)+1))).ownsRow (w.heap.size+3) 299 4 v (yF C kept pre).length (eG .u8 (yF C kept pre)))
 (d:((X.setCell ⟨R,0,ZY⟩ (Z7 Z9 ((pre.length:Int)+1))).alloc ob).grownBy w2 v.ownBlock) (i:w.heap.size+3<=g') (f:w2.ownsRow (w.heap.size+3) 299 4 (Z5 (ZX ⟨g',0,ZY⟩) ((yF C kept pre).length+1) cap') ((yF C kept pre).length+1) (eG .u8 (yF C kept pre++[⟨2,(pre.length:Int)+1,(x.1:Int),0⟩]))) :
 w2.cell? ⟨w.heap.size+1+1,1,ZY⟩=ZX v/\w2.frozen? ⟨w.heap.size+1+1,1,ZY⟩=ZV/\(WP w C regs kept R D (pre++[x]) (w2.setCell ⟨w.heap.size+1+1,1,ZY⟩ (Z5 (ZX ⟨g',0,ZY⟩) ((yF C kept pre).length+1) cap'))/\KeepsOthers X (w2.setCell ⟨w.heap.size+1+1,1,ZY⟩ (Z5 (ZX ⟨g',0,ZY⟩) ((yF C kept pre).length+1) cap'))):=by
 have k:WI w C regs (yF C kept pre) (X.setCell ⟨R,0,ZY⟩ (Z7 Z9 ((pre.length:Int)+1))):=h.wi.set j h.box;have c:ZO (X.setCell ⟨R,0,ZY⟩ (Z7 Z9 ((pre.length:Int)+1))) R 3 (Z7 Z9 ((pre.length:Int)+1)):=h.box.set _;obtain ⟨l,m,n,o⟩:=k.next g a d i f;have b:=(V9 X ⟨R,0,ZY⟩ (Z7 Z9 ((pre.length:Int)+1))).trans o;refine ⟨l,m,⟨by rw [Mu];exact n,?_,b.same D _ h.mark rfl⟩,b⟩;have b2:ZO w2 R 3 (Z7 Z9 ((pre.length:Int)+1)):=(c.alloc ob).kept d (λe=>Mv a c e.symm);have b3:=(Wj w2 ⟨w.heap.size+1+1,1,ZY⟩ (Z5 (ZX ⟨g',0,ZY⟩) ((yF C kept pre).length+1) cap') R (by show R≠w.heap.size+1+1;omega)).trans b2;rw [Uc];exact b3
def iW {x x':ZT} (h:Y.heap[b]?=ZX (Z4 #[x,y] t (0,0))):(Y.setCell ⟨b,0,ZY⟩ x').heap[b]?=ZX (Z4 #[x',y] t (0,0)):=by
 obtain ⟨a,c⟩:=T5.1 h;show (Y.heap.modify b _)[b]?=_;rw [VP (by rw [YS];exact a),YT,c];rfl
def iX {x y':ZT} (h:Y.heap[b]?=ZX (Z4 #[x,y] t (0,0))):(Y.setCell ⟨b,1,ZY⟩ y').heap[b]?=ZX (Z4 #[x,y'] t (0,0)):=by
 obtain ⟨a,c⟩:=T5.1 h;show (Y.heap.modify b _)[b]?=_;rw [VP (by rw [YS];exact a),YT,c];rfl
def gx {base':Nat} {xs:List ZT} (h:w.ownsRow base e size v n xs) (f:base'<=base):w.ownsRow base' e size v n xs:=by
 refine ⟨h.1,?_⟩;rcases h.2 with b|⟨g,cap,cur,a,c,d⟩
 . exact .inl b
 . exact .inr ⟨g,cap,cur,a,TZ f c,d⟩
def Jk:(ZN.info? 206).map (·.size)=ZX 2:=by kernel_rfl
theorem Jl (C:Ck) (gone kept:Nat) (w:ZU) (G:eF C) (hg:gone<65536) (hk:kept<65536) (W:aJ w) (h2:3<=w.heap.size) :
 ZR ZN 211 #[.agg (aU C),Z7 Z8 gone,Z7 Z8 kept] w λe w'=>∃ v,e=Z3 (.agg #[Z7 Z9 (1+((ab gone).length:Int)),v])/\bW w w'/\w'.ownsRow w.heap.size 299 4 v (fX C gone kept).length (eG .u8 (fX C gone kept)):=by
 have qe:(ab gone).length<=16:=by rw [<- kT gone];exact pW gone
 obtain ⟨n,HN⟩:∃ n:Nat,cJ (9<=n):=⟨9,TY _⟩;refine (Vj (n:=n)).1 ?_;refine Wo func211 rfl trivial ?_ rfl;simp only [ntmps211,UL,UG,U0,YM,YN,Vr,Vs,Vt,Vu,Ut,UX];have q6:(((w.alloc (Z4 (aU C) 332)).alloc (Z4 #[Z7 Z9 0,Z5 ZY 0 0] 206)).alloc (Z4 #[Z7 Z9 (1+((ab gone).length:Int)),Z5 ZY 0 0] 206)).heap.size=w.heap.size+3:=by simp
 have ky:WI w C (1+((ab gone).length:Int)) [] (((w.alloc (Z4 (aU C) 332)).alloc (Z4 #[Z7 Z9 0,Z5 ZY 0 0] 206)).alloc (Z4 #[Z7 Z9 (1+((ab gone).length:Int)),Z5 ZY 0 0] 206)):=by
  obtain ⟨a1,a2,a3,a4⟩:=La w (Z4 (aU C) 332) (Z4 #[Z7 Z9 0,Z5 ZY 0 0] 206) (Z4 #[Z7 Z9 (1+((ab gone).length:Int)),Z5 ZY 0 0] 206);refine ⟨(aF.new w C).keep (by rw [We _ _ _ (by simp;omega),We _ _ _ (by simp)]),a3,⟨by omega,by omega,_,a4,UP _ _ _ _⟩,((bA w _).alloc (by simp) _).alloc (by simp;omega) _⟩
 have N:=ak q6;have i:=ak ky;clear q6 ky;gi_wp2;refine dk (Bn gone hg _) ?_;rintro e w' ⟨rfl,F⟩;gi_wp2;obtain ⟨l,km⟩:=nM ((((w.alloc (Z4 (aU C) 332)).alloc (Z4 #[Z7 Z9 0,Z5 ZY 0 0] 206)).alloc (Z4 #[Z7 Z9 (1+((ab gone).length:Int)),Z5 ZY 0 0] 206)));rw [km] at N i;rw [km];clear km F w';refine dk (dN kept l) ?_;rintro e w' ⟨rfl,rfl⟩;have q7:(l.alloc (Z4 #[Z7 Z8 (kept:Int)] 133)).heap.size=l.heap.size+1:=by simp
 have ks:(l.alloc (Z4 #[Z7 Z8 (kept:Int)] 133)).cell? ⟨l.heap.size,0,ZY⟩=ZX (Z7 Z8 (kept:Int)):=(Bx.new l 133 (Z7 Z8 (kept:Int))).cell;have kz:WI w C (1+((ab gone).length:Int)) [] (l.alloc (Z4 #[Z7 Z8 (kept:Int)] 133)):=i.o.own (B:=l.heap.size) (row:=ZY) (by have:=N.o;omega) (ace _ _ _) (λr e=>by cases e);obtain ⟨w4,q4⟩:=nM (l.alloc (Z4 #[Z7 Z8 (kept:Int)] 133));have P:=ak q7;have ka:=ak ks;have k6:=ak kz;clear q7 ks kz i;gi_wp2;rw [q4] at P ka k6;clear q4;refine Wp rfl (by have:=HN.o;omega) (gf:=147) (lb:=#[Z6 (ZX ⟨l.heap.size,0,ZY⟩)]) rfl trivial (VC func147 (by kernel_rfl) rfl)
  (eV (n-1) l.heap.size kept hk w4 (by have:=P.out;omega) ka.out (by have:=P.out;have:=N.o;omega) (W.mono (by omega) k6.out.below)) (λh k=>qK h k) (qM (by have:=P.out;have:=N.o;omega)) (T6 _ _) (λ_=>rfl)
  (λpre X=>WI w C (1+((ab gone).length:Int)) (Ji C pre) X/\w4.heap.size<=X.heap.size) (λ_ _ _=>False)
  (λpre X Y row H V hr=>⟨H.1.own (by have:=P.out;have:=N.o;omega) V hr,TZ H.2 V.size⟩) (λc pre X Y row H _ _=>H.elim) ⟨k6.out,TY _⟩
  (λx=>{ tmps:=#[.agg (aU C),Z7 Z8 (gone:Int),Z7 Z8 (kept:Int),Z6 (ZX ⟨w.heap.size,0,ZY⟩),ZZ,ZZ,Z6 (ZX ⟨w.heap.size+1,0,ZY⟩),Z6 (ZX ⟨w.heap.size+1+1,0,ZY⟩),Z7 Z9 (x.1:Int),ZZ,ZZ,ZZ,ZZ,Z7 Z8 (gone:Int),Z7 Z9 ((ab gone).length:Int),Z7 Z9 (1+((ab gone).length:Int)),.agg #[Z7 Z9 (1+((ab gone).length:Int)),Z5 ZY 0 0],Z7 Z8 (kept:Int),.func (.func 147) #[] #[Z6 (ZX ⟨l.heap.size,0,ZY⟩)],Z7 Z9 (x.1:Int),ZZ,ZZ,ZZ,ZZ,ZZ,ZZ,ZZ,ZZ,ZZ,ZZ,ZZ,ZZ,ZZ,ZZ,ZZ,ZZ,ZZ,ZZ,ZZ,ZZ,ZZ,ZZ,ZZ,ZZ,ZZ,ZZ,ZZ,ZZ,ZZ,ZZ,ZZ,ZZ,ZZ,ZZ,ZZ,ZZ,ZZ,ZZ,ZZ,ZZ,ZZ,ZZ,ZZ,ZZ,ZZ,ZZ,ZZ],defers:=[] }) ?assign ?body ?done ?stop
 case assign=>
  intro l2 x X Kk hK;unfold qJ;gi_wp2;exact hK
 case body=>
  rintro l2 pre x X ⟨a,hX⟩ R;have q3:=xA w.heap.size x.1 C X a.ck G x.2;obtain ⟨_,_,v,f,b⟩:=a.pb;have K:w.heap.size+3<=X.heap.size:=a.pb.2.1;obtain ⟨c0,c1,O,_⟩:=ay f;have ko:=x.2;have hL:=λk hk=>OR C G pre kept R x.1 k hk;have HH:=ak a;have Q:=ak f;have t:=ak b;have HL:=ak hL;have HX:=ak hX;have S:=ak K;clear a f b hL hX R K;gi_wp2;refine dH q3 ?_;clear q3;rintro e w' ⟨rfl,F⟩;subst F;cases k9:cI C x.1 with
  | false=>
   have HE:=ak (Rp (pre:=pre) k9);clear k9;gi_wp2;refine ⟨Yj _ _,Gr.refl _,?_,HX.o⟩;rw [<- HE.o];exact HH.o
  | true=>
   have HE:=ak (OT (pre:=pre) k9);clear k9;gi_wp2_with (
    refine Av rfl (Z2 24) (Z2 27) rfl (w.heap.size+3) w'.heap.size (Ji C pre) ⟨0,0,(x.1:Int),0⟩ v rfl rfl (t.o.alloc _) (Dd w' ⟨0,0,(x.1:Int),0⟩) (by have:=S.out;simp;omega) (by have:=(HL.o 0 (T7 _)).1;omega) ?_;
    rintro g' cap' w2 T I J;
    obtain ⟨c1,O,E⟩:=HH.o.next Q.o t.o J T I;
    have ct:=E.1.told;
    have q:=ak E;
    clear E J I)
   rw [<- Mt] at q;gi_loopw [32] (λp wr=>∃ k:Nat,p=Z7 Z9 (k:Int)/\k<=C.told/\WI w C (1+((ab gone).length:Int)) (GU C pre x.1 k) wr/\KeepsOthers w' wr) (λp _=>C.told-(intOf p).toNat)
   case atStart=>exact ⟨0,rfl,T7 _,q.out.1,q.out.2⟩
   case round=>
    obtain ⟨k,rfl,qc,a,z⟩:=hrel;have qi:=G.le;have qj:=G.Sl;by_cases qq:k<C.told
    . have cm:=a.ck.at k x.1 (by omega) ko;have ki:(k:Int)<C.told:=(by omega);have qn:(k:Int)<8:=(by omega);have qv:(x.1:Int)<16:=(by omega);by_cases h0:C.m k x.1=0
      . rw [h0] at cm;have i:=ak a;have u:=ak z;clear a z;gi_wp2;go_roundw
        case rel=>exact ⟨k+1,by go_num,by omega,by rw [OS pre h0];exact i.o,u.o⟩
        case measure=>simp [intOf];omega
      . have qs:((C.m k x.1:Nat):Int)≠0:=(by omega);obtain ⟨_,_,v,f,b⟩:=a.pb;have K:w.heap.size+3<=wr.heap.size:=a.pb.2.1;obtain ⟨c0,c1,O,_⟩:=ay f;have qm:=(HL.o k qc).2;have i:=ak a;have u:=ak z;have Q:=ak f;have t:=ak b;have S:=ak K;clear a z f b K;gi_wp2_with (
         refine Av rfl (Z2 44) (Z2 49) rfl (w.heap.size+3) wr.heap.size (GU C pre x.1 k) ⟨1,1+(k:Int),0,C.m k x.1⟩ v rfl rfl (t.o.alloc _) (Dd wr ⟨1,1+(k:Int),0,C.m k x.1⟩) (by have:=S.out;simp;omega) (by omega) ?_;
         rintro g' cap' w2 T I J;
         obtain ⟨c1,O,E⟩:=i.o.next Q.o t.o J T I;
         have q:=ak E;
         clear E J I)
        go_roundw
        case rel=>exact ⟨k+1,by go_num,by omega,by rw [Ro pre h0];exact q.out.1,u.o.trans q.out.2⟩
        case measure=>simp [intOf];omega
    . have ki:¬ (k:Int)<C.told:=(by omega);obtain rfl:k=C.told:=(by omega);have i:=ak a;have u:=ak z;clear a z;gi_wp2;refine ⟨u.o.from _,λ_=>W.mono (by omega) i.o.below,?_,TZ HX.o u.o.size⟩;rw [<- HE.o];exact i.o
 case done=>
  rintro D xs X hD q5 ⟨a,hX⟩ hK;rw [OU q5] at a;have qo:w.heap.size+3<=D:=by have:=P.out;have:=N.o;omega
  have qb:D<X.heap.size:=(T5.1 hK).1;clear q5 xs ka k6 hX;have i:=ak a;have u:=ak hK;clear a hK;gi_wp2;refine dk (dN gone _) ?_;rintro e w' ⟨rfl,F⟩;have q8:w'.heap.size=X.heap.size+1+1:=by rw [F];simp
  have kv:w'.cell? ⟨X.heap.size+1,0,ZY⟩=ZX (Z7 Z8 (gone:Int)):=by
   have:=(Bx.new (X.alloc (Z4 #[Z7 Z9 0] 3)) 133 (Z7 Z8 (gone:Int))).cell;rw [Uw] at this;rw [F];exact this
  have kf:X.grownBy w' ZY:=by rw [F];exact BF (ace X _ ZY) _
  have q2:WP w C (1+((ab gone).length:Int)) kept X.heap.size D [] w':=by
   refine ⟨by rw [OV];exact i.o.own (B:=w.heap.size+3) lR kf (λr e=>by cases e),?_,(kf.block D qb (λe=>by cases e)).trans u.o⟩;rw [F];exact (UH X 3 (Z7 Z9 0)).alloc _
  have y:=ak q8;have q9:=ak kv;have kp:=ak q2;clear q8 kv q2 kf F i u;gi_wp2;refine Wp rfl (by have:=HN.o;omega) (gf:=147) (lb:=#[Z6 (ZX ⟨X.heap.size+1,0,ZY⟩)]) rfl trivial (VC func147 (by kernel_rfl) rfl)
   (eV (n-1) (X.heap.size+1) gone hg w' (by have:=y.out;omega) q9.out (by have:=y.out;omega) (W.mono (by omega) kp.out.wi.below)) (λh k=>qK h k) (qM (by have:=y.out;omega)) (T6 _ _) (λ_=>rfl)
   (λpre Y=>WP w C (1+((ab gone).length:Int)) kept X.heap.size D pre Y/\w'.heap.size<=Y.heap.size) (λ_ _ _=>False)
   (λpre A Y row H V hr=>⟨H.1.own (B:=w'.heap.size) (by have:=y.out;omega) (by have:=y.out;omega) (by have:=y.out;omega) V hr,TZ H.2 V.size⟩) (λc pre X Y row H _ _=>H.elim) ⟨kp.out,TY _⟩
   (λx=>{ tmps:=#[.agg (aU C),Z7 Z8 (gone:Int),Z7 Z8 (kept:Int),Z6 (ZX ⟨w.heap.size,0,ZY⟩),ZZ,ZZ,Z6 (ZX ⟨w.heap.size+1,0,ZY⟩),Z6 (ZX ⟨w.heap.size+1+1,0,ZY⟩),ZZ,ZZ,ZZ,Z6 (ZX ⟨X.heap.size,0,ZY⟩),Z7 Z9 (x.1:Int),Z7 Z8 (gone:Int),Z7 Z9 ((ab gone).length:Int),Z7 Z9 (1+((ab gone).length:Int)),.agg #[Z7 Z9 (1+((ab gone).length:Int)),Z5 ZY 0 0],Z7 Z8 (kept:Int),.func (.func 147) #[] #[Z6 (ZX ⟨l.heap.size,0,ZY⟩)],ZZ,ZZ,ZZ,ZZ,ZZ,ZZ,ZZ,ZZ,ZZ,ZZ,ZZ,ZZ,ZZ,ZZ,ZZ,ZZ,ZZ,ZZ,ZZ,ZZ,ZZ,ZZ,ZZ,ZZ,ZZ,ZZ,ZZ,ZZ,ZZ,ZZ,ZZ,ZZ,ZZ,ZZ,Z7 Z8 (gone:Int),.func (.func 147) #[] #[Z6 (ZX ⟨X.heap.size+1,0,ZY⟩)],Z7 Z9 (x.1:Int),ZZ,ZZ,ZZ,ZZ,ZZ,ZZ,ZZ,ZZ,ZZ,ZZ,ZZ],defers:=[] }) ?assign2 ?body2 ?done2 ?stop2
  case assign2=>
   intro l2 x Y Kk hK;unfold qJ;gi_wp2;exact hK
  case body2=>
   rintro l2 pre x Y ⟨s,hY⟩ R;have qp:=Rq C G kept pre gone R;have qf:pre.length<16:=(by omega);have kc:w.heap.size+3<=X.heap.size:=(by omega);have hs:=s.wi.set (u':=Z7 Z9 ((pre.length:Int)+1)) kc s.box;obtain ⟨_,_,v,f,b⟩:=hs.pb;have K:w.heap.size+3<=(Y.setCell ⟨X.heap.size,0,ZY⟩ (Z7 Z9 ((pre.length:Int)+1))).heap.size:=hs.pb.2.1;obtain ⟨c0,c1,O,_⟩:=ay f;have cb:=s.box.cell;have fb:=s.box.frozen;have hb:=(s.box.set (Z7 Z9 ((pre.length:Int)+1))).cell;have HP:=ak s;have Q:=ak f;have t:=ak b;have S:=ak K;have HY:=ak hY;have qa:=ak kc;clear s f b K hY hs R kc;gi_wp2_with (
    refine Av rfl (Z2 59) (Z2 63) rfl (w.heap.size+3) Y.heap.size (yF C kept pre) ⟨2,(pre.length:Int)+1,(x.1:Int),0⟩ v rfl rfl (t.o.alloc _) (Jj _ Y.heap.size (by simp) ⟨2,(pre.length:Int)+1,(x.1:Int),0⟩) (by have:=S.out;simp at this ⊢;omega) (by omega) ?_;
    rintro g' cap' w2 T I J;
    obtain ⟨c1,O,E⟩:=HP.o.next qa.out Q.o t.o J T I;
    have q:=ak E;
    clear E J I)
   refine ⟨q.out.2.from _,λ_=>W.mono (by omega) q.out.1.wi.below,q.out.1,TZ HY.o q.out.2.size⟩
  case done2=>
   rintro M ys Y qk qh ⟨s,hY⟩ k7;have L:=s.wi;rw [OW qh] at L;have hm:=s.mark;obtain ⟨_,_,v,f,b⟩:=L.pb;obtain ⟨c0,c1,O,f0⟩:=ay f;obtain ⟨r0,r1,g1,g0⟩:=ay L.res;obtain ⟨ao,m,j,rfl⟩:∃ ao m j,v=.slice ao m j:=by
    rcases b.2 with ⟨rfl,_⟩|⟨g,cap,cur,rfl,_⟩
    . exact ⟨_,_,_,rfl⟩
    . exact ⟨_,_,_,rfl⟩
   have t:=a5 L hm b k7;clear L hm b k7 s hY f;gi_wp2;obtain ⟨L,hm,b,k7⟩:=t.o;have k5:((Y.setCell ⟨w.heap.size+1,0,ZY⟩ (Z7 Z9 (1+((ab gone).length:Int)))).setCell ⟨w.heap.size+1,1,ZY⟩ (.slice ao m j)).heap[w.heap.size+1]?=ZX (Z4 #[Z7 Z9 (1+((ab gone).length:Int)),.slice ao m j] 206 (0,0)):=
    iX (iW L.res)
   have z:=(V9 Y ⟨w.heap.size+1,0,ZY⟩ (Z7 Z9 (1+((ab gone).length:Int)))).trans (V9 _ ⟨w.heap.size+1,1,ZY⟩ (.slice ao m j));have kr:bW w ((Y.setCell ⟨w.heap.size+1,0,ZY⟩ (Z7 Z9 (1+((ab gone).length:Int)))).setCell ⟨w.heap.size+1,1,ZY⟩ (.slice ao m j)):=(L.below.setCell (p:=⟨w.heap.size+1,0,ZY⟩) (Nat.le_succ _) _).setCell (p:=⟨w.heap.size+1,1,ZY⟩) (Nat.le_succ _) _;have hq:((Y.setCell ⟨w.heap.size+1,0,ZY⟩ (Z7 Z9 (1+((ab gone).length:Int)))).setCell ⟨w.heap.size+1,1,ZY⟩ (.slice ao m j)).ownsRow (w.heap.size+3) 299 4 (.slice ao m j) (fX C gone kept).length (eG .u8 (fX C gone kept)):=
    (b.kept (dD Y (w.heap.size+1) 0 _) (.inr λe=>by have:=jP b e;omega)).kept (dD _ (w.heap.size+1) 1 _) (.inr λe=>by have:=jP b e;omega)
   have k8:=z.same M _ k7 rfl;have ke:=z.same D _ hm rfl;have kb:D≠M:=(by have:=y.out;omega);have q0:=(T5.1 k8).1;have qd:=(T5.1 ke).1;have kj:M≠w.heap.size+1:=(by have:=y.out;omega);generalize ((Y.setCell ⟨w.heap.size+1,0,ZY⟩ (Z7 Z9 (1+((ab gone).length:Int)))).setCell ⟨w.heap.size+1,1,ZY⟩ (.slice ao m j))=Z at k5 kr hq k8 ke q0 qd ⊢;have hn:(Z.putObj M (.deferred ZY)).heap[D]?=ZX (.deferred (ZX [])):=(U6 kb).trans ke;refine ⟨by simp,.inl ⟨_,_,rfl,WE k8,by simp,.inl ⟨_,_,rfl,WE hn,?_⟩⟩⟩;have qg:((Z.putObj M (.deferred ZY)).putObj D (.deferred ZY)).heap[w.heap.size+1]?=ZX (Z4 #[Z7 Z9 (1+((ab gone).length:Int)),.slice ao m j] 206 (0,0)):=((U6 (by omega)).trans (U6 (Vo kj))).trans k5;have kg:=Xf Z M (.deferred ZY);have kh:=Xf (Z.putObj M (.deferred ZY)) D (.deferred ZY);have q1:∀ (U:ZU) (d:Nat),U.heap[d]?=ZX (.deferred (ZX []))->U.ownsRow (w.heap.size+3) 299 4 (.slice ao m j) (fX C gone kept).length (eG .u8 (fX C gone kept))->(Value.slice ao m j).ownBlock≠ZX d:=by
    intro U d hd hU e;rcases hU.2 with ⟨e1,_⟩|⟨g,cap,cur,e1,_,kx,_⟩
    . cases e1;cases e
    . cases e1;obtain rfl:g=d:=(by simpa [Value.ownBlock] using e);rw [hd] at kx;cases kx
   have k0:=hq.kept kg (.inr (q1 _ _ k8 hq));have kk:=k0.kept kh (.inr (q1 _ _ hn k0));exact ⟨_,V8 results211 _ _ (w.heap.size+1) 206 #[Z7 Z9 (1+((ab gone).length:Int)),.slice ao m j] (0,0) _ rfl qg underlying206 rfl Jk,_,rfl,Below.RY (Below.RY kr (by have:=y.out;omega) q0 _) (by omega) (T5.1 hn).1 _,gx kk (by omega)⟩
  case stop2=>
   rintro D c pre X _ _ G;exact G.elim
 case stop=>
  rintro D c pre X _ _ G;exact G.elim
end
structure CI (w:ZU) (D L G:Int) (X:ZU):Prop where
 par:X.heap[w.heap.size]?=ZX (Z4 #[Z7 Z9 D,Z7 Z9 L,Z7 Z9 G] 27 (0,0))
 res:X.heap[w.heap.size+1]?=ZX (Z4 #[Z7 Z9 0,Z5 ZY 0 0] 206 (0,0))
 below:bW w X
def CI.mono {D L G:Int} (h:CI w D L G X) (a:ZS B X Y) (b:w.heap.size+2<=B):CI w D L G Y:=
 ⟨(a.block _ (by omega)).trans h.par,(a.block _ (by omega)).trans h.res,h.below.trans (a.mono (by omega))⟩
def CI.new (w:ZU) (D L G:Int):CI w D L G ((w.alloc (Z4 #[Z7 Z9 D,Z7 Z9 L,Z7 Z9 G] 27)).alloc (Z4 #[Z7 Z9 0,Z5 ZY 0 0] 206)):=by
 refine ⟨?_,?_,(bA w _).alloc (by simp) _⟩
 . rw [We _ _ _ (by simp)];exact X2 _ _
 . have:=X2 (w.alloc (Z4 #[Z7 Z9 D,Z7 Z9 L,Z7 Z9 G] 27)) (Z4 #[Z7 Z9 0,Z5 ZY 0 0] 206);rwa [Uw] at this
def Rs (n:Nat):Nat:=2^n-1
def Mw (lost n:Nat) (hl:lost<18446744073709551616) (a:n<=16):bits .and .u64 (lost:Int) (Rs n:Int)=((aw n lost:Nat):Int):=by
 have:=m6 a;have:0<2^n:=Wh n;exact fI lost (2^n-1) hl (by omega)
def Mx (lost n:Nat) (a:n<=16):bits .andNot .u64 (Rs n:Int) ((aw n lost:Nat):Int)=((bE n lost:Nat):Int):=by
 have:=m6 a;have:=oK lost a;exact YC (2^n-1) (aw n lost) (by omega) (by omega)
def Ru (D L G lost:Nat) (w:ZU) (e:ZQ) (w':ZU):Prop:=
 bW w w'/\((tells (jO D L G) (ab (aw (D+L+G) lost))=ZY/\e=Z3 (Z0 #[.agg #[Z7 Z9 0,Z5 ZY 0 0],.iface 66 (Z7 Z9 3)])) \/
  (∃ C v,tells (jO D L G) (ab (aw (D+L+G) lost))=ZX C/\e=Z3 (Z0 #[.agg #[Z7 Z9 (1+((ab (aw (D+L+G) lost)).length:Int)),v],.nilIface]) /\
   w'.ownsRow w.heap.size 299 4 v (fX (aP 8 C (bE (D+L+G) lost)).1 (aw (D+L+G) lost) (bE (D+L+G) lost)).length (eG .u8 (fX (aP 8 C (bE (D+L+G) lost)).1 (aw (D+L+G) lost) (bE (D+L+G) lost)))))
def My (k:Nat) (a:k<=16) (b:z=(k:Int)) (w:ZU) :
 ZR ZN 135 #[Z7 Z9 z] w λe w'=>e=Z3 (Z7 Z8 (Rs k:Int))/\w'=w:=by subst b;exact mu k a w
theorem wh (D L G lost:Nat) (hr:dg D L G=ZW) (kb:1<=D) (hD:D<=12) (hL:1<=L) (U:L<=4) (hG:G<=4) (hs:D%L=0) (c:D+L+G<=16) (hl:lost<18446744073709551616) (w:ZU) (E:aJ w) (h2:3<=w.heap.size) :
 ZR ZN 196 #[.agg #[Z7 Z9 D,Z7 Z9 L,Z7 Z9 G],Z7 Z8 lost] w λe w'=>Ru D L G lost w e w':=by
 have h:=CI.new w D L G;have j:((w.alloc (Z4 #[Z7 Z9 (D:Int),Z7 Z9 (L:Int),Z7 Z9 (G:Int)] 27)).alloc (Z4 #[Z7 Z9 0,Z5 ZY 0 0] 206)).heap.size=w.heap.size+2:=by simp
 obtain ⟨p0,p1,p2⟩:=fy h.par;have K:=al h j;clear h j;go_enter func196,ntmps196;go_wp2_with fail;refine (pB D L G _).mono ?_;rintro e w1 ⟨rfl,q⟩;obtain ⟨h,j⟩:=K.o;try change ZS _ _ _ at q
 rw [j] at q;have kc:=q.size;try change ZS _ _ _ at kc
 rw [j] at kc;have A:=h.mono q lR;obtain ⟨p0,p1,p2⟩:=fy A.par;have M:=ak A;clear K h j q A;go_wp2_with fail;refine (dQ D L G _ (by omega) (by omega) (by omega)).mono ?_;rintro e w2 ⟨rfl,F⟩;have kh:=F.size;have B:=M.o.mono F (by omega);obtain ⟨p0,p1,p2⟩:=fy B.par;have r:=ak B;clear B F M;go_wp2_with fail;refine (My (D+L+G) c (by omega) w2).mono ?_;rintro e J ⟨rfl,hx⟩;subst hx;have kf:=Mw lost (D+L+G) hl c;go_wp2_with fail;refine (lh D L G (aw (D+L+G) lost) hr kb hD hL U hG hs c (oK lost c) J (E.mono (by omega) r.o.below) (by omega)).mono ?_;rintro e a ⟨x,hg⟩;have ki:=x.size;have t:=r.o.mono x (by omega);have hz:=zeroCk;rcases hg with ⟨y,rfl⟩|⟨C,u,rfl⟩
 . have S:=b9 dU;have n:bW a ((a.alloc (Z4 (aU dU) 332)).setRow a.heap.size (aU dU)):=(bA _ _).grown (aN _ _ _) (by simp) (λk e=>by cases e;exact TY _);have d:=t.mono n (by omega);obtain ⟨r0,r1,g1,g0⟩:=ay d.res;have b:=al d y;clear t d x n r y;go_wp2_with (refine Wu rfl 332 (Z2 8) (Z2 25) rfl a.heap.size (aU dU) rfl rfl 332 (aU dU) (aF.new a dU).heap (dZ _) rfl (mz _) ?_);obtain ⟨R,y⟩:=b.o;have z:=iX (y':=Z5 ZY 0 0) (iW (x':=Z7 Z9 0) R.res);obtain ⟨n0,I,_⟩:=ay z;refine Uv (v:=Z0 #[.agg #[Z7 Z9 0,Z5 ZY 0 0],.iface 66 (Z7 Z9 3)]) (by simp [results,results196,go_sem,n0,I]) rfl ?_;exact ⟨(R.below.setCell (p:=⟨w.heap.size+1,0,ZY⟩) (by show w.heap.size<=w.heap.size+1;omega) _).setCell (p:=⟨w.heap.size+1,1,ZY⟩) (by show w.heap.size<=w.heap.size+1;omega) _,.inl ⟨y,rfl⟩⟩
 . have s:=(oM hD hG u).1;have Q:=Au hD U hG u;have O:eF (aP 8 C (bE (D+L+G) lost)).1:=⟨s.byt,s.le,by have:=s.Sl;omega⟩;have kg:=Mx lost (D+L+G) c;have S:=b9 C;have n:bW a ((a.alloc (Z4 (aU dU) 332)).setRow a.heap.size (aU C)):=(bA _ _).grown (aN _ _ _) (by simp) (λk e=>by cases e;exact TY _);have X:aF ((a.alloc (Z4 (aU dU) 332)).setRow a.heap.size (aU C)) a.heap.size C:=(aF.new a dU).setRow C;have d:=t.mono n (by omega);have ka:((a.alloc (Z4 (aU dU) 332)).setRow a.heap.size (aU C)).heap.size=a.heap.size+1:=(by simp [World.setRow]);have V:=E.mono (by omega) d.below;have b:=a6 d X ka V u;have N:=al Q O;clear t d x n X ka V r u s Q O;go_wp2_with (first
    | refine Wu rfl 332 (Z2 8) (Z2 25) rfl a.heap.size (aU C) rfl rfl 332 (aU dU) (aF.new a dU).heap (dZ _) (by rw [b9,b9]) (mz _) ?_
    | refine YE rfl 332 (Z2 8) rfl a.heap.size rfl 332 (aU C) (0,0) _ b.o.2.1.heap XM rfl (dZ _) ?_)
   obtain ⟨w5,Z⟩:=nM ((a.alloc (Z4 (aU dU) 332)).setRow a.heap.size (aU C));rw [Z] at b ⊢;clear Z S hz;refine (Fa C (bE (D+L+G) lost) w5 N.o.1 (CS lost c) b.o.2.2.2.1 (by have:=b.o.2.2.1;omega)).mono ?_;rintro e w7 ⟨rfl,H⟩;have kj:=H.size;have Y:=b.o.1.mono H (by have:=b.o.2.2.1;omega);have ke:a.heap.size+1<=w7.heap.size:=(by have:=b.o.2.2.1;omega);have T:=ak Y;clear Y H;go_wp2_with fail;refine (Jl (aP 8 C (bE (D+L+G) lost)).1 (aw (D+L+G) lost) (bE (D+L+G) lost) w7 N.o.2 (oK lost c) (CS lost c) (E.mono (by omega) T.out.below) (by omega)).mono ?_;rintro e w8 ⟨v,rfl,W,l⟩;obtain ⟨ao,m,f,rfl⟩:∃ ao m f,v=.slice ao m f:=by
    rcases l.2 with ⟨rfl,_⟩|⟨g,cap,cur,rfl,_⟩
    . exact ⟨_,_,_,rfl⟩
    . exact ⟨_,_,_,rfl⟩
   have i:=T.out.mono W (by omega);obtain ⟨r0,r1,g1,g0⟩:=ay i.res;have H8:=al i l;clear i l W;go_wp2;obtain ⟨i,l⟩:=H8.o;have z:=iX (y':=.slice ao m f) (iW (x':=Z7 Z9 (1+((ab (aw (D+L+G) lost)).length:Int))) i.res);obtain ⟨n0,I,_⟩:=ay z;have P:(Value.slice ao m f).ownBlock≠ZX (w.heap.size+1):=λe=>by have:=jP l e;omega
   have hv:=(l.kept (dD w8 (w.heap.size+1) 0 (Z7 Z9 (1+((ab (aw (D+L+G) lost)).length:Int)))) (.inr P)).kept (dD _ (w.heap.size+1) 1 (.slice ao m f)) (.inr P);refine Uv (v:=Z0 #[.agg #[Z7 Z9 (1+((ab (aw (D+L+G) lost)).length:Int)),.slice ao m f],.nilIface]) (by simp [results,results196,go_sem,n0,I]) rfl ?_;exact ⟨(i.below.setCell (p:=⟨w.heap.size+1,0,ZY⟩) (by show w.heap.size<=w.heap.size+1;omega) _).setCell (p:=⟨w.heap.size+1,1,ZY⟩) (by show w.heap.size<=w.heap.size+1;omega) _,.inr ⟨C,_,b.o.2.2.2.2,rfl,gx hv (by omega)⟩⟩
section
theorem Fp (s i:Nat) (g:s<65536) (f:i<16) (w:ZU):ZR ZN 209 #[Z7 Z8 s,Z7 Z9 i] w λe w'=>e=Z3 (.bool (s.testBit i))/\w'=w:=by
 have key:(bits .and .u64 ((s:Int)/2^i) 1==1)=s.testBit i:=by
  have e:((s:Int)/2^i)=((s/2^i:Nat):Int):=by rw [X4,XE];rfl
  have d:s/2^i<=s:=VT _ _;have b:=fI (s/2^i) 1 (by omega) (by decide);rw [e,show ((1:Int))=((1:Nat):Int) from rfl,b,Nat.and_one_is_mod,Wy];by_cases c:s/2^i%2=1
  . rw [c];rfl
  . have a:s/2^i%2=0:=(by omega);rw [a];rfl
 go_enter func209,ntmps209;go_wp2;go_ret;exact ⟨by rw [<- key];rfl,rfl⟩
def OX {e s:Nat} {xs:List ZT} (b:w.ownsRow base e s v n xs):∃ ao m a,v=.slice ao m a:=by
 rcases b.2 with ⟨rfl,_⟩|⟨g,cap,cur,rfl,_⟩
 . exact ⟨_,_,_,rfl⟩
 . exact ⟨_,_,_,rfl⟩
def yG (h:lost<2^n):aw n lost=lost:=by unfold aw;rw [abU,V3 h]
def GV (hD:D<=12) (hG:G<=4) (h:D+L+G<=16) (b:tells (jO D L G) (ab (aw (D+L+G) lost))=ZY):¬ gW D L G lost:=λq=>by
 obtain ⟨C,a⟩:=(Fh hD hG h).1 q;rw [b] at a;cases a
theorem OY {s:Nat} (hD:D<=12) (hG:G<=4) (h16:D+L+G<=16) {K:a8} {C:Ck} (hK:tells (jO D L G) K=ZX C) (f:∀ i,i∈K↔i<D+L+G/\s.testBit i=ZW):gW D L G s:=by
 have b:=jN D L G hD hG;have e:D+(L+G)=D+L+G:=by omega
 unfold gW;rw [CV _ _ _ h16];rcases b.told K with ⟨h,_,d⟩|⟨c,_⟩
 . have:=b.full d;rw [e] at this;have g:(λi=>i∉ab (aw (D+L+G) s))=λi=>i∉K:=funext λi=>propext (not_congr ((cd h16).trans (f i).symm));rw [g];exact this
 . have a:tells (jO D L G) K=ZY:=c;rw [hK] at a;cases a
def uG:ZQ:=Z3 (Z0 #[.agg #[Z7 Z9 0,Z5 ZY 0 0],.iface 66 (Z7 Z9 3)])
def GrA (D L G lost:Nat) (w w':ZU) (z:Int) (ao:Option Addr) (m c:Nat) (er:ZT):Prop:=bW w w'/\((er=.iface 66 (Z7 Z9 3)/\z=0/\ao=ZY/\m=0/\c=0/\¬ gW D L G lost)\/(er=.nilIface/\∃ s C,(∀ i,lost.testBit i=ZW->s.testBit i=ZW)/\tells (jO D L G) (ab (aw (D+L+G) s))=ZX C/\z=1+((ab (aw (D+L+G) s)).length:Int)/\w'.ownsRow w.heap.size 299 4 (.slice ao m c) (bZ D L G s C).length (eG .u8 (bZ D L G s C))))
def Rv (D L G lost:Nat) (w:ZU) (e:ZQ) (w':ZU):Prop:=∃ z ao m c er,e=Z3 (Z0 #[.agg #[Z7 Z9 z,.slice ao m c],er])/\GrA D L G lost w w' z ao m c er
def Rv.no (h:bW w w') (a:¬ gW D L G lost):Rv D L G lost w uG w':=⟨0,ZY,0,0,_,rfl,h,.inl ⟨rfl,rfl,rfl,rfl,rfl,a⟩⟩
def aaL (w:ZU) (D L G lost cb:Nat) (lv iv:ZT) (wr:ZU):Prop:=
 ∃ (k s:Nat) (C:Ck),k<=D+L+G/\lv=Z7 Z8 (s:Nat)/\iv=Z7 Z9 ((D+L+G:Nat)-1-(k:Int))/\aF wr cb C/\(∃ K,tells (jO D L G) K=ZX C/\∀ i,i∈K↔i<D+L+G/\s.testBit i=ZW)/\(∀ i,lost.testBit i=ZW->s.testBit i=ZW)/\s<2^(D+L+G)/\CI w D L G wr/\cb<wr.heap.size/\w.heap.size+2<=cb
section
variable (D L G lost:Nat) (hr:dg D L G=ZW) (hD1:1<=D) (hD:D<=12) (hL:1<=L) (hL4:L<=4) (hG:G<=4) (hdiv:D%L=0) (h16:D+L+G<=16) (hl:lost<2^(D+L+G))
include hr hD1 hD hL hL4 hG hdiv h16 hl
def qY (w:ZU) (k:aJ w) (g:3<=w.heap.size):ZR ZN 196 #[.agg #[Z7 Z9 D,Z7 Z9 L,Z7 Z9 G],Z7 Z8 lost] w (Rv D L G lost w):=by
 have:lost<65536:=T9 hl (m6 h16);refine (wh D L G lost hr hD1 hD hL hL4 hG hdiv h16 (by omega) w k g).mono ?_;rintro e w1 ⟨a,f⟩;rcases f with ⟨j,rfl⟩|⟨c,v,h,rfl,b⟩
 . exact Rv.no a (GV hD hG h16 j)
 . obtain ⟨ao,m,d,rfl⟩:=OX b;exact ⟨_,ao,m,d,_,rfl,a,.inr ⟨rfl,lost,c,λi q=>q,h,rfl,b⟩⟩
theorem De (w:ZU) (hT:aJ w) (d:3<=w.heap.size):ZR ZN 195 #[.agg #[Z7 Z9 D,Z7 Z9 L,Z7 Z9 G],Z7 Z8 lost] w (Rv D L G lost w):=by
 have kx:lost<65536:=T9 hl (m6 h16);have g:=CI.new w D L G;have r:((w.alloc (Z4 #[Z7 Z9 (D:Int),Z7 Z9 (L:Int),Z7 Z9 (G:Int)] 27)).alloc (Z4 #[Z7 Z9 0,Z5 ZY 0 0] 206)).heap.size=w.heap.size+2:=by simp
 obtain ⟨S,T,U⟩:=fy g.par;have kh:=lh D L G lost hr hD1 hD hL hL4 hG hdiv h16 kx _ (hT.mono (by omega) g.below) (TZ d g.below.size);have W:=aE g r kh;clear g r kh;go_enter func195,ntmps195;go_wp2_with fail;refine W.o.2.2.mono ?_;rintro e w1 ⟨E,hx⟩;obtain ⟨g,r,_⟩:=W.o;try change ZS _ _ _ at E
 rw [r] at E;have t:=E.size;try change ZS _ _ _ at t
 rw [r] at t;have Y:=g.mono E lR;have hz:=zeroCk;have k7:∀ C,bW w1 ((w1.alloc (Z4 (aU dU) 332)).setRow w1.heap.size (aU C)):=λC=>(bA _ _).grown (aN _ _ _) (by simp) (λk e=>by cases e;exact TY _);rcases hx with ⟨kk,rfl⟩|⟨C,N,rfl⟩
 . have f:=Y.mono (k7 dU) t;obtain ⟨r0,r1,g1,g0⟩:=ay f.res;have x:=ak f;have kr:=ak (GV hD hG h16 (by rw [yG hl];exact kk));clear kk W g r E Y k7 f;go_wp2_with (refine Wu rfl 332 (Z2 6) (Z2 13) rfl w1.heap.size (aU dU) rfl rfl 332 (aU dU) (aF.new w1 dU).heap (dZ _) rfl (mz _) ?_);obtain ⟨n0,n1,_⟩:=ay (iX (y':=Z5 ZY 0 0) (iW (x':=Z7 Z9 0) x.o.res));refine Uv (v:=Z0 #[.agg #[Z7 Z9 0,Z5 ZY 0 0],.iface 66 (Z7 Z9 3)]) (by simp [results,results195,go_sem,n0,n1]) rfl (Rv.no ?_ kr.out);exact (x.o.below.setCell (p:=⟨w.heap.size+1,0,ZY⟩) (by show w.heap.size<=w.heap.size+1;omega) _).setCell (p:=⟨w.heap.size+1,1,ZY⟩) (by show w.heap.size<=w.heap.size+1;omega) _
 have B:aF ((w1.alloc (Z4 (aU dU) 332)).setRow w1.heap.size (aU C)) w1.heap.size C:=(aF.new w1 dU).setRow C;have f:=Y.mono (k7 C) t;obtain ⟨S,T,U⟩:=fy f.par;have x:=a5 B f t N;clear W g r E Y k7 B f N;go_wp2_with (refine Wu rfl 332 (Z2 6) (Z2 13) rfl w1.heap.size (aU C) rfl rfl 332 (aU dU) (aF.new w1 dU).heap (dZ _) rfl (mz _) ?_);obtain ⟨w5,ko⟩:=nM ((w1.alloc (Z4 (aU dU) 332)).setRow w1.heap.size (aU C));rw [ko] at x S T U ⊢;clear ko hz;refine (dQ D L G _ (by omega) (by omega) (by omega)).mono ?_;rintro e w6 ⟨rfl,k8⟩;obtain ⟨B,f,t,N⟩:=x.o;have l:=(T5.1 B.heap).1;have he:aaL w D L G lost w1.heap.size (Z7 Z8 (lost:Nat)) (Z7 Z9 ((D:Int)+L+G-1)) w6:=⟨0,lost,C,T7 _,rfl,by congr 1;omega,B.keep (k8.block _ l),⟨_,N,λi=>by have:=cd (lost:=lost) (i:=i) h16;rwa [yG hl] at this⟩,λ_ q=>q,hl,f.mono k8 (by omega),T9 l k8.size,t⟩;have kf:=ak he;clear S T U B f l k8 he x N;go_wp2;go_loopw [1,8] (λlv iv wr=>aaL w D L G lost w1.heap.size lv iv wr) (λ_ iv _=>(intOf iv+1).toNat)
 case atStart=>exact kf.out
 case round=>
  clear kf;rename ZU=>wo;obtain ⟨k,s,C1,hk,rfl,rfl,k9,⟨K,hK⟩,A,R,a,l,kg⟩:=hrel;have kz:s<65536:=T9 R (m6 h16);by_cases kj:k<D+L+G
  . obtain ⟨i,hi⟩:∃ i,i=D+L+G-1-k:=⟨_,rfl⟩;have P:((D+L+G:Nat):Int)-1-(k:Int)=(i:Int):=(by omega);rw [P];have q4:=ui w1.heap.size i C1 wo k9 (Au hD hL4 hG hK.1) (by omega);have kc:i<16:=(by omega);have HN:=hide7 a k9 l kg A R hK;have b:=aE hi kj P;clear a k9 l kg P hi kj A R hK;go_wp2_with fail;refine (Fp s i kz kc wo).mono ?_;rintro e w2 ⟨rfl,q5⟩;subst q5;cases hb:s.testBit i with
    | true=>
     go_wp2;go_roundw
     case rel=>
      obtain ⟨d,X,F,I,J,M,y⟩:=HN.o;exact ⟨k+1,s,C1,by have:=b.o;omega,rfl,by have:=b.o;congr 1;omega,X,⟨K,y⟩,J,M,d,F,I⟩
     case measure=>have:=b.o;simp [intOf]<;>omega
    | false=>
     go_wp2_with fail;refine q4.mono ?_;rintro e w3 (⟨q8,rfl,q6⟩|⟨C',ka,rfl,k6,n⟩)
     . subst q6;go_wp2;go_roundw
       case rel=>
        obtain ⟨d,X,F,I,J,M,y⟩:=HN.o;exact ⟨k+1,s,C1,by have:=b.o;omega,rfl,by have:=b.o;congr 1;omega,X,⟨K,y⟩,J,M,d,F,I⟩
       case measure=>have:=b.o;simp [intOf]<;>omega
     . have H3:=aE ka k6 n;clear ka k6 n;go_wp2_with fail;refine (fK s i (by omega) (by omega) w3).mono ?_;rintro e w4 ⟨rfl,q7⟩;subst q7;go_wp2;go_roundw
       case rel=>
        obtain ⟨d,X,F,I,J,M,y⟩:=HN.o;obtain ⟨ka,k6,n⟩:=H3.o;have ky:=d.below.size;exact ⟨k+1,s|||2^i,C',by have:=b.o;omega,rfl,by have:=b.o;congr 1;omega,k6,⟨K++[i],by rw [jY,y.1];exact ka,λj=>by rw [Un,Vn,y.2 j,VZ,Xg,X3,decide_eq_true_iff];have:=b.o;constructor;rintro (⟨V,u⟩|q);exact ⟨V,.inl u⟩;exact ⟨by omega,.inr q.symm⟩;rintro ⟨V,u|u⟩;exact .inl ⟨V,u⟩;exact .inr u.symm⟩,λj q=>by rw [VZ,J j q];rfl,WG M (VS (by decide) (by have:=b.o;omega)),
         ⟨(n.block _ (by omega) (λe=>by have:=UQ e;omega)).trans d.par,(n.block _ (by omega) (λe=>by have:=UQ e;omega)).trans d.res,d.below.grown n ky (λq e=>by have:=UQ e;omega)⟩,T9 F n.size,I⟩
       case measure=>have:=b.o;simp [intOf]<;>omega
  . have kv:k=D+L+G:=(by omega);subst kv;have P:((D+L+G:Nat):Int)-1-((D+L+G:Nat):Int)=-1:=(by omega);rw [P];have ki:=qY D L G s hr hD1 hD hL hL4 hG hdiv h16 R wo (hT.mono (by omega) a.below) (TZ d a.below.size);obtain ⟨S,T,U⟩:=fy a.par;have H:=aE A ki a;have ks:=ak (OY hD hG h16 hK.1 hK.2);clear ki a k9 l A hK R;go_wp2_with fail;refine H.o.2.1.mono ?_;rintro e w3 ⟨z,ao,m,c,er,rfl,O,Z⟩;have a:=H.o.2.2;have kp:=(T5.1 a.res).1;have Q:=(O.block _ kp).trans a.res;obtain ⟨r0,r1,g1,g0⟩:=ay Q;have H3:=a5 Z O Q kp;clear Z O Q S T U a;go_wp2;obtain ⟨Z,O,Q,hs⟩:=H3.o;obtain ⟨n0,n1,_⟩:=ay (iX (y':=.slice ao m c) (iW (x':=Z7 Z9 z) Q));refine Uv (v:=Z0 #[.agg #[Z7 Z9 z,.slice ao m c],er]) (by simp [results,results195,go_sem,n0,n1]) rfl ?_;obtain ⟨A,_,a⟩:=H.o;have kb:bW w w3:=a.below.trans (O.mono a.below.size);refine ⟨z,ao,m,c,er,rfl,(kb.setCell (p:=⟨w.heap.size+1,0,ZY⟩) (by show w.heap.size<=w.heap.size+1;omega) _).setCell (p:=⟨w.heap.size+1,1,ZY⟩) (by show w.heap.size<=w.heap.size+1;omega) _,?_⟩;rcases Z with q|⟨q0,s',C,V,u,q3,km⟩
    . exact absurd ks.out q.2.2.2.2.2
    . have hp:(Value.slice ao m c).ownBlock≠ZX (w.heap.size+1):=λe=>by have:=jP km e;omega
      have ke:=(km.kept (dD w3 (w.heap.size+1) 0 (Z7 Z9 z)) (.inr hp)).kept (dD _ (w.heap.size+1) 1 (.slice ao m c)) (.inr hp);exact .inr ⟨q0,s',C,λi h=>V i (A i h),u,q3,gx ke (by have:=a.below.size;omega)⟩
end
end
def Fs (k n:Nat):eW (k+1) n=eW k n++[YG n 0]:=by
 unfold eW;rw [List.replicate_succ']
def MkR (w:ZU) (B g r n:Nat) (i:ZT) (wr:ZU):Prop:=
 ∃ k T,k<=r/\i=Z7 Z9 (k:Nat)/\oA wr B g r T/\cQ T n (eW k n)/\ZS B w wr/\B<=wr.heap.size
def Rw (r n:Nat) (w:ZU) (e:ZQ) (w':ZU):Prop:=∃ g T,e=Z3 (Z5 (ZX ⟨g,0,ZY⟩) r r)/\ez w' w.heap.size (Z5 (ZX ⟨g,0,ZY⟩) r r) T/\cQ T n (eW r n)/\bW w w'
def qu (h:cQ T D M):T.length=M.length:=by simpa using UB YR h
theorem AI (r n:Nat) (w:ZU) (hr:r<=32) (M:n<=4096) :
 ZR ZN 178 #[Z7 Z9 r,Z7 Z9 n] w λe w'=>Rw r n w e w':=by
 go_enter func178,ntmps178;go_wp2_with (at_make;refine mX _ rfl (Z2 7) (Z2 7) rfl _ r rfl rfl rfl (by omega) ?_;intro wc j f H;clear H);have m:oA wc w.heap.size w.heap.size r []:=⟨j.congr (λi _=>by simp [shv]),λp h=>by simp at h,by simp⟩;have v:=f.size;clear j;go_loopw [11] (λi wr=>MkR w w.heap.size w.heap.size r n i wr) (λi _=>r-(intOf i).toNat)
 case atStart=>exact ⟨0,[],T7 _,rfl,m,rfl,f,v⟩
 case round=>
  clear m f v;rename ZU=>wo;obtain ⟨k,T,L,rfl,g,a,u,F⟩:=hrel;have s:=qu a;have B:T.length=k:=by rw [s];simp [eW]
  by_cases E:k<r
  . have c:=ak a;clear a s
    go_wp2_with (at_make;refine cU _ rfl (Z2 16) (Z2 16) rfl _ n rfl rfl rfl (by omega) ?_;intro w2 C t K
                 have d:=g.below t;have I:=d.tab.cell (i:=k) E;have J:=d.tab.frozen k)
    have q:=d.push (b:=wo.heap.size) (n:=n) (l:=YG n 0) (by omega) C (by simp) (by simp;omega) (by intro x G;have:=VM G;omega) (λp h e=>by have:=(g.row p h).2.1.lt;omega);rw [B,XW] at q;refine ⟨⟨k+1,_,by omega,by go_num,q,?_,(u.trans (t.mono F)).setCell (by simp) _,by simp;omega⟩,by simp [intOf];omega⟩;have z:=c.o;unfold cQ at z ⊢;rw [Fs,UD,UD,z];rfl
  . have D:k=r:=(by omega);subst D;have y:=g.done (by omega) lR (by unfold maxLen;omega);have A:=ak y;have c:=ak a;clear y a;go_wp2;go_ret;exact ⟨_,T,rfl,A.o,c.o,u⟩
def Mz (w:ZU) (f:ZP) (g n cap:Nat) (old src:a8) (ao:Option Addr) (c:Nat) (d:aM w g old) (B:Bs w (.slice ao src.length c) src) (D:src.length=n) (ho:old.length=n) :
 ∃ w',(Builtin.copy_ #[40,40] f #[Z5 (ZX ⟨g,0,ZY⟩) n cap,.slice ao src.length c]).run ZN w=.ok (Z7 Z9 (n:Nat)) w'/\aM w' g src/\w.grownBy w' (ZX g):=by
 subst D;have o:(ZN.info? 5).map (λi=>i.size)=ZX 1:=by kernel_rfl
 by_cases a:src.length=0
 . have A:src=[]:=UY a;have z:old=[]:=UY (by omega);subst A z;exact ⟨w,run_copy_none (P:=ZN) w 40 40 f 5 (ZX ⟨g,0,ZY⟩) ao 0 cap 0 c Uq o (by simp),d,Ws _ _⟩
 . obtain ⟨s,E,e,_,_,G,u⟩:=B;simp at e;obtain ⟨b,off,h,C⟩:=u (by intro e;rw [e] at a;simp at a);rw [<- e.1] at h;subst h;have l:=run_copy_row (P:=ZN) w 40 40 f 5 g 0 src.length cap ⟨b,off,ZY⟩ src.length c _ 5 (bv src) Uq o d.heap (by simp [bv]) (λj v p=>by
    have m:j<src.length:=by
     obtain ⟨q,_⟩:=Vc.1 p;simpa [bv] using q
    rw [Vp,C j m,<- p];simp [bv,m]) (by simp [bv];omega) (by intro v r;simp [bv] at r;obtain ⟨x,_,rfl⟩:=r;rfl)
   have t:(List.take 0 (List.map (λx=>Value.int .u8 ((x:Nat):Int)) old).toArray.toList++bv src++List.drop (0+(bv src).length) (List.map (λx=>Value.int .u8 ((x:Nat):Int)) old).toArray.toList)=src.map (λx=>Value.int .u8 ((x:Nat):Int)):=by
    simp [bv];omega
   rw [t] at l;refine ⟨w.setRow g (src.map (λx=>Value.int .u8 ((x:Nat):Int))).toArray,by rw [l];simp [bv,goInt],?_,?_⟩
   . exact aM.of_heap (Vy w g (old.map (λx=>Value.int .u8 ((x:Nat):Int))).toArray (src.map (λx=>Value.int .u8 ((x:Nat):Int))).toArray 5 _ d.heap)
   . refine ⟨rfl,rfl,rfl,by simp [World.setRow],λk F y=>setRow_other w g k _ (λe=>y (by rw [e]))⟩
def Jm {K:Act->ZU->Prop} (b:o.guard=ZY) (d s:Operand) (ho:o.op=.call { callee:=.builtin .copy,args:=#[d,s],argTypes:=#[40,40] })
 (vd vs v':ZT) (hd:a.eval d=vd) (hs:a.eval s=vs) (h0:(Builtin.copy_ #[40,40] o.type #[vd,vs]).run ZN w=.ok v' w') (h:K (a.put o.dst v') w'):if Region.wanted o (yielded ops a.tmps)=ZW then Oper.wp ZN o a w K Q else E:=by
 rw [TX (by simp [Region.wanted,b])];unfold Oper.wp;simp [execOp,ho,resolve,invoke,builtin,hd,hs,h0,Result.andThen];exact h
def AJ {xs:List ZT} (h:w.ownsRow base 254 2 v n xs) {b:Nat} {l:a8} (i:aM w b l):v.ownBlock≠ZX b:=by
 intro e;rcases h.2 with ⟨f,_⟩|⟨g,cap,cur,d,k,a,_⟩
 . rw [f] at e;simp [Value.ownBlock] at e
 . rw [d] at e;simp [Value.ownBlock] at e;subst e;obtain ⟨c,j,_⟩:=i;rw [j] at a;simp at a
def mR.aside {O:List (Int×Nat×Nat×a8)} (h:mR 254 w base v O) (j:aM w b l) (f:w.grownBy w' (ZX b)) (i:∀ q∈O,q.2.1≠b):mR 254 w' base v O:=
 ⟨h.own.kept f (.inr (AJ h.own j)),λq g=>by
  obtain ⟨a,c,d⟩:=h.row q g;exact ⟨a,c.grown f (by intro e;simp at e;exact i q g e),d⟩,h.nodup⟩
def Jn {R:List a8} (h:cQ T n R) (i:Nat) (b:i<T.length) (l:a8):cQ (T.set i (T[i].1,T[i].2.1,l)) n (R.set i l):=by
 have:=qu h;have a:=h.at b (by omega);unfold cQ at *;rw [List.map_set,List.map_set,h,a]
section
def uH (x y:a8) (c:Nat):(iP x y c).length=x.length:=by simp [iP]
def Jo {x y:a8} (e:∀ a∈x,a<256) (d:c<256):∀ a∈iP x y c,a<256:=by
 intro a b;simp only [iP,Ua,UA] at b;obtain ⟨j,_,rfl⟩:=b;exact Wc (n:=8) (dz e j) (bB _ d)
theorem AK (b d n c:Nat) (x y:a8) (w:ZU) (p:c<256) (q:aM w b x) (r:aM w d y) (f:x.length=n) (s:y.length=n) (l:d≠b) (m:∀ a∈x,a<256) (o:∀ a∈y,a<256) (v:n<=100000) :
 ZR ZN 179 #[Z5 (ZX ⟨b,0,ZY⟩) n n,Z5 (ZX ⟨d,0,ZY⟩) n n,Z7 .u8 c] w λe w'=>e=Z3 (Z0 #[])/\aM w' b (iP x y c)/\w.grownBy w' (ZX b):=by
 have hr:w.rowIs b 5 n (tv (λi=>x.getD i 0)):=by
  have:=q;unfold aM at this;rw [f] at this;exact this
 refine (jq b 5 n 0 n n d 0 n c (λi=>x.getD i 0) (λi=>y.getD i 0) w p hr (λj=>dz m j) (λj=>dz o j) (by omega) (by omega) (λi t=>by rw [Um];exact r.cell i (by omega)) (.inl l)).mono ?_;rintro e w' ⟨rfl,g,h⟩;refine ⟨rfl,?_,h⟩;unfold aM;rw [uH,f];refine g.congr λj u=>?_;have k:j<x.length:=by omega
 unfold tv vb gZ iP;rw [TX (by omega)];simp [k]
structure Rn (w0:ZU) (B:Nat) (P:List St) (D R0:List a8) (n r gR k:Nat) (vO:ZT) (T:List (Nat×Nat×a8)) (O:List (Int×Nat×Nat×a8)) (wr:ZU):Prop where
 tab:ez wr B (Z5 (ZX ⟨gR,0,ZY⟩) r r) T
 hold:cQ T n (bU P D R0 k)
 len:∀ l∈bU P D R0 k,l.length=n
 outs:mR 254 wr B vO O
 vals:O.map (λq=>(q.1,q.2.2.2.take q.2.2.1))=dE P D R0 k
 apart:∀ p∈T,∀ q∈O,p.1≠q.2.1
 below:ZS B w0 wr
 size:B<=wr.heap.size
variable {w0:ZU} {B:Nat} {P:List St} {D R0:List a8} {n r gR k:Nat} {vO:ZT} {T:List (Nat×Nat×a8)} {O:List (Int×Nat×Nat×a8)} {w:ZU}
def Rn.next (h:Rn w0 B P D R0 n r gR k vO T O w) {w':ZU} (a:bW w w'):Rn w0 B P D R0 n r gR k vO T O w':=
 ⟨h.tab.below a,h.hold,h.len,h.outs.below a,h.vals,h.apart,h.below.trans (a.mono h.size),TZ h.size a.size⟩
def Rn.tlen (h:Rn w0 B P D R0 n r gR k vO T O w):T.length=r:=by
 rcases h.tab.shape with ⟨e,_⟩|⟨g,cap,e,_⟩
 . simp at e
 . simp at e;omega
def Rn.reg (h:Rn w0 B P D R0 n r gR k vO T O w) (A:Nat) (C:A<r):∃ g,(∃ a:A<T.length,T[A]=(g,n,(bU P D R0 k).getD A []))/\w.cell? ⟨gR,A,ZY⟩=ZX (Z5 (ZX ⟨g,0,ZY⟩) n n)/\aM w g ((bU P D R0 k).getD A [])/\((bU P D R0 k).getD A []).length=n/\(∀ x∈(bU P D R0 k).getD A [],x<256)/\g≠gR/\B<=g/\g<w.heap.size/\gR<w.heap.size/\B<=gR:=by
 have:=h.tlen;have a:A<T.length:=by omega
 have:=qu h.hold;have c:A<(bU P D R0 k).length:=by omega
 have d:=h.hold.at a c;have o:(bU P D R0 k).getD A []=(bU P D R0 k)[A]:=by simp [c]
 have l:=h.len _ (T8 c);obtain ⟨m,b,y,z,i⟩:=h.tab.row _ (T8 a);rw [o];have p:T[A]=(T[A].1,n,(bU P D R0 k)[A]):=by rw [<- d]
 have j:T[A].2.2=(bU P D R0 k)[A]:=by rw [d]
 have q:T[A].2.1=n:=by rw [d]
 rcases h.tab.shape with ⟨e,_⟩|⟨g,cap,e,v,_,_,s,u,_,t⟩
 . simp at e
 . simp at e;obtain ⟨rfl,_⟩:=e;have f:=u A a;unfold fY at f;rw [j,q,l] at f;rw [j] at b i;exact ⟨T[A].1,⟨a,p⟩,f,b,l,i,t _ (T8 a),m,b.lt,s,v⟩
def Rn.write (h:Rn w0 B P D R0 n r gR k vO T O w) {w':ZU} {A g:Nat} {l0 src:a8} (s:∃ s:A<T.length,T[A]=(g,n,l0)) (z:l0.length=n) (b:w.grownBy w' (ZX g)) (v:aM w' g src) (hl:src.length=n) (y:∀ x∈src,x<256)
 (hr:bU P D R0 (k+1)=(bU P D R0 k).set A src) (ho:dE P D R0 (k+1)=dE P D R0 k):∃ T',Rn w0 B P D R0 n r gR (k+1) vO T' O w':=by
 obtain ⟨f,e⟩:=s;have d:=T8 f;obtain ⟨m,o,_⟩:=h.tab.row _ d;have a:T[A].1=g:=by rw [e]
 have u:T[A].2.2=l0:=by rw [e]
 rw [a] at m o;refine ⟨T.set A (T[A].1,T[A].2.1,src),?_,?_,?_,?_,?_,?_,?_,?_⟩
 . exact h.tab.wrote f (by rw [a];exact b) (by rw [a];exact v) (by rw [u];omega) y
 . rw [hr];exact Jn h.hold A f src
 . rw [hr];intro l i;rcases X8 i with i|rfl
   . exact h.len l i
   . exact hl
 . exact h.outs.aside o b (λq c t=>h.apart _ d q c (by rw [a,t]))
 . rw [ho];exact h.vals
 . intro p j q c;rcases X8 j with j|rfl
   . exact h.apart p j q c
   . exact h.apart _ d q c
 . exact gI h.below b h.size m
 . exact TZ h.size b.size
def Rn.reg_ne (h:Rn w0 B P D R0 n r gR k vO T O w) {A X g g':Nat} {l o:a8} (c:∃ c:A<T.length,T[A]=(g,n,l)) (a:∃ c:X<T.length,T[X]=(g',n,o)) (m:A≠X):g'≠g:=by
 obtain ⟨d,e⟩:=c;obtain ⟨a,j⟩:=a;have f:=V6.1 h.tab.nodup;intro q;have i:T[A].1=T[X].1:=by rw [e,j];exact q.symm
 rcases Yx m with b|b
 . exact f A X (by simpa using d) (by simpa using a) b (by simpa using i)
 . exact f X A (by simpa using a) (by simpa using d) b (by simpa using i.symm)
def uI {xs ys:List ZT} {vO:ZT} (h:w.ownsRow B 40 1 (Z5 (ZX ⟨g,0,ZY⟩) c m) n xs) {n':Nat} (l:w.ownsRow B' 254 2 vO n' ys):vO.ownBlock≠ZX g:=by
 intro e;rcases h.2 with ⟨a,_⟩|⟨q,cap,cur,f,o,j,_⟩
 . simp at a
 . simp at f;obtain ⟨rfl,_⟩:=f;rcases l.2 with ⟨a,_⟩|⟨r,b,d,k,p,i,_⟩
   . rw [a] at e;simp [Value.ownBlock] at e
   . rw [k] at e;simp [Value.ownBlock] at e;subst e;rw [j] at i;simp at i
theorem yH (P:List St) (D R0:List a8):∀ k,(dE P D R0 k).length<=k
 | 0=>TY _
 | k+1=>by
  have:=yH P D R0 k;unfold dE ir;split<;>simp<;>omega
def Rn.olen (h:Rn w0 B P D R0 n r gR k vO T O w):O.length<=k:=by
 have:=UB YR h.vals;rw [Ud] at this;rw [this];exact yH P D R0 k
def Rn.put (h:Rn w0 B P D R0 n r gR k vO T O w) {w1 v:ZU} {o:Obj} {b m:Nat} {l:a8} {sh:Int} {vO':ZT} (F:bW w w1) (H:w.heap.size<=b) (C:aM w1 b (l++YG m 0)) (hl:l.length=n) (J:n<=100000) (I:n+m<=9223372036854775807) (G:∀ x∈l,x<256)
 (g:(w1.alloc o).grownBy v vO.ownBlock) (A:v.ownsRow B 254 2 vO' (O.length+1) (pF O++[Z7 Z9 sh,Z5 (ZX ⟨b,0,ZY⟩) n (n+m)]))
 (hr:bU P D R0 (k+1)=bU P D R0 k) (ho:dE P D R0 (k+1)=dE P D R0 k++[(sh,l)]):Rn w0 B P D R0 n r gR (k+1) vO' T (O++[(sh,b,n,l++YG m 0)]) v:=by
 have f:=(h.next F).next ((T6 w1.heap.size w1).alloc lR o);have:=h.size;have hll:(l++YG m 0).length=n+m:=by simp [hl]
 have y:=C.alloc o;refine ⟨?_,by rw [hr];exact h.hold,by rw [hr];exact h.len,?_,?_,?_,?_,?_⟩
 . refine ⟨f.tab.own.kept g (.inr λe=>?_),λp s=>?_,f.tab.nodup⟩
   . exact uI f.tab.own f.outs.own (by rw [<- e];rfl)
   . obtain ⟨t,i,u⟩:=f.tab.row p s;exact ⟨t,i.grown g (λe=>AJ f.outs.own i e.symm),u⟩
 . refine ⟨?_,λq d=>?_,?_⟩
   . rw [qR];simpa [pF,fY,hll,hl] using A
   . rcases Un.1 d with d|d
     . obtain ⟨t,i,u⟩:=f.outs.row q d;exact ⟨t,i.grown g (λe=>AJ f.outs.own i e.symm),u⟩
     . simp at d;subst d;refine ⟨by show B<=b;omega,y.grown g (λe=>AJ f.outs.own y e.symm),by show n<=(l++YG m 0).length;omega,⟨by show n<=140737488355328;omega,by show (l++YG m 0).length<=9223372036854775807;omega⟩,?_⟩;intro x j;rcases Un.1 j with j|j
       . exact G x j
       . have:=VM j;omega
   . rw [UD,Vb];refine ⟨h.outs.nodup,by simp,?_⟩;intro a E c z;obtain ⟨q,d,rfl⟩:=Ua.1 E;simp at z;subst z;have:=(h.outs.row q d).2.1.lt;omega
 . rw [ho,UD,h.vals];simp [<- hl]
 . intro p s q d;rcases Un.1 d with d|d
   . exact h.apart p s q d
   . simp at d;subst d;have:=(h.tab.row p s).2.1.lt;show p.1≠b;omega
 . exact f.below.grown g f.size (λq d=>(f.outs.own.lt q d).1)
 . exact TZ f.size g.size
end
def AL (ao:Option Addr) (a:Nat) (w:ZU):(convert 40 9 (.slice ao 0 a)).run ZN w=.ok (Z1 YK) w:=by
 rw [run_convert_bytes_string w 40 9 5 ao 0 a Uq Xq abJ];cases ao<;>simp [Conv.bytesToString,loadCells,loadCellsFrom]
