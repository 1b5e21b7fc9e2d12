import Derived.Test.YthibhmemkhmocaaGreatDoorM05
import Derived.OwnWalk
import Derived.Lib.BufferWrite
import Derived.Lib.AppendZerosOnto
import Derived.Laws.Cover1
import Derived.Lib.UnsafeStr
import Derived.Lib.Overlaps
import Derived.Laws.Externs
import Derived.Shelf.RegionOpenPlain
import Derived.RangeFuncRecord
import Derived.Laws.BytesString
import Derived.Laws.CopyRow
import Derived.Laws.IdiomStrings
set_option maxRecDepth 100000
set_option linter.all false
set_option maxHeartbeats 8000000
open Go.IntKind renaming i64 -> Z9, u64 -> Z8
open Go.Value renaming int -> Z7, pointer -> Z6, slice -> Z5, bool -> Z1, string -> ZZ, tuple -> ZY
open Go.Obj renaming cells -> Z4
open Go.Ending renaming returned -> Z3
open Go.Operand renaming tmp -> Z0
open Option renaming none -> ZX, some -> ZW
open Bool renaming true -> ZV, false -> ZU
open Go renaming World -> ZT, Value -> ZS, Calls -> ZQ, Ending -> ZP, TypeId -> ZO
open Go.RowKit renaming Below -> ZR
open List renaming nodup_cons -> YE, range -> YF, replicate -> YG, takeWhile_cons -> YK, take_take -> YL, length -> YM, drop_sublist -> YO, map_replicate -> YV, drop_left -> YW, drop_eq_nil_of_le -> YX, take_sublist -> YZ, nodup_range -> Y3, mem_eraseIdx_iff_getElem -> Y8
open ByteArray renaming empty -> YH
open Nat renaming min -> YI, min_self -> YR, succ_lt_succ -> YY, le_of_lt_succ -> Y4, le_max_left -> Y6
open Exists renaming intro -> YJ
open List.Pairwise renaming sublist -> YN
open List.Sublist renaming append -> YP, refl -> YQ
open Int.ofNat renaming inj -> YS
open List.Nodup renaming sublist -> YT
open UInt8 renaming ofNat -> YU
open Array renaming toList_append -> Y5, getElem?_setIfInBounds_self_of_lt -> Y7
open Go.Proofs.Tryz renaming prog -> ZN
open Go.Proofs.Tryz
namespace Go.Proofs.YthibhmemkhmocaaGreatDoor
def Yi:=@Go.ByteArray.toList_eq
def WN:=@Array.length_toList
def XL:=@List.mem_flatMap
def XM:=@Go.Src.ofNil
def Vo:=@Go.Proofs.Tryz.underlying144
def XN:=@Nat.eq_or_lt_of_le
def Yj:=@List.getElem_drop
def Yk:=@Nat.div_le_div_right
def Yl:=@Go.Lib.size_eq
def aaM:=@Nat.div_le_div_left
def abf:=@Go.Proofs.Tryz.underlying221
def Ym:=@Go.Proofs.Tryz.underlying262
def aaN:=@Go.Proofs.Tryz.underlying9
end Go.Proofs.YthibhmemkhmocaaGreatDoor
namespace Go.Proofs.YthibhmemkhmocaaGreatDoor
open Go.RowKit Go.Deep Gf Go.Shelf
variable {ops:Array Oper} {a b:ByteArray} {C:Ck} {Q:Exit->Act->ZT->Prop} {F E:aK} {lost regs room:Int} {Dl:List a8} {es:List (Nat×Nat×Nat)} {ns:List ByteArray} {l P dl P' ds:a8} {rest:List Oper} {cur:List ZS} {s base n size nb p D L G ps ho g x c i m k B t cap N bl gone sp sb r l1 q:Nat} {R:Nat->a8} {ol nw:Nat->Nat} {K K' T S:Nat->Prop} {f sv:Nat->ZS} {o:Oper} {ao:Option Addr} {A:eJ} {α:Type} {e:ZO} {v u ne:ZS} {w w' w2 w3 wx w1:ZT}
def fL (s:ByteArray):a8:=s.toList.map (λ(b:UInt8)=>b.toNat)++YG (16-s.size) 0
def bM (o:Ob):a8:=be o.name.size 1++fL o.name++be o.size 2++o.RK.flatMap (λs=>be s 4)
def an (os:List Ob):a8:=os.flatMap bM
structure Ob.fit (o:Ob):Prop where
 name:1<=o.name.size/\o.name.size<=16
 size:o.size<=1500
 st:∀ s∈o.RK,s<4294967296
 len:o.RK.length<=1000
def xU (l:a8):(l.flatMap (λs=>be s 4)).length=4*l.length:=by
 induction l with
 | nil=>rfl
 | cons x l ih=>rw [VE,Ua,ih,aD,UA];omega
def mh {s:ByteArray} (h:s.size<=16):(fL s).length=16:=by
 unfold fL;rw [Ua,Ue,XS,Yi];have:s.data.toList.length=s.size:=by rw [WN];rfl
 omega
def cY {o:Ob} (h:o.fit):(bM o).length=19+4*o.RK.length:=by
 unfold bM;rw [Ua,Ua,Ua,aD,aD,mh h.name.2,xU]
def kK (os:List Ob) (k:Nat) (a:k<os.length):an (os.take (k+1))=an (os.take k)++bM os[k]:=by
 unfold an;rw [Vd,Uc a,WL];simp
theorem gv (k:Nat) (b:k<=1000000) (w:ZT):ZQ ZN 126 #[Z7 Z9 k] w λe w'=>e=Z3 (Z7 Z9 ((19+4*k:Nat):Int))/\w'=w:=by
 have a:((19+4*k:Nat):Int)=19+4*(k:Int):=by omega
 rw [a];go_enter func126,ntmps126;go_wp2;go_ret;exact ⟨rfl,rfl⟩
def LnR (w:ZT) (os:List Ob) (s i:ZS) (wr:ZT):Prop:=∃ k:Nat,k<=os.length/\i=Z7 Z9 k/\s=Z7 Z9 (((an (os.take k)).length:Nat):Int)/\bW w wr
theorem ue {os:List Ob} (I:eO K w v os) (j:∀ o∈os,o.fit) (P:os.length<=10000):ZQ ZN 104 #[v] w λe w'=>e=Z3 (Z7 Z9 (((an os).length:Nat):Int))/\bW w w':=by
 obtain ⟨ao,c,rfl,_,l⟩:=I;have g:∀ k,k<=os.length->(an (os.take k)).length<=k*5000:=by
  intro k D;induction k with
  | zero=>simp [an]
  | succ k ih=>
   have f:k<os.length:=(by omega);have:=ih (by omega);have A:=j _ (T6 f);rw [kK os k f,Ua,cY A];have:=A.len;omega
 obtain ⟨N,p⟩:=nM (os.length);have r:=a5 l j g p;rw [p] at P ⊢;clear l j g p;go_enter func104,ntmps104;go_wp2_with fail;go_loopw [3,8] (λs i wr=>LnR w os s i wr) (λ_ i _=>N-(intOf i).toNat)
 case atStart=>exact ⟨0,T8 _,rfl,rfl,TW _ _⟩
 case round=>
  obtain ⟨k,D,rfl,rfl,d⟩:=hrel;rw [r.o.2.2.2] at D;by_cases W:k<N
  . obtain ⟨l,j,g,p⟩:=r.o;have f:k<os.length:=(by omega);obtain ⟨b,off,rfl,V,u,z⟩:=l (λe=>by rw [e] at f;cases f);obtain ⟨sv,c0,c1,y,J⟩:=z k f;obtain ⟨T,sc,Q,R,_⟩:=J;have F:wr.cell? ⟨b,off+k*3,ZX⟩=ZW (ZZ os[k].name):=(Uk (d.block b u.lt)).trans c0;have d1:wr.cell? ⟨b,off+k*3+1,ZX⟩=ZW (Z7 Z9 (os[k].size:Nat)):=(Uk (d.block b u.lt)).trans c1;have G:wr.cell? ⟨b,off+k*3+2,ZX⟩=ZW sv:=(Uk (d.block b u.lt)).trans y;subst Q;have M:=g k (by omega);have O:=g (k+1) (by omega);have n:(an (os.take (k+1))).length=(an (os.take k)).length+(19+4*os[k].RK.length):=(by rw [kK os k f,Ua,cY (j _ (T6 f))]);obtain ⟨a,x⟩:=nM ((an (os.take k)).length);obtain ⟨U,h⟩:=nM ((an (os.take (k+1))).length);obtain ⟨m,t⟩:=nM (os[k].RK.length);obtain ⟨nm,B⟩:=nM (os[k].name);obtain ⟨sz,C⟩:=nM (os[k].size);rw [x,h,t] at n;rw [x] at M ⊢;rw [h] at O;rw [t] at G;rw [B] at F;rw [C] at d1;rw [t] at R;have S:=d.size;have H:=aE d h n;have hr:((k:Nat):Int).toNat=k:=(by omega);clear d c0 c1 y l j g z n x h t B C p;go_wp2_with fail;refine (gv m (by omega) _).mono ?_;obtain ⟨q,E⟩:=nM (19+4*m);rw [E];rintro e w2 ⟨rfl,rfl⟩;have X:a+q<=100000000:=(by have:=H.o.2.2;omega);go_wp2;obtain ⟨d,h,n⟩:=H.o;refine ⟨⟨k+1,by rw [r.o.2.2.2];omega,by go_num,?_,d.alloc S _⟩,by simp [intOf];omega⟩;rw [h,n,E];first|rfl|(congr 1)
  . have L:k=N:=(by omega);subst L;have H:=ak d;clear d;go_wp2;go_ret;refine ⟨?_,H.o⟩;rw [UI (by rw [r.o.2.2.2];exact TU _)];rfl
theorem Cn (s:ByteArray):(List.take 0 (aJ (YG 16 0))++Lib.byteCells s.data.toList++List.drop (0+s.size) (aJ (YG 16 0))).toArray=(aJ (fL s)).toArray:=by
 congr 1;unfold fL aJ Lib.byteCells;rw [Yi,YV,WG,Uq,Uj,XV,Uv,YV,List.map_map];rfl
structure Pk (w:ZT) (l:a8) (v:ZS) (wr:ZT):Prop where
 own:wr.ownsRow w.heap.size 5 1 v l.length (aJ l)
 some_:v.ownBlock≠ZX
 below:bW w wr
def Co {xs:List ZS} (h:w.ownsRow base e size v n xs) (c:0<n):v.ownBlock≠ZX:=by
 rcases h.2 with ⟨_,b⟩|⟨g,cap,cur,a,_⟩
 . omega
 . rw [a];simp [Value.ownBlock]
def Pk.out {wr:ZT} (h:Pk w l v wr) {S:Nat->Prop} (a:aa S wr w') (b:∀ k,S k->w.heap.size<=k) (d:∀ k,v.ownBlock=ZW k->¬ S k):Pk w l v w':=
 ⟨bR h.own a d,h.some_,⟨a.os.trans h.below.os,a.tape.trans h.below.tape,a.output.trans h.below.output,TV h.below.size a.size,λk c=>(a.block k (by have:=h.below.size;omega) (λq=>by have:=b k q;omega)).trans (h.below.block k c)⟩⟩
def Pk.num {wr:ZT} (h:Pk w l v wr) (n s:Nat) (d:s<=8) (g:0<s) (hl:l.length<=1000000000) :
 ZQ ZN 172 #[v,Z7 Z8 n,Z7 Z9 s] wr λe w'=>∃ b,e=Z3 b/\Pk w (l++be n s) b w'/\aa (λj=>v.ownBlock=ZW j) wr w':=by
 refine (fX w.heap.size v l.length (aJ l) n s wr h.own h.below.size d hl).mono ?_;rintro e w' ⟨b,rfl,ho,a,f⟩;refine ⟨b,rfl,⟨?_,Co ho (by omega),?_⟩,a⟩
 . rw [bJ,Ua,aD];exact ho
 . exact ⟨a.os.trans h.below.os,a.tape.trans h.below.tape,a.output.trans h.below.output,TV h.below.size a.size,λk c=>(a.block k (by have:=h.below.size;omega) (λq=>by have:=ef h.own q;omega)).trans (h.below.block k c)⟩
def NO {wr:ZT} (h:Pk w l v wr):w.heap.size<=wr.heap.size:=h.below.size
def PsR (w:ZT) (pre:a8) (st:a8) (v i:ZS) (wr:ZT):Prop:=∃ j:Nat,j<=st.length/\i=Z7 Z9 j/\Pk w (pre++(st.take j).flatMap (λs=>be s 4)) v wr
def aap (w:ZT) (os:List Ob) (v i:ZS) (wr:ZT):Prop:=∃ k:Nat,k<=os.length/\i=Z7 Z9 k/\Pk w (an (os.take k)) v wr
def Ql (w:ZT) (os:List Ob) (e:ZP) (w':ZT):Prop:=∃ g cap,e=Z3 (Z5 (ZW ⟨g,0,ZX⟩) (an os).length cap)/\w'.ownsRow w.heap.size 5 1 (Z5 (ZW ⟨g,0,ZX⟩) (an os).length cap) (an os).length (aJ (an os))/\bW w w'
theorem xV {os:List Ob} (hC:eO K w v os) (z:∀ o∈os,o.fit) (qj:os.length<=10000):ZQ ZN 142 #[v] w λe w'=>Ql w os e w':=by
 obtain ⟨ib,qg,hz,k0,k5⟩:=Ut Tryz.R5;have E:∀ k,k<=os.length->(an (os.take k)).length<=k*5000:=by
  intro k C;induction k with
  | zero=>simp [an]
  | succ k ih=>
   have y:k<os.length:=(by omega);have:=ih (by omega);have l:=z _ (T6 y);rw [kK os k y,Ua,cY l];have:=l.len;omega
 have kj:=ue hC z qj;have hr:=E os.length lR;rw [UI lR] at hr;obtain ⟨ao,c,rfl,_,Q⟩:=hC;obtain ⟨N,G⟩:=nM (os.length);obtain ⟨M,F⟩:=nM ((an os).length);rw [F] at kj hr;have X:=a6 Q z E G F;rw [G] at qj kj hr ⊢;clear Q z E G F;go_enter func142,ntmps142;go_wp2_with fail;refine kj.mono ?_;rintro e w1 ⟨rfl,kv⟩;have x7:=kv.size;have H1:=ak kv;clear kv kj;go_wp2_with (at_make;refine aa6 w1 rfl (.const (Z7 Z9 0)) (Z0 10) 40 rfl w.heap.size 5 ib (Z7 .u8 0) 1 Um qg hz k0 .i64 .i64 _ M (by rfl) (by rfl) rfl (by rw [k5];omega) (by unfold maxLen;omega) x7 ?_;intro w2 qi qf);have qa:Pk w [] (Z5 (ZW ⟨w1.heap.size,0,ZX⟩) 0 M) w2:=⟨qi,by simp [Value.ownBlock],H1.o.grown qf H1.o.size (λk e=>by cases e)⟩;have H2:=ak qa;clear qa qi qf;go_loopw [3,14] (λv i wr=>aap w os v i wr) (λ_ i _=>N-(intOf i).toNat)
 case atStart=>exact ⟨0,T8 _,rfl,H2.o⟩
 case round=>
  clear H2;obtain ⟨k,C,rfl,a⟩:=hrel;rw [X.o.2.2.2.1] at C;by_cases xc:k<N
  . obtain ⟨Q,z,E,G,F⟩:=X.o;have y:k<os.length:=(by omega);obtain ⟨b,off,rfl,x8,ky,qd⟩:=Q (λe=>by rw [e] at y;cases y);obtain ⟨sv,c0,c1,c2,hI⟩:=qd k y;have l:=z _ (T6 y);have d0:wr.cell? ⟨b,off+k*3,ZX⟩=ZW (ZZ os[k].name):=(Uk (a.below.block b ky.lt)).trans c0;have d1:wr.cell? ⟨b,off+k*3+1,ZX⟩=ZW (Z7 Z9 (os[k].size:Nat)):=(Uk (a.below.block b ky.lt)).trans c1;have d2:wr.cell? ⟨b,off+k*3+2,ZX⟩=ZW sv:=(Uk (a.below.block b ky.lt)).trans c2;have qy:=E k (by omega);have t:=kK os k y;obtain ⟨pre,k8⟩:=nM (an (os.take k));obtain ⟨o,ho⟩:=nM (os[k]);rw [k8] at qy a t;rw [ho] at d0 d1 l hI t;obtain ⟨d,sc,x1,x3,R⟩:=hI;subst x1;obtain ⟨m,I⟩:=nM (o.RK.length);obtain ⟨nm,U⟩:=nM (o.name);obtain ⟨sz,V⟩:=nM (o.size);have kg:=l.name;have qs:=l.size;have qq:=l.len;rw [U] at d0 kg;rw [V] at d1 qs;rw [I] at d2 x3 qq;have x6:=a.below.size;have xa:((k:Nat):Int).toNat=k:=(by omega);have kx:bW wr (wr.alloc (Z4 #[ZZ nm,Z7 Z9 (sz:Int),.slice d m sc] 152)):=bA wr _;have qo:(wr.alloc (Z4 #[ZZ nm,Z7 Z9 (sz:Int),.slice d m sc] 152)).heap.size=wr.heap.size+1:=(by simp);have q5:(wr.alloc (Z4 #[ZZ nm,Z7 Z9 (sz:Int),.slice d m sc] 152)).heap[wr.heap.size]?=ZW (Z4 #[ZZ nm,Z7 Z9 (sz:Int),.slice d m sc] 152 (0,0)):=Ug _ _;obtain ⟨p,x4⟩:=nM (wr.alloc (Z4 #[ZZ nm,Z7 Z9 (sz:Int),.slice d m sc] 152));rw [x4] at kx qo q5;have n:(p.alloc (Z4 (aJ (YG 16 0)).toArray 287)).heap[p.heap.size]?=ZW (Z4 (aJ (YG 16 0)).toArray 287 (0,0)):=Ug _ _;have kf:bW p (p.alloc (Z4 (aJ (YG 16 0)).toArray 287)):=bA p _;have qp:(p.alloc (Z4 (aJ (YG 16 0)).toArray 287)).heap.size=p.heap.size+1:=(by simp);obtain ⟨wb,q7⟩:=nM (p.alloc (Z4 (aJ (YG 16 0)).toArray 287));rw [q7] at n kf qp;have D:=(kf.block _ (by omega)).trans q5;have x5:p.alloc (Z4 #[Z7 .u8 0,Z7 .u8 0,Z7 .u8 0,Z7 .u8 0,Z7 .u8 0,Z7 .u8 0,Z7 .u8 0,Z7 .u8 0,Z7 .u8 0,Z7 .u8 0,Z7 .u8 0,Z7 .u8 0,Z7 .u8 0,Z7 .u8 0,Z7 .u8 0,Z7 .u8 0] 287)=wb:=q7;have J:Pk w pre u3 wb:=(a.out (aa.RL kx (λ_=>False)) (λ_ h=>h.elim) (λ_ _ h=>h)).out (aa.RL kf (λ_=>False)) (λ_ h=>h.elim) (λ_ _ h=>h);have Y:=hide7 R l t ho I U V;have HB:=a5 J D n qp;clear a Q z E G F qd c0 c1 c2 R l t ho I U V J D n q7 q5 kx kf k8;go_wp2_with fail;obtain ⟨J,D,n,kb⟩:=HB.o;rw [qo] at n kb;obtain ⟨q,hq⟩:=nM (wr.heap.size);rw [hq] at D n kb x6;rw [hq];have hp:=Lib.run_copy_row_string (P:=ZN) wb.drew 40 9 3 5 (q+1) 0 16 16 nm (aJ (YG 16 0)).toArray 287 Um (by kernel_rfl) n kg.2 (by rw [UH,aW];simpa using kg.2);rw [show (aJ (YG 16 0)).toArray.toList=aJ (YG 16 0) from rfl,Cn nm] at hp;refine du 3 [(0,ZV),(1,ZV),(2,ZV),(3,ZU)] (λw'=>w'.cell? ⟨q,0,ZX⟩=ZW (ZZ nm)) (by kernel_rfl) (by kernel_rfl) (show wb.cell? _=_ by simp [World.cell?,D]) ?_;iterate 3 (refine aC rfl rfl ?_;apply YJ;refine ⟨λw' hS=>?_,?_⟩;(first|(go_simp;done)|(go_simp;exact rfl));simp only [Act.put,TX,TY,TZ])
    refine eK (v:=Z7 Z9 (nm.size:Nat)) (w1:=wb.drew.setRow (q+1) (aJ (fL nm)).toArray) rfl rfl (by simp [execOp,Act.eval,resolve,invoke,builtin,hp];rfl) AR (cB ?_);obtain ⟨O,km⟩:∃ O,O=wb.drew.setRow (q+1) (aJ (fL nm)).toArray:=⟨_,rfl⟩;rw [<- km];clear hp;have kc:aa (λk=>k=q+1) wb O:=by
     rw [km];have S:=aX wb.drew (q+1) (aJ (fL nm)).toArray;exact ⟨S.os,S.tape,S.output,S.size,λk C qz=>S.block k C (λe=>qz (UM e))⟩
    have A:Pk w pre u3 O:=J.out kc (λk C=>by omega) (λk C e=>bC J.own n (by decide) (by rw [C,e]));have B:=(kc.block q (by omega) (by omega)).trans D;have L:O.heap[q+1]?=ZW (Z4 (aJ (fL nm)).toArray 287 (0,0)):=(by rw [km];exact Vp _ _ _ _ _ _ n);have xd:=kc.size;have q0:O.cell? ⟨q,0,ZX⟩=ZW (ZZ nm):=(by simp [World.cell?,B]);have qe:=A.num nm.size 1 (by omega) (by omega) (by omega);have H6:=a5 A B L qe;have x0:nm.size<=16:=kg.2;clear J D n kc A B L qe km d0 d1 d2;rename_i q8
    refine q8 _ _ ?_;clear q8;simp only [Act.put,TX,TY,TZ];go_wp2_with fail;refine H6.o.2.2.2.mono ?_;rintro e w7 ⟨v7,rfl,ko,ke⟩;obtain ⟨A,B,L,hx⟩:=H6.o;clear hx;have qk:=(ke.block q (by omega) (λe=>bC A.own B (by decide) e)).trans B;have kz:=(ke.block (q+1) (by omega) (λe=>bC A.own L (by decide) e)).trans L;have xe:=ke.size;have ki:(pre++be nm.size 1).length=pre.length+1:=(by rw [Ua,aD]);have kk:(fL nm).length=16:=mh x0;have he:Src ZN 1 40 (Z5 (ZW ⟨q+1,0,ZX⟩) 16 16) 16 (aJ (fL nm)) w7:=Vi w7 Um ⟨q+1,0,ZX⟩ 16 16 (aJ (fL nm)) (by rw [aW,kk]) (λi u hu=>by
     have h9:w7.cell? ⟨q+1,i,ZX⟩=ZW u:=(by simp [World.cell?,kz];simpa using hu);unfold Addr.add;split
     . rename_i h0;subst h0;exact h9
     . rw [Uj];exact h9) (λu hu=>by obtain ⟨x,_,rfl⟩:=T9.1 hu;rfl)
    have h7:=ko.own;rw [ki] at h7;have r:=a6 ko qk kz he h7;clear A B L ko ke qk kz he h7 q0;have qn:=NO r.o.1;go_wp2_with (show wpList _ _ _ ({ dst:=ZW 30,op:=_,type:=_,pos:=_,after:=_,guard:=_ }::_) _ _;refine ae _ rfl (Z0 28) (Z0 29) 40 40 rfl w.heap.size 5 ib (Z7 .u8 0) 1 1 Um qg hz k0 k5 rfl v7 (pre.length+1) (aJ (pre++be nm.size 1)) (by rfl) (by exact r.o.2.2.2.2) _ (by rfl) 16 (aJ (fL nm)) (by exact r.o.2.2.2.1) (by unfold maxLen;omega) (by omega) (by exact qn) ?_;intro v8 w8 q3 kh ks;have q4:w8.heap[q]?=ZW (Z4 #[ZZ nm,Z7 Z9 (sz:Int),.slice d m sc] 152 (0,0)):=(kh.block q (by omega) (λe=>bC r.o.1.own r.o.2.1 (by decide) e.symm)).trans r.o.2.1;have q1:w8.cell? ⟨q,1,ZX⟩=ZW (Z7 Z9 (sz:Int)):=(by simp [World.cell?,q4]);have qb:Pk w ((pre++be nm.size 1)++fL nm) v8 w8:=⟨(by rw [bJ,Ua,ki,kk];exact q3),Co q3 (by omega),r.o.1.below.grown kh qn (λj e=>ef r.o.1.own e)⟩;have xf:=kh.size;have W:=al qb q4;clear q3 kh ks q4 qb);refine (W.o.1.num sz 2 (by omega) (by omega) (by rw [Ua,ki,kk];omega)).mono ?_;rintro e w9 ⟨v9,rfl,kp,q9⟩;have qm:=(q9.block q (by omega) (λe=>bC W.o.1.own W.o.2 (by decide) e)).trans W.o.2;have q2:w9.cell? ⟨q,2,ZX⟩=ZW (.slice d m sc):=(by simp [World.cell?,qm]);obtain ⟨f,Z⟩:=nM (pre++be nm.size 1++fL nm++be sz 2);have xb:f.length=pre.length+19:=(by rw [<- Z,Ua,Ua,ki,kk,aD]);rw [Z] at kp;have H9:=al kp Z;clear kp q9 qm q1 Z;go_wp2_with fail;go_loopw [3,39] (λv i hb=>PsR w f o.RK v i hb) (λ_ i _=>m-(intOf i).toNat)
    case atStart=>exact ⟨0,T8 _,rfl,by rw [WG,List.flatMap_nil,Wm];exact H9.o.1⟩
    case round=>
     obtain ⟨j,hj,rfl,a⟩:=hrel;rw [Y.o.2.2.2.2.1] at hj;by_cases x9:j<m
     . obtain ⟨R,l,t,ho,I,_,_⟩:=Y.o;have T:j<o.RK.length:=(by omega);obtain ⟨sb,so,rfl,_,q6,k9⟩:=R (λe=>by rw [e] at T;cases T);have cs:=(Uk (a.below.block sb q6.lt)).trans (k9 j T);have x2:=l.st _ (T6 T);have hy:((o.RK.take j).flatMap (λs=>be s 4)).length=4*j:=(by rw [xU,Uo];omega);have qh:f++(o.RK.take (j+1)).flatMap (λs=>be s 4)=(f++(o.RK.take j).flatMap (λs=>be s 4))++be o.RK[j] 4:=by
        rw [Vd,Uc T,WL,Uz];simp
       have hc:=a.num o.RK[j] 4 (by omega) (by omega) (by rw [Ua,hy];omega);rw [<- qh] at hc;obtain ⟨x,hx⟩:=nM (o.RK[j]);rw [hx] at cs x2 hc;have HP:=ak hc;clear a R l t ho I k9 hc qh hx hy;go_wp2_with fail;refine HP.o.mono ?_;rintro e wj ⟨vj,rfl,qc,_⟩;have Hj:=ak qc;clear qc;go_wp2;go_roundw
       case rel=>exact ⟨j+1,by have:=Y.o.2.2.2.2.1;omega,by go_num,Hj.o⟩
       case measure=>simp [intOf];omega
     . have qv:j=m:=(by omega);have Hq:=ak a;clear a;go_wp2;go_roundw
       case rel=>
        refine ⟨k+1,by have:=X.o.2.2.2.1;omega,by go_num,?_⟩;obtain ⟨_,_,t,_,I,U,V⟩:=Y.o;have kr:=Hq.o;rw [UI (by omega),<- H9.o.2] at kr;rw [t];unfold bM;rw [U,V];simp only [Uz] at kr ⊢;exact kr
       case measure=>simp [intOf];omega
  . have qx:k=N:=(by omega);subst qx;have H:=ak a;clear a;go_wp2;go_ret;have a:=H.o;obtain ⟨_,_,_,G,F⟩:=X.o;rw [UI (by omega)] at a;rcases a.own.2 with ⟨h0,_⟩|⟨g,cap,cur,e1,_⟩
    . exact absurd (by rw [h0];rfl) a.some_
    . have ho:=a.own;rw [e1] at ho;exact ⟨g,cap,by rw [<- e1];rfl,ho,a.below⟩
def uf {vo:ZS} {os:List Ob} (c:eO (λk=>k<w.heap.size) w vo os) (d:∀ o∈os,o.fit) (b:os.length<=10000):Ei w vo (an os):=λ_ a=>xV (c.keep ⟨a.size,λk e _=>a.block k e⟩) d b
theorem Ew (w:ZT):Ei w (Z5 ZX 0 0) []:=by
 intro W _;go_enter func142,ntmps142;go_wp2_with fail;refine (length_nil W).mono ?_;rintro e w' ⟨rfl,rfl⟩;go_wp2_with (at_make;refine cO _ rfl (.const (Z7 Z9 0)) (Z0 10) rfl _ 0 rfl rfl rfl (by omega) ?_;intro w2 b a c);have H:=al b a;clear b a;refine VD 1 ?_;rw [Vt];go_wp2;go_ret;obtain ⟨b,a⟩:=H.o;exact ⟨_,0,rfl,⟨rfl,.inr ⟨_,0,_,rfl,TU _,b.SJ,TU _,by unfold maxLen;omega,rfl,rfl⟩⟩,a⟩
def bf.weaken (h:bf K w v l) (f:∀ k,K k->K' k):bf K' w v l:=by
 obtain ⟨ao,c,a,d,e⟩:=h;refine ⟨ao,c,a,d,λhl=>?_⟩;obtain ⟨b,off,g,i,j⟩:=e hl;exact ⟨b,off,g,f b i,j⟩
def Ie (h:3<=nb):(aZ (tk nb ([]++af [])).1 nb).take 1=[2]/\1<=(aZ (tk nb ([]++af [])).1 nb).length:=by
 have e:(tk nb ([]++af [])).1=λ_=>ZU:=rfl;rw [e];have a:aZ (λ_=>ZU) 3=[2]:=by simp [aZ,Vr]
 obtain ⟨r,hr⟩:=kG (λ_=>ZU) h;rw [a] at hr;rw [<- hr];exact ⟨rfl,by simp⟩
def nh (A:aB) (D L G:Nat):aB:=(A.putAt (YF A.n) 1 (λ_=>.filled)).TQ D L G 1 [2] []
def Cp (h:w.ownsRow base 3 1 u n (jR l)) (hl:l≠[]) (hll:l.length<=1000000) {K:Nat->Prop} (hK:∀ k,base<=k->K k):∃ g c,u=Z5 (ZW ⟨g,0,ZX⟩) l.length c/\bf K w u l:=by
 have b:n=l.length:=by have:=h.1;unfold jR at this;rw [Ue,V9] at this;omega
 rcases h.2 with ⟨_,j⟩|⟨g,cap,cur,a,d,e,_⟩
 . exact absurd (UU (by omega)) hl
 . refine ⟨g,cap,by rw [a,b],ZW ⟨g,0,ZX⟩,cap,by rw [a,b],hll,λ_=>⟨g,0,rfl,hK g d,⟨_,_,_,e,by decide⟩,λi f=>?_⟩⟩;have:=h.cells (g:=g) (by rw [a];rfl) i (Z7 Z9 ((l[i]:Nat):Int)) (by unfold jR;simp [f]);rw [jy] at this;rw [Uj];exact this
theorem If {ar v:Nat} {off:Bool} {A:aB} (J:a9 w ar v 0 0 0 0 0 0 (Z5 ZX 0 0) (Z5 ZX 0 0) off) (m:pd w v p D L G ps ho A F) (k9:¬ F.S ar) (kj:3<=A.nb) (ki:A.fine D L G) :
 ZQ ZN 94 #[Z6 (ZW ⟨ar,0,ZX⟩)] w λe w'=>e=Z3 .nilIface/\az w' p (nh A D L G) F/\(∃ u,a9 w' ar v D L G 1 2 0 u (Z5 ZX 0 0) off/\bf (λk=>w.heap.size<=k) w' u [2])/\aa (λk=>k=ar\/F.S k) w w':=by
 obtain ⟨hr,kf,hD,hL,km,hG,kh,hy⟩:=m.par;have hn:=m.n;go_enter func94,ntmps94;go_wp2_with fail;obtain ⟨S,Z⟩:=nM (2^(D+L+G)-1);have hj:ab S=YF A.n:=by rw [<- Z,hn];exact nP hy
 have k6:S<65536:=by
  have:2^(D+L+G)<=2^16:=UW (by decide) hy;omega
 have ke:∀ X,bW w X->ZQ ZN 118 #[Z6 (ZW ⟨v,0,ZX⟩),Z7 Z9 (1:Nat),dK .filled,Z7 Z8 S] X λe w'=>(∃ z:Nat,e=Z3 (Z7 Z8 z))/\az w' p (A.putAt (YF A.n) 1 (λ_=>.filled)) F/\aa (F.S) w w':=λX hb=>by
  have h:=eX (m.below hb lR) 1 S (by omega) k6 (λi P=>by rw [hj] at P;simpa using P) .filled trivial;rw [hj] at h;exact h.mono λe w' q=>⟨⟨_,q.1⟩,q.2.1,(aa.RL hb _).trans q.2.2⟩
 have hm:=j8 (m.vol.keep (w':=w.drew) rfl) m.par;rw [Z] at hm;have k0:=J.cells.1;have r:=aE ke hm J;clear ke hm Z hj k6;go_cut [16] from 5 to 15 (λ_ wx=>az wx p (A.putAt (YF A.n) 1 (λ_=>.filled)) F/\aa (F.S) w wx)
 case first=>
  go_region_with (first
   | (go_at_call 112;refine r.o.2.1.mono ?_;rintro e w5 ⟨rfl,ka⟩;have Y:bW w w5:=((TW _ w).drew).trans ka;have j0:=(r.o.2.2.keep (Y.block _ r.o.2.2.lt)).cells.1;have H5:=ak Y;clear ka Y)
   | (go_at_call 118;refine (r.o.1 w5 H5.o).mono ?_;rintro e w6 ⟨⟨z,rfl⟩,hz,k5⟩;have H6:=al hz k5;clear hz k5))
  all_goals (go_wp2_with fail;go_meet;case rel=>exact H6.o)
 case rest=>
 rename ZT=>w1;obtain ⟨hg,f⟩:=hcut;clear k0 r;obtain ⟨E,j⟩:=nM (A.putAt (YF A.n) 1 (λ_=>.filled));obtain ⟨s,t,U⟩:E.n=A.n/\E.nb=A.nb/\E.fine D L G:=by rw [<- j];exact ⟨rfl,rfl,(dM.put _ _ _ _).fine ki⟩
 rw [j] at hg;have d:=J.keep (f.block _ J.lt k9);have a:=m.turn f hg s;have hq:=ja d a.vol kf (by omega) 0 (by decide);have hp:pgs D 0=1:=by unfold pgs;rw [Xo (by omega)];rfl
 rw [hp] at hq;have hs:=lE d a.vol a.arr (by rw [s];omega) [] [] (bf.nil _ _) (eO.nil _ _) 1 (by decide);obtain ⟨y,B⟩:=Ie (nb:=E.nb) (by rw [t];exact kj);rw [y,UY B] at hs;have T:=a7 d a f hq hs j;clear d a f hq hs j hg y B;go_wp2_with fail;refine T.o.2.2.2.1.mono ?_;rintro e w2 ⟨rfl,kk⟩;subst kk;go_wp2_with fail;refine T.o.2.2.2.2.1.mono ?_;rintro e w3 ⟨u,rfl,h8,O⟩;obtain ⟨d,a,f,_,_,j⟩:=T.o;have k8:=d.keep (O.block _ d.lt);have k7:=a.below O lR;obtain ⟨g,c,hu,hh⟩:=Cp (K:=λk=>w2.heap.size<=k) h8 (by simp) (by decide) (λk Q=>Q);subst hu;have M:bf (λk=>¬ F.S k) w3 (Z5 (ZW ⟨g,0,ZX⟩) [2].length c) [2]:=by
  obtain ⟨ao,W,q1,q2,q3⟩:=hh;refine ⟨ao,W,q1,q2,λhl=>?_⟩;obtain ⟨b,V,r1,r2,C⟩:=q3 hl;exact ⟨b,V,r1,λq=>by have:=a.arr.RN q;omega,C⟩
 have kc:=ng k8 k7 U k9 ZX 0 0 [] (λx R=>by cases R) (by decide) (Ew w3) g 0 c [2] M (by simp) (λx R=>by simp at R;subst R;rw [t];omega) (λk Q=>by simp at Q;subst Q;simp);have H:aa (F.S) w w3:=f.trans (aa.RL O _);have H3:=a7 kc H hh a d.lt f.size;clear kc H M hh k8 k7 h8 O d a f;go_wp2_with fail;refine H3.o.1.mono ?_;rintro e w4 ⟨l,rfl,I,N⟩;have H4:=aE I N l;clear I N l;go_wp2;go_ret;obtain ⟨I,N,l⟩:=H4.o;obtain ⟨_,H,M,a,kg,hv⟩:=H3.o;refine ⟨rfl,?_,⟨_,N,?_⟩,(H.mono λ_ _ q=>.inr q).trans l⟩
 . unfold nh;rw [j];exact I
 . obtain ⟨ao,W,q1,q2,q3⟩:=M;refine ⟨ao,W,q1,q2,λhl=>?_⟩;obtain ⟨b,V,r1,r2,C,r4⟩:=q3 hl;have h7:b≠ar:=λe=>by omega
   have kb:¬ F.S b:=λq=>by have:=a.arr.RN (k:=b) q;omega
   refine ⟨b,V,r1,TV hv r2,C.keep (l.block b C.lt (λq=>q.elim h7 kb)),λi P=>?_⟩;exact (Uk (l.block b C.lt (λq=>q.elim h7 kb))).trans (r4 i P)
def FV:Ob:=⟨YH,0,[]⟩
def OQ (a b:ByteArray):Bool:=Op.bytesLess a.toList b.toList || a.toList==b.toList
def zX (os:List Ob):Prop:=∀ i (_:i+1<os.length),OQ (os.getD (i+1) FV).name (os.getD i FV).name=ZU
def Tryz.RU:(ZN.info? 152).map (λi=>(i.zero,i.size,i.bytes))=ZW (ZW (.agg #[ZZ YH,Z7 Z9 0,Z5 ZX 0 0]),3,48):=by kernel_rfl
def bf.ltS (h:bf K w v l):bf (λk=>k<w.heap.size) w v l:=by
 obtain ⟨ao,c,d,e,f⟩:=h;refine ⟨ao,c,d,e,λhl=>?_⟩;obtain ⟨b,off,g,_,a,i⟩:=f hl;exact ⟨b,off,g,a.lt,a,i⟩
def eO.ltS {os:List Ob} (h:eO K w v os):eO (λk=>k<w.heap.size) w v os:=by
 obtain ⟨ao,c,d,e,f⟩:=h;refine ⟨ao,c,d,e,λhl=>?_⟩;obtain ⟨b,off,j,_,a,l⟩:=f hl;refine ⟨b,off,j,a.lt,a,λi g=>?_⟩;obtain ⟨sv,m,n,o,p⟩:=l i g;exact ⟨sv,m,n,o,p.ltS⟩
def ai (w:ZT) (g:Nat) (e:ZO) (cur:List ZS):Prop:=w.heap[g]?=ZW (Z4 cur.toArray e (0,0))
def ai.lt (h:ai w g e cur):g<w.heap.size:=(T5.1 h).1
def ai.cell (h:ai w g e cur) {j:Nat} {u:ZS} (a:cur[j]?=ZW u):w.cell? ⟨g,j,ZX⟩=ZW u:=by
 unfold ai at h;simp [World.cell?,h,a]
def ai.R3 (h:ai w g e cur) (j:Nat):w.frozen? ⟨g,j,ZX⟩=ZU:=by
 unfold ai at h;simp [World.frozen?,h]
def ai.keep (h:ai w g e cur) (a:w'.heap[g]?=w.heap[g]?):ai w' g e cur:=a.trans h
def xW:∀ (a:List ZS) (o:Nat) (cur:Array ZS),o+a.length<=cur.size->vP cur o a=(cur.toList.take o++a++cur.toList.drop (o+a.length)).toArray
 | [],o,cur,_=>by simp [vP]
 | v::r,o,cur,h=>by
  simp only [UA] at h ⊢;unfold vP;rw [xW r (o+1) (cur.setIfInBounds o v) (by simp;omega),aaY];have e:(cur.toList.set o v).take (o+1)=cur.toList.take o++[v]:=by
   rw [Vd,List.take_set_of_le (TU o),Yy (by simp;omega)];rfl
  have b:(cur.toList.set o v).drop (o+1+r.length)=cur.toList.drop (o+(r.length+1)):=by
   rw [List.drop_set_of_lt (by omega),show o+1+r.length=o+(r.length+1) by omega]
  rw [e,b];simp
def ai.set (h:ai w g e cur) (o:Nat) (a:List ZS) (ho:o+a.length<=cur.length):ai (w.setCells g o a) g e (cur.take o++a++cur.drop (o+a.length)):=by
 unfold ai at h ⊢;rw [jm a o w h,xW a o cur.toArray (by simpa using ho)]
def ea {P:Program} (w:ZT) (l y z elem:ZO) (k:Nat) (g o a d b h c f:Nat) (e:ZO) (cur cs:List ZS)
 (x:P.underlying l=ZW (.slice elem)) (q:(P.info? elem).map (·.size)=ZW k) (u:cs.length=YI c a*k)
 (s:∀ j v,cs[j]?=ZW v->w.cell? ⟨b,h+j,ZX⟩=ZW v) (m:ai w g e cur) (ho:o+cs.length<=cur.length) (r:∀ v∈cs,v.oneCell'=ZV) :
 (Builtin.copy_ #[l,y] z #[Z5 (ZW ⟨g,o,ZX⟩) a d,Z5 (ZW ⟨b,h,ZX⟩) c f]).run P w=.ok (goInt (YI c a)) (w.setCells g o cs):=by
 have hl:=run_loadCells_list (P:=P) w ⟨b,h,ZX⟩ cs (λj v p=>by rw [Vl];exact s j v p);have n:=run_storeCells_cells (P:=P) g o cs 0 w (λj p=>by
  rw [VN];rw [m.cell (Uc (by omega:o+j<cur.length))];rfl) (λj _=>m.R3 _) r
 cases hq:P.info? elem with
 | none=>simp [hq] at q
 | some i=>
  have t:i.size=k:=by simpa [hq] using q
  simp only [VN] at n;simp [Builtin.copy_,UL x,Builtin.lenOf,Builtin.firstCells,sizeOf,typeInfo,hq,t,<- u,hl,n]
def ug {P:Program} (w:ZT) (t e k:ZO) (z:ZS) (g o n c:Nat) (d:ZO) (cur:List ZS) (h:P.underlying t=ZW (.slice e)) (i:∀ w,(zeroValue e).run P w=.ok z w) (p:0<n)
 (a:ai w g d cur) (ho:o+(Builtin.zeroCells z.cells n).toList.length<=cur.length) (f:∀ v∈(Builtin.zeroCells z.cells n).toList,v.oneCell'=ZV) :
 (Builtin.clear_ #[t] k #[Z5 (ZW ⟨g,o,ZX⟩) n c]).run P w=.ok (ZY #[]) (w.setCells g o (Builtin.zeroCells z.cells n).toList):=by
 have b:=run_storeCells_cells (P:=P) g o (Builtin.zeroCells z.cells n).toList 0 w (λj l=>by
  rw [VN];rw [a.cell (Uc (by omega:o+j<cur.length))];rfl) (λj _=>a.R3 _) f
 simp only [VN] at b;obtain ⟨m,rfl⟩:∃ m,n=m+1:=⟨n-1,by omega⟩;simp [Builtin.clear_,UL h,i,b]
def js (x:Ob×ZS):List ZS:=[ZZ x.1.name,Z7 Z9 (x.1.size:Nat),x.2]
def bQ (L:List (Ob×ZS)):List ZS:=L.flatMap js
def bT (L:List (Ob×ZS)):(bQ L).length=L.length*3:=by
 induction L with
 | nil=>rfl
 | cons x L ih=>unfold bQ at ih ⊢;rw [VE,Ua,ih,UA];simp [js];omega
def iP (L M:List (Ob×ZS)):bQ (L++M)=bQ L++bQ M:=by unfold bQ;rw [WL]
def Cq (L:List (Ob×ZS)) (k:Nat):(bQ L).take (k*3)=bQ (L.take k):=by
 by_cases h:k<=L.length
 . have e:bQ L=bQ (L.take k)++bQ (L.drop k):=(by rw [<- iP,Wh]);have:(bQ (L.take k)).length=k*3:=(by rw [bT,Uo];omega);rw [e,VQ (by omega),UI (by omega)]
 . rw [UI (by rw [bT];omega),UI (by omega)]
def uh (L:List (Ob×ZS)) (k:Nat):(bQ L).drop (k*3)=bQ (L.drop k):=by
 by_cases h:k<=L.length
 . have e:bQ L=bQ (L.take k)++bQ (L.drop k):=(by rw [<- iP,Wh]);have hl:(bQ (L.take k)).length=k*3:=(by rw [bT,Uo];omega);rw [e,<- hl,YW]
 . rw [YX (by rw [bT];omega),YX (by omega)];rfl
def Lb (L:List (Ob×ZS)) (k:Nat) (d:k<L.length):(bQ L)[k*3]?=ZW (ZZ L[k].1.name)/\(bQ L)[k*3+1]?=ZW (Z7 Z9 (L[k].1.size:Nat))/\(bQ L)[k*3+2]?=ZW L[k].2:=by
 have e:∀ j,(bQ L)[k*3+j]?=(bQ (L.drop k))[j]?:=λj=>by rw [<- uh,Wi]
 have a:=e 0;have b:=e 1;have c:=e 2;rw [XZ d] at a b c;exact ⟨a,b,c⟩
def FX {x:Ob×ZS} (h:∃ b sl sc,x.2=.slice b sl sc):∀ u∈js x,u.oneCell'=ZV:=by
 obtain ⟨b,sl,sc,e⟩:=h;intro u a;simp only [js,Uw,W5,or_false] at a;rcases a with rfl|rfl|rfl
 . rfl
 . rfl
 . rw [e];rfl
def NP (K:Nat->Prop) (w:ZT) (L:List (Ob×ZS)):Prop:=∀ x∈L,bf K w x.2 x.1.RK
def NP.one {L:List (Ob×ZS)} (h:NP K w L):∀ u∈bQ L,u.oneCell'=ZV:=by
 intro u a;unfold bQ at a;rw [XL] at a;obtain ⟨x,d,b⟩:=a;obtain ⟨ao,c,e,_⟩:=h x d;exact FX ⟨ao,_,c,e⟩ u b
def bf.TJ (h:bf K w v l) (f:∀ k,K k->K' k):bf K' w v l:=by
 obtain ⟨ao,c,a,d,e⟩:=h;refine ⟨ao,c,a,d,λhl=>?_⟩;obtain ⟨b,off,g,i,j⟩:=e hl;exact ⟨b,off,g,f b i,j⟩
def NQ {os:List Ob} (h:eO K w v os):∃ L:List (Ob×ZS),L.map (·.1)=os/\NP K w L/\∀ w',eo K w w'->Src ZN 3 144 v L.length (bQ L) w':=by
 obtain ⟨ao,c,rfl,hl,B⟩:=h;by_cases s:os=[]
 . subst s;refine ⟨[],rfl,λx l=>by simp at l,λw' _=>?_⟩;cases ao with
   | none=>exact XM w' Vo c
   | some z=>exact Vi w' Vo z 0 c [] rfl (λj u a=>by simp at a) (λu H=>by simp at H)
 . obtain ⟨b,off,rfl,hK,E,r⟩:=B s;have C:∃ f:Nat->ZS,∀ i (d:i<os.length),w.cell? ⟨b,off+i*3,ZX⟩=ZW (ZZ os[i].name)/\w.cell? ⟨b,off+i*3+1,ZX⟩=ZW (Z7 Z9 (os[i].size:Nat))/\w.cell? ⟨b,off+i*3+2,ZX⟩=ZW (f i)/\bf K w (f i) os[i].RK:=by
    refine ⟨λi=>if d:i<os.length then Classical.choose (r i d) else .nilIface,λi d=>?_⟩;have:=Classical.choose_spec (r i d);simpa [d] using this
   obtain ⟨f,y⟩:=C;obtain ⟨L,hL⟩:∃ L:List (Ob×ZS),L=os.zipIdx.map (λq=>(q.1,f q.2)):=⟨_,rfl⟩;have p:L.length=os.length:=(by rw [hL];simp);have g:∀ i (d:i<os.length),L[i]'(by omega)=(os[i],f i):=λi d=>by subst hL;simp
   have t:NP K w L:=λx l=>by
    obtain ⟨i,d,e⟩:=US l;rw [g i (by omega)] at e;rw [<- e];exact (y i (by omega)).2.2.2
   refine ⟨L,?_,t,?_⟩
   . refine Vb (by simp [p]) λi I A=>?_;rw [UN,g i A]
   . intro w' F;have k:=F.2 b E.lt hK;rw [<- p];refine Vi w' Vo ⟨b,off,ZX⟩ L.length c (bQ L) (bT L) (λj u a=>?_) t.one;rw [Vl];have J:j<L.length*3:=(by obtain ⟨q,_⟩:=U9.1 a;rwa [bT] at q);have G:j/3<L.length:=(by omega);obtain ⟨m,n,o⟩:=Lb L (j/3) G;obtain ⟨b0,b1,b2,_⟩:=y (j/3) (by omega);rw [g (j/3) (by omega)] at m n o;have D:j=j/3*3\/j=j/3*3+1\/j=j/3*3+2:=(by omega);rcases D with q|q|q
     . rw [q,m] at a;rw [q,<- a];exact (Uk k).trans b0
     . rw [q,n] at a;rw [q,<- a,<- Vq];exact (Uk k).trans b1
     . rw [q,o] at a;rw [q,<- a,<- Vq];exact (Uk k).trans b2
def ui {L:List (Ob×ZS)} (h:w.ownsRow base 152 3 u L.length (bQ L)) (hl:L.length<=1000000) (hK:∀ k,base<=k->K k) (n:NP K w L):eO K w u (L.map (·.1)):=by
 rcases h.2 with ⟨rfl,q⟩|⟨g,cap,cur,rfl,o,d,r,s,t,m⟩
 . have:L=[]:=UU q;subst this;exact eO.nil _ _
 . refine ⟨ZW ⟨g,0,ZX⟩,cap,by rw [Ue],by rw [Ue];exact hl,λ_=>⟨g,0,rfl,hK g o,⟨_,_,_,d,by decide⟩,λi b=>?_⟩⟩;rw [Ue] at b;obtain ⟨e,f,l⟩:=Lb L i b;have a:∀ j u,j<L.length*3->(bQ L)[j]?=ZW u->w.cell? ⟨g,0+j,ZX⟩=ZW u:=λj u p c=>by
    rw [<- m,VF p] at c;rw [Uj];simp [World.cell?,d];simpa using c
   refine ⟨L[i].2,?_,?_,?_,?_⟩
   . rw [UN];exact a _ _ (by omega) e
   . rw [UN,Vq];exact a _ _ (by omega) f
   . rw [Vq];exact a _ _ (by omega) l
   . rw [UN];exact n _ (T6 b)
theorem Cr (k:FuncId) (first cap:Array ZS) (p:∀ (args:Array ZS) (w:ZT),(callFunc k args).run ZN w=.ok (.enter k args) w) (w:ZT) (R:ZT->ZS->ZT->Prop)
 (h:∀ w1,bW w w1->w1.heap.size=w.heap.size+1->w1.heap[w.heap.size]?=ZW (Z4 #[.nilIface] 64 (0,0))->ZQ ZN k (first++cap) w1 λe w2=>∃ v,e=Z3 v/\isErr v/\R w1 v w2/\w2.heap[w.heap.size]?=w1.heap[w.heap.size]?) :
 ZQ ZN 75 #[.func (.func k) first cap] w λe w'=>∃ v w1 w2,e=Z3 v/\isErr v/\bW w w1/\w1.heap.size=w.heap.size+1/\R w1 v w2/\w'=w2.setCell ⟨w.heap.size,0,ZX⟩ v:=by
 have j:=h (w.alloc (Z4 #[.nilIface] 64)) (bA w _) (by simp) (UC w _);have d:(w.alloc (Z4 #[.nilIface] 64)).heap[w.heap.size]?=ZW (Z4 #[.nilIface] 64 (0,0)):=Ug _ _;go_enter_defers func75,ntmps75
 go_wp2_with fail;refine j.mono ?_;clear j;rintro e w2 ⟨v,rfl,l,i,g⟩;have a:w2.heap[w.heap.size]?=ZW (Z4 #[.nilIface] 64 (0,0)):=g.trans d;have m:w2.cell? ⟨w.heap.size,0,ZX⟩=ZW .nilIface:=by simp [World.cell?,a]
 have n:w2.frozen? ⟨w.heap.size,0,ZX⟩=ZU:=by simp [World.frozen?,a]
 have c:(w2.setCell ⟨w.heap.size,0,ZX⟩ v).cell? ⟨w.heap.size,0,ZX⟩=ZW v:=by simp [World.cell?,World.setCell,VC,a]
 have H:=al i l;clear i g a d h;rcases l with rfl|⟨t,u,rfl⟩
 . go_wp2;refine leaves_cons (f:=106) (args:=#[Z6 (ZW ⟨w.heap.size,0,ZX⟩)]) (by simp) (by simp [go_sem]) ?_;refine (tB ⟨w.heap.size,0,ZX⟩ _).mono ?_;rintro e u' b ⟨rfl,rfl,rfl⟩;refine ⟨.nilIface,by simp [results,results75,go_sem,c],_,_,w2,rfl,.inl rfl,(TW _ w).alloc lR (Z4 #[.nilIface] 64),by simp,H.o.1,rfl⟩
 . go_wp2;refine leaves_cons (f:=106) (args:=#[Z6 (ZW ⟨w.heap.size,0,ZX⟩)]) (by simp) (by simp [go_sem]) ?_;refine (tB ⟨w.heap.size,0,ZX⟩ _).mono ?_;rintro e u' b ⟨rfl,rfl,rfl⟩;refine ⟨.iface t u,by simp [results,results75,go_sem,c],_,_,w2,rfl,.inr ⟨t,u,rfl⟩,(TW _ w).alloc lR (Z4 #[.nilIface] 64),by simp,H.o.1,rfl⟩
theorem lK (k:FuncId) (first cap:Array ZS) (E:∀ (args:Array ZS) (w:ZT),(callFunc k args).run ZN w=.ok (.enter k args) w) (w:ZT) (a:Nat) (cs:Array ZS) (q:w.heap[a]?=ZW (Z4 cs 146 (0,0))) (D:cs[9]?=ZW (Z1 ZU)) (R:ZT->ZS->ZT->Prop)
 (t:∀ w1,bW w w1->w1.heap.size=w.heap.size+1->w1.heap[w.heap.size]?=ZW (Z4 #[.nilIface] 64 (0,0))->ZQ ZN k (first++cap) w1 λe w2=>∃ v,e=Z3 v/\mN v/\R w1 v w2/\w2.heap[w.heap.size]?=w1.heap[w.heap.size]?/\∃ cs',w2.heap[a]?=ZW (Z4 cs' 146 (0,0))/\cs'[9]?=ZW (Z1 ZU)) :
 ZQ ZN 52 #[Z6 (ZW ⟨a,0,ZX⟩),.func (.func k) first cap] w λe w'=>∃ v w1 w2,e=Z3 v/\mN v/\bW w w1/\w1.heap.size=w.heap.size+1/\R w1 v w2/\w'=(w2.setCell ⟨w.heap.size,0,ZX⟩ v).setCell ⟨a,9,ZX⟩ (Z1 ZU):=by
 have K:a<w.heap.size:=(T5.1 q).1;have G:w.cell? ⟨a,9,ZX⟩=ZW (Z1 ZU):=by simp [World.cell?,q,D]
 have m:=Cr k first cap E w (λw1 v w2=>mN v/\R w1 v w2/\∃ cs',w2.heap[a]?=ZW (Z4 cs' 146 (0,0))/\cs'[9]?=ZW (Z1 ZU)) (λw1 y z c=>(t w1 y z c).mono (by
  rintro e w2 ⟨v,rfl,c,A,B,C⟩;exact ⟨v,rfl,c.isErr,⟨c,A,C⟩,B⟩))
 go_enter func52,ntmps52;go_wp2_with fail;refine m.mono ?_;rintro e w3 ⟨v,w1,w2,rfl,_,s,x,⟨u,p,cs',r,l⟩,rfl⟩;have b:(w2.setCell ⟨w.heap.size,0,ZX⟩ v).heap[a]?=ZW (Z4 cs' 146 (0,0)):=(Ud _ _ _ _ (by show a≠w.heap.size;omega)).trans r;obtain ⟨w3,d⟩:=nM (w2.setCell ⟨w.heap.size,0,ZX⟩ v);rw [d] at b ⊢;have I:w3.cell? ⟨a,9,ZX⟩=ZW (Z1 ZU):=by simp [World.cell?,b,l]
 have J:w3.frozen? ⟨a,9,ZX⟩=ZU:=by simp [World.frozen?,b]
 have H:=a6 s x p u d;clear s x p m t b l r d;rcases u with rfl|⟨n,F,rfl⟩
 . go_wp2_with fail;refine (zi 13 w3).mono ?_;rintro e w' ⟨rfl,rfl⟩;go_wp2;go_ret;obtain ⟨f,g,h,i,j⟩:=H.o;exact ⟨.nilIface,w1,w2,rfl,i,f,g,h,by rw [j]⟩
 . go_wp2_with fail;refine (JL n F w3).mono ?_;rintro e w' ⟨rfl,rfl⟩;go_wp2;go_ret;obtain ⟨f,g,h,i,j⟩:=H.o;exact ⟨.iface 66 (Z7 Z9 n),w1,w2,rfl,i,f,g,h,by rw [j]⟩
def Lc:∀ (x y:List UInt8),Op.bytesLess x y=decide (x<y)
 | [],[]=>by simp [Op.bytesLess]
 | _::_,[]=>by simp [Op.bytesLess]
 | [],_::_=>by simp [Op.bytesLess]
 | a::x,b::y=>by
  rw [Op.bytesLess,Lc x y];simp only [List.cons_lt_cons_iff];by_cases c:a<b<;>by_cases d:a=b<;>by_cases e:x<y<;>simp [c,d,e]
def jt (a b:ByteArray):Bool:=Op.bytesLess a.toList b.toList
def zY:jt a b=ZV↔a.toList<b.toList:=by unfold jt;rw [Lc];simp
def zZ:jt a b=ZU↔¬ a.toList<b.toList:=by unfold jt;rw [Lc];simp
def iQ (a:ByteArray):jt a a=ZU:=zZ.2 (List.lt_irrefl _)
def jL {c:ByteArray} (h:jt a b=ZV) (k:jt b c=ZV):jt a c=ZV:=zY.2 (List.lt_trans (zY.1 h) (zY.1 k))
def toList_inj (h:a.toList=b.toList):a=b:=by
 have c:a.data.toList=b.data.toList:=by rw [<- Lib.toList_data,<- Lib.toList_data];exact h
 have d:a.data=b.data:=Array.toList_inj.1 c;cases a;cases b;simpa using d
def si (h:jt a b=ZU) (k:jt b a=ZU):a=b:=toList_inj (List.le_antisymm (zZ.1 k) (zZ.1 h))
def Ig (h:OQ a b=ZU):jt b a=ZV:=by
 unfold OQ at h;rw [XK] at h;cases hb:jt b a
 . have e:=si (a:=a) (b:=b) h.1 hb;rw [e] at h;simp at h
 . rfl
theorem Ih (h:jt b a=ZV):OQ a b=ZU:=by
 unfold OQ;rw [XK];constructor
 . cases hb:Op.bytesLess a.toList b.toList
   . rfl
   . have:=jL (a:=b) (b:=a) (c:=b) h hb;rw [iQ] at this;cases this
 . cases hb:(a.toList==b.toList)
   . rfl
   . have e:=toList_inj (eq_of_beq hb);rw [e,iQ] at h;cases h
def Up (ns:List ByteArray):Prop:=ns.Pairwise (λa b=>jt a b=ZV)
def aU (os:List Ob):List ByteArray:=os.map (·.name)
def bh (os:List Ob):(aU os).length=os.length:=by unfold aU;rw [Ue]
def sj {os:List Ob} (a:i<os.length):os.getD i FV=os[i]:=by rw [Ub,Uc a];rfl
def Ii (ns:List ByteArray) (h:∀ i (c:i+1<ns.length),jt ns[i] ns[i+1]=ZV):Up ns:=by
 unfold Up;rw [VU];intro i j c a b;obtain ⟨d,rfl⟩:∃ d,j=i+1+d:=⟨j-(i+1),by omega⟩;clear b;induction d with
 | zero=>exact h i a
 | succ d ih=>exact jL (ih (by omega)) (h (i+1+d) a)
def NR {os:List Ob} (h:zX os):Up (aU os):=by
 refine Ii _ λi a=>?_;rw [bh] at a;have:=Ig (h i a);rw [sj a,sj (by omega:i<os.length)] at this;have e:∀ j (b:j<os.length),(aU os)[j]'(by rw [bh];exact b)=os[j].name:=λj b=>by unfold aU;rw [UN]
 rw [e i (by omega),e (i+1) a];exact this
def Aa {os:List Ob} (h:Up (aU os)):zX os:=by
 intro i a;unfold Up at h;rw [VU] at h;have:=h i (i+1) (by rw [bh];omega) (by rw [bh];omega) (Nat.lt_succ_self i);refine Ih ?_;rw [sj a,sj (by omega:i<os.length)];unfold aU at this;simpa using this
def aI (ns:List ByteArray) (x:ByteArray):Nat:=(ns.takeWhile (λn=>jt n x)).length
def xX (ns:List ByteArray) (x:ByteArray):aI ns x<=ns.length:=by unfold aI;exact (List.takeWhile_prefix _).length_le
def gH:∀ (ns:List ByteArray) (x:ByteArray) (i:Nat),i<=ns.length->(∀ j (e:j<ns.length),j<i->jt ns[j] x=ZV)->(∀ a:i<ns.length,jt ns[i] x=ZU)->aI ns x=i
 | [],x,i,a,_,_=>by simp at a;subst a;rfl
 | n::ns,x,0,a,b,c=>by
  have:=c (by simp);unfold aI;rw [YK];simp at this;simp [this]
 | n::ns,x,i+1,a,b,c=>by
  have d:=b 0 (by simp) (by omega);simp at d;have:=gH ns x i (by simpa using a) (λj e g=>b (j+1) (YY e) (by omega)) (λf=>c (YY f));unfold aI at this ⊢;rw [YK];simp [d,this]
def mO:∀ (ns:List ByteArray) (x:ByteArray) (j:Nat) (a:j<ns.length),j<aI ns x->jt ns[j] x=ZV
 | [],_,j,a,_=>by simp at a
 | n::ns,x,j,a,h=>by
  unfold aI at h;rw [YK] at h;cases b:jt n x
  . simp [b] at h
  . simp [b] at h;cases j with
    | zero=>simpa using b
    | succ j=>simpa using mO ns x j (by simpa using a) (by unfold aI;omega)
def xY:∀ (ns:List ByteArray) (x:ByteArray) (a:aI ns x<ns.length),jt ns[aI ns x] x=ZU
 | [],x,a=>by simp at a
 | n::ns,x,a=>by
  by_cases b:jt n x=ZV
  . have e:aI (n::ns) x=aI ns x+1:=(by unfold aI;rw [YK];simp [b]);have c:=xY ns x (by rw [e] at a;simpa using a);simp only [e,X1];exact c
  . have e:aI (n::ns) x=0:=(by unfold aI;rw [YK];simp [b]);simp only [e,aa7];simpa using b
def vS (b:Up ns) (x:ByteArray) (j:Nat) (f:j<ns.length) (h:aI ns x<=j):jt ns[j] x=ZU:=by
 have a:=xY ns x (by omega);rcases XN h with e|d
 . subst e;exact a
 . unfold Up at b;rw [VU] at b;have c:=b _ _ (by omega) f d;cases hb:jt ns[j] x
   . rfl
   . rw [jL c hb] at a;cases a
def gZ (a:Up ns) {x:ByteArray} {k:Nat} (b:k<ns.length) (e:ns[k]=x):aI ns x=k:=by
 refine gH ns x k (Nat.le_of_lt b) (λj d c=>?_) (λf=>by rw [e];exact iQ x);unfold Up at a;rw [VU] at a;have:=a j k d b c;rwa [e] at this
def uj (b:Up ns) {x:ByteArray} (c:x∈ns):∃ h:aI ns x<ns.length,ns[aI ns x]=x:=by
 obtain ⟨k,a,e⟩:=US c;have:=gZ b a e;exact ⟨by omega,by simp only [this];exact e⟩
def Ij (c:Up ns) {x:ByteArray} (m:x∉ns):Up (ns.take (aI ns x)++x::ns.drop (aI ns x)):=by
 have n:=xX ns x;unfold Up;rw [aaS,List.pairwise_cons];refine ⟨YN (YZ _ _) c,⟨λa g=>?_,YN (YO _ _) c⟩,λa g b f=>?_⟩
 . obtain ⟨j,h,e⟩:=US g;rw [Un] at h;rw [Yj] at e;have d:=vS c x (aI ns x+j) (by omega) (by omega);rw [e] at d;cases f:jt x a
   . exact absurd (UZ g) (by rw [si d f];exact m)
   . rfl
 . obtain ⟨j,h,e⟩:=US g;rw [Uo] at h;rw [List.getElem_take] at e;have d:=mO ns x j (by omega) (by omega);rw [e] at d;rcases Uw.1 f with rfl|f
   . exact d
   . obtain ⟨i,l,k⟩:=US f;rw [Un] at l;rw [Yj] at k;unfold Up at c;rw [VU] at c;have:=c j (aI ns x+i) (by omega) (by omega) (by omega);rwa [e,k] at this
def Ld (b:Up ns) (k:Nat):Up (ns.take k++ns.drop (k+1)):=by
 refine YN ?_ b;have a:(ns.take k++ns.drop (k+1)).Sublist (ns.take k++ns.drop k):=YP (YQ _) (by rw [<- VA];exact YO _ _);rwa [Wh] at a
def NS (a:x<256):gm 1 x=x:=by rw [fA (by decide) a,ew x a]
theorem Le (D i t:Nat) (a:i<D):(dh D i).getD t 0=if t=i then 1 else 0:=by
 unfold dh;rw [Ub,Xf];by_cases e:t=i
 . subst e;simp [a]
 . rw [TS (λq=>e q.symm),TS e,WC];split<;>rfl
def Cs (D i q:Nat) (c:i<D) (Dt:List a8) (b:(Dt.getD i []).getD q 0<256):∀ t,Nd (dh D i) Dt t q=if i<t then (Dt.getD i []).getD q 0 else 0
 | 0=>by rw [TS (by omega)];rfl
 | t+1=>by
  show Nd (dh D i) Dt t q^^^gm ((dh D i).getD t 0) ((Dt.getD t []).getD q 0)=_;rw [Cs D i q c Dt b t,Le D i t c];by_cases e:t=i
  . subst e;rw [TS (by omega),TT rfl,NS b,TT (by omega),VO]
  . rw [TS e,bI,U3];by_cases a:i<t
    . rw [TT a,TT (by omega)]
    . rw [TS a,TS (by omega)]
def Ik (D L G i:Nat) (b:i<D):∃ h:i<(aT D L G).length,(aT D L G)[i]=dh D i:=by
 have hl:i<(aT D L G).length:=by rw [cI];omega
 refine ⟨hl,?_⟩;have a:(aT D L G)[i]?=ZW (dh D i):=by
  unfold aT;rw [Vv (by simp;omega),Vv (by simp;omega)];simp [b]
 rw [Uc hl] at a;exact UM a
def Ct (a:∀ x∈dl,x<256):∀ x∈iI D dl,x<256:=by
 intro x h;unfold iI at h;rcases Ui.1 h with q|q
 . exact a x q
 . rw [Vz q];decide
theorem Cu (a:i<D) (hl:dl.length<=D*44) (j:∀ x∈dl,x<256):(dg D L G dl).getD i []=((iI D dl).drop (i*44)).take 44:=by
 obtain ⟨h,g⟩:=Ik D L G i a;have e:(dg D L G dl).getD i []=cH (aT D L G)[i] (dV D dl) 44 (dV D dl).length:=by simp [dg,fm,h]
 rw [e,g,dZ];have hr:(dV D dl).getD i []=((iI D dl).drop (i*44)).take 44:=by simp [dV,a]
 have d:=lZ hl a;unfold cH;apply Vb
 . simp [d]
 . intro q k b;have c:((dV D dl).getD i []).getD q 0=(((iI D dl).drop (i*44)).take 44)[q]:=(by rw [hr,Ub,Uc b];rfl);have f:((dV D dl).getD i []).getD q 0<256:=(by rw [c];exact Ct j _ (UZ (UV (T6 b))));rw [UN,List.getElem_range,Cs D i q a _ f,TT a,c]
def xZ:∀ m,((YF m).map λi=>((iI D dl).drop (i*44)).take 44).flatten=(iI D dl).take (44*m)
 | 0=>by simp
 | m+1=>by
  rw [Vr,Uv,abb,xZ m,show 44*(m+1)=44*m+44 by omega,List.take_add];simp [Wx]
def Lf (h:size<=dl.length):(iI D dl).take size=dl.take size:=by
 unfold iI;rw [VQ h]
theorem Il (f:m=(size+43)/44) (d:m<=D) (hl:dl.length<=D*44) (c:∀ x∈dl,x<256) (b:size<=dl.length):((YF m).map λi=>(dg D L G dl).getD i []).flatten.take size=dl.take size:=by
 have e:((YF m).map λi=>(dg D L G dl).getD i [])=(YF m).map λi=>((iI D dl).drop (i*44)).take 44:=by
  apply Wo;intro i a;exact Cu (by have:=Uu.1 a;omega) hl c
 rw [e,xZ,YL,show min size (44*m)=size by omega,Lf b]
def Cv (c:∀ x∈dl,x<256):(dV D dl).length=D/\∀ l∈dV D dl,∀ x∈l,x<256:=by
 refine ⟨dZ D dl,λl hl x a=>?_⟩;obtain ⟨i,b,rfl⟩:=US hl;rw [oe b] at a;exact Ct c x (UZ (UV a))
def FY (nb:Nat):∀ (l:a8) (s:(Nat->Bool)×Bool),(∀ x∈l,2<=x/\x<nb/\s.1 x=ZU)->l.Nodup->(l.foldl (jr nb) s).2=s.2/\∀ x,(l.foldl (jr nb) s).1 x=(s.1 x || decide (x∈l))
 | [],s,_,_=>⟨rfl,λx=>by simp⟩
 | y::l,s,h,m=>by
  obtain ⟨p,r,g⟩:=h y (U7 ..);obtain ⟨i,k⟩:=YE.1 m;have e:jr nb s y=(λj=>if j=y then ZV else s.1 j,s.2):=by
   unfold jr;rw [TS (λq=>by rcases q with q|q|q;omega;omega;rw [g] at q;cases q)]
  rw [W4,e];obtain ⟨n,o⟩:=FY nb l (λj=>if j=y then ZV else s.1 j,s.2) (λx f=>by
   obtain ⟨a,b,c⟩:=h x (UJ _ f);have d:¬ x=y:=λq=>i (by rw [<- q];exact f);exact ⟨a,b,by show (if x=y then ZV else s.1 x)=ZU;rw [TS d];exact c⟩) k
  refine ⟨n,λx=>?_⟩;rw [o];show ((if x=y then ZV else s.1 x) || decide (x∈l))=(s.1 x || decide (x∈y::l));by_cases d:x=y
  . subst d;simp
  . rw [TS d];simp [d]
def Lg (e:l.Nodup) (a:∀ x∈l,2<=x/\x<nb):(tk nb l).2=ZV/\∀ x,(tk nb l).1 x=decide (x∈l):=by
 obtain ⟨c,d⟩:=FY nb l (λ_=>ZU,ZV) (λx b=>⟨(a x b).1,(a x b).2,rfl⟩) e;exact ⟨c,λx=>by rw [show (tk nb l).1 x=_ from d x];rfl⟩
def pT {T:Nat->Bool}:x∈aZ T k↔x<k/\2<=x/\T x=ZU:=by
 unfold aZ;rw [Vy,Uu];simp
def qX (T:Nat->Bool) (k:Nat):(aZ T k).Nodup:=(Y3).filter _
def jd (e:l.Nodup) (d:∀ x∈l,2<=x/\x<nb) {x:Nat} (f:x∈aZ (tk nb l).1 nb):(2<=x/\x<nb)/\x∉l:=by
 obtain ⟨b,c,a⟩:=pT.1 f;rw [(Lg e d).2] at a;exact ⟨⟨c,b⟩,of_decide_eq_false a⟩
def ni (b:l.Nodup) (a:∀ x∈l,2<=x/\x<nb) (c:Nat):(((aZ (tk nb l).1 nb).take c)++l).Nodup/\∀ x∈((aZ (tk nb l).1 nb).take c)++l,2<=x/\x<nb:=by
 refine ⟨U8.2 ⟨(qX _ _).sublist (YZ _ _),b,λx d y f e=>?_⟩,λx d=>?_⟩
 . subst e;exact (jd b a (UV d)).2 f
 . rcases Ui.1 d with h|h
   . exact (jd b a (UV h)).1
   . exact a x h
theorem lL (c:l.Nodup) (a:∀ x∈l,2<=x/\x<nb):(aZ (tk nb l).1 nb).length+l.length+2=max 2 nb:=by
 by_cases m:2<=nb
 . have k:((aZ (tk nb l).1 nb)++l++[0,1]).Perm (YF nb):=by
    refine (List.perm_ext_iff_of_nodup ?_ Y3).2 λx=>?_
    . refine U8.2 ⟨U8.2 ⟨qX _ _,c,λx b y d e=>?_⟩,by decide,λx b y d e=>?_⟩
      . subst e;exact (jd c a b).2 d
      . subst e;have g:2<=x:=by
         rcases Ui.1 b with h|h
         . exact (jd c a h).1.1
         . exact (a x h).1
        simp at d;omega
    . rw [Uu,Ui,Ui,pT];constructor
      . rintro ((h|h)|h)
        . exact h.1
        . exact (a x h).2
        . simp at h;omega
      . intro h;by_cases g:2<=x
        . by_cases f:x∈l
          . exact .inl (.inr f)
          . exact .inl (.inl ⟨h,g,by rw [(Lg c a).2];exact Vc f⟩)
        . exact .inr (by simp;omega)
   have:=k.length_eq;simp at this;omega
 . have i:l=[]:=by
    cases l with
    | nil=>rfl
    | cons x l=>have:=a x (U7 ..);omega
   subst i;have j:aZ (tk nb []).1 nb=[]:=by
    rw [List.eq_nil_iff_forall_not_mem];intro x b;have:=pT.1 b;omega
   rw [j];simp;omega
def dA (D:Nat) (d:a8) (k:Nat):a8:=(d.drop (k*(D*44))).take (D*44)
def ia (h:k<l.length):l.getD k 0=l[k]:=by rw [Ub,Uc h];rfl
def lM (h:k<l.length):l.getD k 0∈l:=by rw [ia h];exact T6 h
def aB.at (A:aB) (b:Nat) (f:Nat->bE):Prop:=∀ i,i<A.n->A.rc i b=f i/\(gnB A b i=ZV->A.sv.testBit i=ZV)
def aB.holds (A:aB) (D L G:Nat) (S:a8) (c:Nat->a8):Prop:=∀ k,k<S.length->A.at (S.getD k 0) (OO D L G (c k))
def jM (A:aB) (ds:a8) {b m:Nat} (f:Nat->bE) (i:Nat) (h:m≠b):(A.putAt ds b f).rc i m=A.rc i m:=TS λq=>h q.1
def Lh (A:aB) (b:Nat) (f:Nat->bE) {i n:Nat} (h:i<n):(A.putAt (YF n) b f).rc i b=f i:=TT ⟨rfl,Uu.2 h⟩
def oC {A:aB} {S:a8} {c:Nat->a8} (i:Nat) {m:Nat} (h:m∉S):∀ k,k<=S.length->(A.wrTo D L G S c k).rc i m=A.rc i m
 | 0,_=>rfl
 | k+1,hk=>(jM _ _ (b:=S.getD k 0) _ _ (λe:m=S.getD k 0=>h (e▸lM hk))).trans (oC i h k (by omega))
def uk {A:aB} (b:Nat) (f:Nat->bE) (hl:∀ i,i<A.n->A.lost i=ZV->A.sv.testBit i=ZV):(A.putAt (YF A.n) b f).at b f:=λi a=>⟨Lh _ _ _ a,λq=>hl i a (qV (Uu.2 a) q)⟩
def aB.at.off {A B:aB} {b:Nat} {f:Nat->bE} (h:A.at b f) (k:Rm A B) (hr:∀ i,B.rc i b=A.rc i b):B.at b f:=λi a=>⟨(hr i).trans (h i (k.n▸a)).1,λq=>by rw [k.sv];exact (k.gn b i q).elim (h i (k.n▸a)).2 id⟩
def aB.holds.off {A B:aB} {S:a8} {c:Nat->a8} (h:A.holds D L G S c) (k:Rm A B) (hr:∀ b∈S,∀ i,B.rc i b=A.rc i b):B.holds D L G S c:=λj a=>(h j a).off k (hr _ (lM a))
def FZ {A:aB} {S:a8} {c:Nat->a8} (a:A.fine D L G) (b:S.Nodup):∀ k j,j<k->k<=S.length->(A.wrTo D L G S c k).at (S.getD j 0) (OO D L G (c j))
 | 0,_,hj,_=>by omega
 | k+1,j,hj,hk=>by
  rcases XN (Y4 hj) with rfl|d
  . exact uk _ _ ((kH A D L G S c j).2.2.fine a).2
  . refine (FZ a b k j d (by omega)).off (dM.put _ _ _ _).Tq λi=>jM _ _ _ _ (λe=>?_);rw [ia (by omega),ia (by omega)] at e;have:=(List.getElem_inj b).1 e;omega
def uo {A:aB} {S:a8} (a:A.fine D L G) (c:Nat->a8) (d:S.Nodup):(A.wrTo D L G S c S.length).holds D L G S c:=λk b=>FZ a d _ k b lR
abbrev aL:=List (Ob×a8)
def aL.os (xs:aL):List Ob:=xs.map (·.1)
def aL.names (xs:aL):List ByteArray:=aU xs.os
structure kX (D:Nat) (x:Ob×a8):Prop where
 fit:x.1.fit
 st:x.1.RK.length=max 1 ((x.1.size+D*44-1)/(D*44))
 len:x.2.length=x.1.size
 byt:∀ b∈x.2,b<256
def ur {xs:aL} {x:Ob×a8} (a:x∈xs) {b:Nat} (h:b∈x.1.RK):b∈af xs.os:=XL.2 ⟨x.1,List.mem_map_of_mem a,h⟩
structure cJ (A:aB) (D L G t:Nat) (P:a8) (xs:aL):Prop where
 turn:0<t
 root:A.at 0 (λ_=>.root D L G t (P.getD 0 0) (an xs.os).length)
 fill:A.at 1 (λ_=>.filled)
 pl:P.length=pgs D (an xs.os).length
 page:A.holds D L G P (cj D P (an xs.os))
 nod:(P++af xs.os).Nodup
 Tk:∀ x∈P++af xs.os,2<=x/\x<A.nb
 fits:∀ x∈xs,kX D x
 up:Up xs.names
 held:∀ x∈xs,A.holds D L G x.1.RK (dA D x.2)
 room:(af xs.os).length+2*P.length+2<=A.nb
def cJ.off {A B:aB} {xs:aL} (h:cJ A D L G t P xs) (k:Rm A B) (hr:∀ b,(b<2\/b∈P++af xs.os)->∀ i,B.rc i b=A.rc i b):cJ B D L G t P xs:=
 ⟨h.turn,h.root.off k (hr 0 (.inl (by decide))),h.fill.off k (hr 1 (.inl (by decide))),h.pl,h.page.off k λb a=>hr b (.inr (UF _ a)),h.nod,k.nb▸h.Tk,h.fits,h.up,λx c=>(h.held x c).off k λb a=>hr b (.inr (VM _ (ur c a))),k.nb▸h.room⟩
def OR (A:aB) (D L G t:Nat) (P l:a8):(A.TQ D L G t P l).n=A.n/\(A.TQ D L G t P l).nb=A.nb/\dM A (A.TQ D L G t P l):=have h:=kH A D L G P (cj D P l) P.length;⟨h.1,h.2.1,h.2.2.trans (dM.put _ _ _ _)⟩
def pU {B:aB} {xs':aL} (j:B.fine D L G) (p:B.at 1 (λ_=>.filled))
 (r:P'.length=pgs D (an xs'.os).length) (f:(P'++af xs'.os).Nodup) (d:∀ x∈P'++af xs'.os,2<=x/\x<B.nb) (o:∀ x∈xs',kX D x) (s:Up xs'.names) (m:∀ x∈xs',B.holds D L G x.1.RK (dA D x.2)) (n:(af xs'.os).length+2*P'.length+2<=B.nb) {t':Nat} (t:0<t') :
 cJ (B.TQ D L G t' P' (an xs'.os)) D L G t' P' xs':=by
 have c:=OR B D L G t' P' (an xs'.os);have h:=kH B D L G P' (cj D P' (an xs'.os)) P'.length;have g:∀ b∈P'++af xs'.os,b≠0:=λb a e=>by have:=(d b a).1;omega
 refine ⟨t,(by have:=uk (A:=B.wrTo D L G P' (cj D P' (an xs'.os)) P'.length) 0 (λ_=>.root D L G t' (P'.getD 0 0) (an xs'.os).length) (h.2.2.fine j).2;rwa [h.1] at this),p.off c.2.2.Tq λi=>(jM _ _ _ _ (by decide)).trans (oC i (λq=>by have:=(d 1 (UF _ q)).1;omega) _ lR),r,
  (uo (A:=B) j (cj D P' (an xs'.os)) (U8.1 f).1).off (dM.put _ _ _ _).Tq λb a i=>jM _ _ _ _ (g b (UF _ a)),f,by rw [c.2.1];exact d,o,s,λx l=>(m x l).off c.2.2.Tq λb a i=>?_,by rw [c.2.1];exact n⟩
 have k:=ur l a;exact (jM _ _ _ _ (g b (VM _ k))).trans (oC i (λq=>(U8.1 f).2.2 b q b k rfl) _ lR)
def aL.ins (xs:aL) (x:Ob×a8):aL:=xs.take (aI xs.names x.1.name)++x::xs.drop (aI xs.names x.1.name)
def aL.del (xs:aL) (k:Nat):aL:=xs.take k++xs.drop (k+1)
def jN (xs:aL) (x:Ob×a8):(xs.ins x).Perm (x::xs):=by
 unfold aL.ins;refine List.perm_middle.trans ?_;rw [Wh]
def Li (xs:aL) (x:Ob×a8):(xs.ins x).os=xs.os.take (aI xs.names x.1.name)++x.1::xs.os.drop (aI xs.names x.1.name):=by
 unfold aL.ins aL.os;rw [Uv,U0,WD,WE]
def Im (xs:aL) (x:Ob×a8):(xs.ins x).names=xs.names.take (aI xs.names x.1.name)++x.1.name::xs.names.drop (aI xs.names x.1.name):=by
 unfold aL.names;rw [Li];unfold aU aL.names aU;rw [Uv,U0,WD,WE]
def Lj (xs:aL) (k:Nat):(xs.del k).os=xs.os.take k++xs.os.drop (k+1):=by
 unfold aL.del aL.os;rw [Uv,WD,WE]
def Io (xs:aL) (k:Nat):(xs.del k).names=xs.names.take k++xs.names.drop (k+1):=by
 unfold aL.names;rw [Lj];unfold aU;rw [Uv,WD,WE]
def kL (xs:aL) (k:Nat):(xs.del k).Sublist xs:=by
 have a:(xs.take k++xs.drop (k+1)).Sublist (xs.take k++xs.drop k):=YP (YQ _) (by rw [<- VA];exact YO _ _);rwa [Wh] at a
def Ex (o:Ob) (os:List Ob):af (o::os)=o.RK++af os:=by unfold af;rw [VE]
def pV (xs:aL) (x:Ob×a8):(af (xs.ins x).os).Perm (x.1.RK++af xs.os):=by
 have h:=(jN xs x).map (·.1);have:=h.flatMap_right (·.RK);rw [U0,VE] at this;exact this
def Ip (xs:aL) (x:Ob×a8):(an (xs.ins x).os).length=(an xs.os).length+(bM x.1).length:=by
 have h:=((jN xs x).map (·.1)).flatMap_right bM;rw [U0,VE] at h;have:=h.length_eq;rw [Ua] at this;unfold an aL.os;omega
def oE {β:Type} (f:α->List β):∀ {l m:List α},l.Sublist m->(l.flatMap f).Sublist (m.flatMap f)
 | _,_,.slnil=>by simp
 | _,_,.cons a h=>by rw [VE];exact (oE f h).trans (abn _ _)
 | _,_,.cons_cons a h=>by rw [VE,VE];exact YP (YQ _) (oE f h)
def Iq (xs:aL) (k:Nat):(af (xs.del k).os).Sublist (af xs.os):=oE _ ((kL xs k).map _)
def pW (xs:aL) (k:Nat):(an (xs.del k).os).length<=(an xs.os).length:=(oE bM ((kL xs k).map (Prod.fst:Ob×a8->Ob))).length_le
def uv (h:m<=n):pgs D m<=pgs D n:=by
 unfold pgs;have:(m+(D*44-4)-1)/(D*44-4)<=(n+(D*44-4)-1)/(D*44-4):=Yk (by omega);omega
def Lk {A:aB} {xs:aL} (h:cJ A D L G t P xs) (o:A.fine D L G) (x:Ob×a8) (v:kX D x) (r:x.1.name∉xs.names) (s:P'.length=pgs D (an (xs.ins x).os).length)
 (m:((x.1.RK++P')++(P++af xs.os)).Nodup) (k:∀ b∈(x.1.RK++P')++(P++af xs.os),2<=b/\b<A.nb) (H:(af xs.os).length+x.1.RK.length+2*P'.length+2<=A.nb) :
 cJ ((A.wrTo D L G x.1.RK (dA D x.2) x.1.RK.length).TQ D L G (t+1) P' (an (xs.ins x).os)) D L G (t+1) P' (xs.ins x):=by
 obtain ⟨F,l,g⟩:=kH A D L G x.1.RK (dA D x.2) x.1.RK.length;rw [U8] at m;obtain ⟨w,z,j⟩:=m;obtain ⟨p,B,C⟩:=U8.1 w;obtain ⟨I,E,J⟩:=U8.1 z;have n:∀ b,b∉x.1.RK->∀ i,(A.wrTo D L G x.1.RK (dA D x.2) x.1.RK.length).rc i b=A.rc i b:=λb c i=>oC i c _ lR;refine pU (g.fine o) (h.fill.off g.Tq (n 1 λe=>by have:=(k 1 (by simp [e])).1;omega)) s ?_ ?_ ?_ ?_ ?_ ?_ (by omega)
 . have u:(P'++af (xs.ins x).os).Perm (P'++(x.1.RK++af xs.os)):=(pV xs x).append_left P';rw [u.nodup_iff,U8];refine ⟨B,?_,?_⟩
   . rw [U8];exact ⟨p,E,λa f b c=>j a (by simp [f]) b (by simp [c])⟩
   . intro a f b c;rcases Ui.1 c with c|c
     . exact λe=>C b c a f e.symm
     . exact j a (by simp [f]) b (by simp [c])
 . intro b c;rw [l];refine k b ?_;rcases Ui.1 c with c|c
   . simp [c]
   . have:=(pV xs x).mem_iff.1 c;rcases Ui.1 this with q|q<;>simp [q]
 . intro y d;rcases Uw.1 ((jN xs x).mem_iff.1 d) with rfl|d
   . exact v
   . exact h.fits y d
 . rw [Im];exact Ij h.up r
 . intro y d;rcases Uw.1 ((jN xs x).mem_iff.1 d) with rfl|d
   . exact uo o _ p
   . exact (h.held y d).off g.Tq λb c=>n b λe=>j _ (UF _ e) _ (VM _ (ur d c)) rfl
 . rw [(pV xs x).length_eq,Ua,l];omega
def Ll {A:aB} {xs:aL} (h:cJ A D L G t P xs) (m:A.fine D L G) (k:Nat) (f:P'.length=pgs D (an (xs.del k).os).length)
 (j:(P'++(P++af xs.os)).Nodup) (i:∀ b∈P'++(P++af xs.os),2<=b/\b<A.nb) :
 cJ (A.TQ D L G (t+1) P' (an (xs.del k).os)) D L G (t+1) P' (xs.del k):=by
 have d:=Iq xs k;obtain ⟨n,o,p⟩:=U8.1 j;obtain ⟨u,q,v⟩:=U8.1 o;refine pU m h.fill f ?_ ?_ (λx e=>h.fits x ((kL xs k).subset e)) ?_ (λx e=>h.held x ((kL xs k).subset e)) ?_ (by omega)
 . rw [U8];exact ⟨n,q.sublist d,λa l b c=>p a l b (VM _ (d.subset c))⟩
 . intro b c;refine i b ?_;rcases Ui.1 c with c|c
   . simp [c]
   . simp [d.subset c]
 . rw [Io];exact Ld h.up k
 . have:=d.length_le;have:=h.room;have g:=uv (D:=D) (pW xs k);rw [<- f,<- h.pl] at g;omega
theorem F0 (q s:Nat) (d:1<=q):max 1 ((s+q-1)/q)<=s/q+1:=by
 have c:(s+q-1)/q<=(s+q)/q:=Yk (by omega);rw [Nat.add_div_right _ (by omega)] at c;generalize s/q=a at c ⊢;generalize (s+q-1)/q=b at c ⊢;omega
def qY (D:Nat) (xs:aL):Nat:=(xs.map λx=>x.2.length/(D*44)+1).sum
def F2 (hD:1<=D):∀ {xs:aL},(∀ x∈xs,kX D x)->(af xs.os).length<=qY D xs
 | [],_=>by simp [qY,af,aL.os]
 | x::xs,h=>by
  have ih:=F2 hD (xs:=xs) (λy c=>h y (by simp [c]));have a:=h x (by simp);have b:=F0 (D*44) x.1.size (by omega);rw [<- a.st] at b;have e:af (aL.os (x::xs))=x.1.RK++af (aL.os xs):=by unfold aL.os;rw [U0,Ex]
  rw [e,Ua];unfold qY at ih ⊢;rw [U0,XB,a.len];omega
def je (hD:1<=D):∀ {xs:aL},(∀ x∈xs,kX D x)->(an xs.os).length<=xs.length*(19+4*(1500/(D*44)+1))
 | [],_=>by simp [an,aL.os]
 | x::xs,h=>by
  have:=je hD (xs:=xs) (λy c=>h y (by simp [c]));have a:=h x (by simp);have b:=F0 (D*44) x.1.size (by omega);rw [<- a.st] at b;have:x.1.size/(D*44)<=1500/(D*44):=Yk a.fit.size;have e:an (aL.os (x::xs))=bM x.1++an (aL.os xs):=by unfold aL.os an;rw [U0,VE]
  rw [e,Ua,cY a.fit,UA,XG];omega
def Ey (hD:1<=D) (k:D<=6) {xs:aL} (h:∀ x∈xs,kX D x) {n nb count pages:Nat} (i:n<=1500) (b:count=max 1 ((n+D*44-1)/(D*44))) (c:pages=pgs D ((an xs.os).length+(19+4*count)))
 (d:nb<(af xs.os).length+count+2*pages+2):nb<qY D xs+(n/(D*44)+1)+2*((xs.length+1)*200/(D*44)+1)+8:=by
 have e:=F2 hD h;have f:=je hD h;have g:=F0 (D*44) n (by omega);rw [<- b] at g;have j:n/(D*44)<=1500/(D*44):=Yk i;suffices hs:pages<=(xs.length+1)*200/(D*44)+4 by omega
 obtain ⟨m,a⟩:=nM (xs.length);obtain ⟨l,hl⟩:=nM ((an xs.os).length);rw [a,hl] at f;rw [hl] at c;rw [a];clear e b a hl d h;subst c;unfold pgs;have:D=1\/D=2\/D=3\/D=4\/D=5\/D=6:=by omega
 rcases this with rfl|rfl|rfl|rfl|rfl|rfl<;>omega
def Ez {A:aB} {xs:aL} (h:cJ A D L G t P xs) {count pages l:Nat} (c:pages=pgs D ((an xs.os).length+l)) (d:(af xs.os).length+count+2*pages+2<=A.nb) :
 count+pages<=(aZ (tk A.nb (P++af xs.os)).1 A.nb).length:=by
 have a:=lL h.nod h.Tk;have b:=uv (D:=D) (show (an xs.os).length<=(an xs.os).length+l by omega);rw [<- c,<- h.pl] at b;rw [Ua] at a;omega
def EA {A:aB} {xs:aL} (h:cJ A D L G t P xs) (k:Nat):pgs D (an (xs.del k).os).length<=(aZ (tk A.nb (P++af xs.os)).1 A.nb).length:=by
 have a:=lL h.nod h.Tk;have b:=uv (D:=D) (pW xs k);rw [<- h.pl] at b;rw [Ua] at a;have:=h.room;omega
theorem mi (x:ByteArray) (w:ZT):ZQ ZN 167 #[ZZ x] w λe w'=>e=Z3 (Z1 ZU)/\w'=w:=by
 go_enter func167,ntmps167;go_wp2;go_ret;exact ⟨by simp,rfl⟩
def rH (a b:ByteArray):Int:=if jt a b then -1 else if jt b a then 1 else 0
def F3:rH a b<0↔jt a b=ZV:=by
 unfold rH;cases h1:jt a b<;>cases h2:jt b a<;>simp
theorem F4:rH a b=0↔a=b:=by
 unfold rH;constructor
 . intro h;cases h1:jt a b
   . cases h2:jt b a
     . exact si h1 h2
     . simp [h1,h2] at h
   . simp [h1] at h
 . rintro rfl;simp [iQ]
theorem Cw (x y:ByteArray) (w:ZT):ZQ ZN 133 #[ZZ x,ZZ y] w λe w'=>e=Z3 (Z7 Z9 (rH x y))/\w'=w:=by
 by_cases a:x=y
 . subst a;have hl:Op.bytesLess x.toList x.toList=ZU:=iQ x;have c:rH x x=0:=F4.2 rfl;rw [c];go_enter func133,ntmps133;go_wp2_with fail;refine (mi x w).mono ?_;rintro e w1 ⟨rfl,rfl⟩;go_wp2_with fail;refine (mi x w1).mono ?_;rintro e w2 ⟨rfl,rfl⟩;go_wp2;go_ret;exact ⟨rfl,rfl⟩
 . have d:¬ x.toList=y.toList:=λe=>a (toList_inj e);have f:(!x.toList==y.toList)=ZV:=(by simp [d]);obtain ⟨lt,b⟩:=nM (jt x y);have hl:Op.bytesLess x.toList y.toList=lt:=b;have c:rH x y=if lt then -1 else 1:=by
    unfold rH;rw [b];cases lt
    . cases hg:jt y x
      . exact absurd (si b hg) a
      . rfl
    . rfl
   rw [c];clear c b;go_enter func133,ntmps133;go_wp2_with fail;refine (mi x w).mono ?_;rintro e w1 ⟨rfl,rfl⟩;go_wp2_with fail;refine (mi y w1).mono ?_;rintro e w2 ⟨rfl,rfl⟩;cases lt
   . go_wp2;go_ret;exact ⟨rfl,rfl⟩
   . go_wp2;go_ret;exact ⟨rfl,rfl⟩
theorem yt (nm x:ByteArray) (sz:Int) (sv:ZS) (w:ZT):ZQ ZN 132 #[.agg #[ZZ nm,Z7 Z9 sz,sv],ZZ x] w λe w'=>e=Z3 (Z7 Z9 (rH nm x))/\bW w w':=by
 have a:bW w (w.alloc (Z4 #[ZZ nm,Z7 Z9 sz,sv] 152)):=bA w _;go_enter func132,ntmps132;go_wp2_with fail;refine (Cw nm x _).mono ?_;rintro e w1 ⟨rfl,rfl⟩;go_wp2;go_ret;exact ⟨rfl,a⟩
def mx (os:List Ob) (x:ByteArray):Bool:=match (aU os)[aI (aU os) x]? with
 | some n=>decide (n=x)
 | none=>ZU
theorem Cx {os:List Ob} (d:Up (aU os)) (x:ByteArray):mx os x=ZV↔x∈aU os:=by
 unfold mx;constructor
 . intro h;split at h
   . rename_i n c
     have:=WX h;rw [<- this];exact List.mem_of_getElem? c
   . cases h
 . intro h;obtain ⟨a,b⟩:=uj d h;rw [Uc a,b];simp
def FdR (w:ZT) (os:List Ob) (x:ByteArray) (i j:ZS) (wr:ZT):Prop:=∃ a b:Nat,a<=b/\b<=os.length/\i=Z7 Z9 a/\j=Z7 Z9 b/\(∀ k (hk:k<os.length),k<a->jt os[k].name x=ZV)/\(∀ k (hk:k<os.length),b<=k->jt os[k].name x=ZU)/\bW w wr
def OS {os:List Ob} (a:Up (aU os)) {i j:Nat} (b:i<os.length) (c:j<os.length) (h:i<j):jt os[i].name os[j].name=ZV:=by
 unfold Up at a;rw [VU] at a;have:=a i j (by rw [bh];exact b) (by rw [bh];exact c) h;unfold aU at this;rwa [UN,UN] at this
def eO.at' {os:List Ob} (h:eO K w (.slice ao n c) os) {k:Nat} (a:k<os.length):∃ b off sv,ao=ZW ⟨b,off,ZX⟩/\b<w.heap.size/\K b/\w.cell? ⟨b,off+k*3,ZX⟩=ZW (ZZ os[k].name)/\w.cell? ⟨b,off+k*3+1,ZX⟩=ZW (Z7 Z9 (os[k].size:Nat))/\w.cell? ⟨b,off+k*3+2,ZX⟩=ZW sv/\bf K w sv os[k].RK:=by
 obtain ⟨d,r,e,_,f⟩:=h;obtain ⟨b,off,g,i,j,l⟩:=f (λe=>by rw [e] at a;simp at a);simp only [Vs] at e;obtain ⟨rfl,_,_⟩:=e;obtain ⟨sv,m,o,p,q⟩:=l k a;exact ⟨b,off,sv,g,j.lt,i,m,o,p,q⟩
theorem EB {os:List Ob} (K:eO (λk=>k<w.heap.size) w v os) (kb:os.length<=10000) (R:Up (aU os)) (x:ByteArray) :
 ZQ ZN 131 #[v,ZZ x,.func (.func 132) #[] #[]] w λe w'=>e=Z3 (ZY #[Z7 Z9 (aI (aU os) x:Nat),Z1 (mx os x)])/\bW w w':=by
 obtain ⟨ao,c,rfl,k0,_⟩:=id K;obtain ⟨N,M⟩:=nM (os.length);have H:=al K R;clear K R;rw [M];go_enter func131,ntmps131;go_wp2;go_loopw [9,10] (λi j wr=>FdR w os x i j wr) (λi j _=>(intOf j).toNat-(intOf i).toNat)
 case atStart=>exact ⟨0,N,T8 _,by omega,rfl,rfl,λk _ h=>by omega,λk r h=>by omega,TW _ w⟩
 case round=>
  obtain ⟨a,b,k8,T,rfl,rfl,p,n,f⟩:=hrel;by_cases k9:a<b
  . obtain ⟨m,D⟩:∃ m:Nat,m=(a+b)/2:=⟨_,rfl⟩;have Q:((a:Int)+(b:Int))/2=(m:Int):=(by omega);have L:m<os.length:=(by omega);obtain ⟨b0,off,sv,rfl,Z,_,z,A,E,_⟩:=(H.o.1.keep (eo.RM f)).at' (k:=m) L;obtain ⟨nm,d⟩:=nM (os[m].name);obtain ⟨sz,C⟩:∃ sz:Int,((os[m].size:Nat):Int)=sz:=⟨_,rfl⟩;rw [d] at z;rw [C] at A;have k5:m<N:=(by omega);have k6:(m:Int)<(N:Int):=(by omega);have s:=a6 p n f d D;clear p n f d D C;go_wp2_with fail;refine (yt nm x sz sv wr).mono ?_;rintro e w1 ⟨rfl,u⟩;obtain ⟨I,l⟩:=nM (rH nm x);rw [l];obtain ⟨p,n,f,d,D⟩:=s.o;have g:bW w w1:=f.trans (u.mono f.size);by_cases O:I<0
    . have q:jt nm x=ZV:=F3.1 (by rw [l];exact O);have F:b9 (FdR w os x (Z7 Z9 ((m+1:Nat):Int)) (Z7 Z9 (b:Nat)) w1):=ak ⟨m+1,b,by omega,T,rfl,rfl,(λk r h=>by
       rcases XN (Y4 h) with e|J
       . subst e;rw [d];exact q
       . have:=OS H.o.2 r L J;rw [d] at this;exact jL this q),(λk r h=>n k r h),g⟩
      clear p n f d u g q l s z A E;dsimp only;have ka:m<=10000:=(by omega);have k7:a<=m:=(by omega);have X:m<b:=(by omega);clear D Q;go_wp2;refine ⟨by simpa using F.o,?_⟩;show ((b:Int)).toNat-((m:Int)+1).toNat<((b:Int)).toNat-((a:Int)).toNat;omega
    . have q:jt nm x=ZU:=by
       cases h:jt nm x
       . rfl
       . exact absurd (F3.2 h) (by rw [l];exact O)
      have F:b9 (FdR w os x (Z7 Z9 (a:Nat)) (Z7 Z9 (m:Nat)) w1):=ak ⟨a,m,by omega,by omega,rfl,rfl,(λk r h=>p k r h),(λk r h=>by
       rcases XN h with e|J
       . subst e;rw [d];exact q
       . have:=OS H.o.2 L r J;rw [d] at this;cases hx:jt os[k].name x
         . rfl
         . rw [jL this hx] at q;cases q),g⟩
      clear p n f d u g q l s z A E;dsimp only;have k7:a<=m:=(by omega);have X:m<b:=(by omega);clear D Q;go_wp2;refine ⟨F.o,?_⟩;show ((m:Int)).toNat-((a:Int)).toNat<((b:Int)).toNat-((a:Int)).toNat;omega
  . have S:a=b:=(by omega);subst S;have y:aI (aU os) x=a:=gH _ _ _ (by rw [bh];omega) (λj W h=>by
     have hz:j<os.length:=(by rwa [bh] at W);simpa [aU] using p j hz h) (λV=>by
     have hy:a<os.length:=(by rwa [bh] at V);simpa [aU] using n a hy lR)
    by_cases hr:a<N
    . have Y:a<os.length:=M.symm▸hr;obtain ⟨b0,off,sv,rfl,Z,_,z,A,E,_⟩:=(H.o.1.keep (eo.RM f)).at' (k:=a) Y;obtain ⟨nm,d⟩:=nM (os[a].name);obtain ⟨sz,C⟩:∃ sz:Int,((os[a].size:Nat):Int)=sz:=⟨_,rfl⟩;have B:mx os x=decide (rH nm x=0):=by
       unfold mx;rw [y,Uc (by rw [bh];omega)];simp only [aU,UN,d];exact decide_eq_decide.2 F4.symm
      rw [d] at z;rw [C] at A;have U:(a:Int)<(N:Int):=(by omega);have s:=ak f;have G:=al y B;clear p n f d y B C;go_wp2_with fail;refine (yt nm x sz sv wr).mono ?_;rintro e w1 ⟨rfl,u⟩;obtain ⟨I,l⟩:=nM (rH nm x);have t:=al G.o.1 (G.o.2.trans (by rw [l]));rw [l];have g:b9 (bW w w1):=ak (s.o.trans (u.mono s.o.size));clear u s G z A E l;by_cases P:I=0
      . subst P;go_wp2;go_ret2;refine ⟨?_,g.out⟩;rw [t.out.1,t.out.2];rfl
      . go_wp2;go_ret2;refine ⟨?_,g.out⟩;rw [t.out.1,t.out.2];simp [P]
    . have B:mx os x=ZU:=by
       unfold mx;rw [y,Vj (by rw [bh];omega)]
      have U:¬ (a:Int)<(N:Int):=(by omega);have g:b9 (bW w wr):=ak f;have t:=al y B;clear p n f y B;go_wp2;go_ret2;refine ⟨?_,g.out⟩;rw [t.out.1,t.out.2];rfl
theorem Lm {os:List Ob} (c:eO (λk=>k<w.heap.size) w v os) (g:os.length<=10000) (h:Up (aU os)) (x:ByteArray) :
 ZQ ZN 97 #[v,ZZ x] w λe w'=>e=Z3 (ZY #[Z7 Z9 (aI (aU os) x:Nat),Z1 (mx os x)])/\bW w w':=by
 have a:=EB c g h x;obtain ⟨n,f⟩:=nM (aI (aU os) x);obtain ⟨i,d⟩:=nM (mx os x);rw [f,d] at a ⊢;clear f d;go_enter func97,ntmps97;go_wp2_with fail;refine a.mono ?_;rintro e w1 ⟨rfl,b⟩;have H:=ak b;clear b a c;go_wp2;go_ret2;exact ⟨rfl,H.o⟩
def bY (x:ByteArray):Bool:=decide (1<=x.size/\x.size<=16)
theorem jO (x:ByteArray) (w:ZT):ZQ ZN 98 #[ZZ x] w λe w'=>e=Z3 (Z1 (bY x))/\w'=w:=by
 have g:bY x=(decide (1<=x.size)&&decide (x.size<=16)):=by unfold bY;simp
 rw [g];obtain ⟨n,f⟩:=nM (x.size);rw [f];by_cases b:1<=n
 . have a:(1:Int)<=(n:Int):=(by omega);by_cases c:n<=16
   . have d:(n:Int)<=16:=(by omega);go_enter func98,ntmps98;go_wp2;go_ret;exact ⟨by simp [b,c],rfl⟩
   . have d:¬ (n:Int)<=16:=(by omega);go_enter func98,ntmps98;go_wp2;go_ret;exact ⟨by simp,rfl⟩
 . have a:¬ (1:Int)<=(n:Int):=(by omega);go_enter func98,ntmps98;go_wp2;go_ret;exact ⟨by simp,rfl⟩
theorem uw (s:ByteArray) (w:ZT) (l:¬ s.size=0) (A:s.size<=1000000):ZQ ZN 164 #[ZZ s] w λe w'=>e=Z3 (ZZ s)/\bW w w':=by
 obtain ⟨i,d,v,a,y⟩:=Ut Tryz.R2;have m:(ZN.info? 5).map (·.size)=ZW 1:=by rw [d];simp [a]
 have r:ZN.cellsOf 5=1:=by simp [Program.cellsOf,d,a]
 obtain ⟨M,b⟩:∃ M,M=madeCells (Value.int .u8 0).cells (((s.size:Nat):Int).toNat*i.size):=⟨_,rfl⟩;have B:M.size=s.size:=by rw [b,size_madeCells,a];simp
 have D:∀ W:ZT,(Instr.makeSlice 40 (Z7 Z9 (s.size:Int)) (Z7 Z9 (s.size:Int))).run ZN W=.ok (Z5 (ZW ⟨W.heap.size,0,ZX⟩) s.size s.size) (W.alloc (Z4 M 5)):=λW=>by
  have h:=run_make (P:=ZN) W 40 5 i (Z7 .u8 0) Um d v .i64 .i64 (s.size:Int) (s.size:Int) (by omega) (by omega) (by rw [y];omega) (by omega);rw [<- b] at h;simpa using h
 clear b;have t:=Lib.run_copy_row_string (P:=ZN) (w.alloc (Z4 M 5)) 40 9 3 5 w.heap.size 0 s.size s.size s M 5 Um m (aaH w _) lR (by omega);obtain ⟨Y,c⟩:∃ Y,Y=(M.toList.take 0++Lib.byteCells s.data.toList++M.toList.drop (0+s.size)).toArray:=⟨_,rfl⟩;rw [<- c] at t;have f:Y.toList=Lib.byteCells s.data.toList:=by
  rw [c,List.toList_toArray,WG,Uq,WQ (by rw [WN];omega),Wm]
 have C:Y.size=s.size:=by rw [<- WN,f,Lib.byteCells_length,<- Yl]
 have g:((w.alloc (Z4 M 5)).setRow w.heap.size Y).heap[w.heap.size]?=ZW (Z4 Y 5 (0,0)):=Vp _ _ M _ 5 (0,0) (aaH w _);have u:s.data.toList≠[]:=λe=>l (by rw [Yl,e];rfl);have n:=Lib.run_unsafeString_row (P:=ZN) ((w.alloc (Z4 M 5)).setRow w.heap.size Y) 310 3 9 5 underlying310 r w.heap.size Y.size (by unfold World.shape?;rw [g]) s.data.toList u (by rw [<- Yl];omega) (by rw [<- Yl];omega)
  (λj x z=>Lib.cells_of_row g Y.size j _ (by rw [UI (by rw [WN];exact TU _),f];simp [Lib.byteCells,z]))
 rw [<- Yl] at n;clear c;go_enter func164,ntmps164;go_wp2;go_ret;have o:bW w (w.alloc (Z4 M 5)):=bA w _;have q:ZR w.heap.size (w.alloc (Z4 M 5)) ((w.alloc (Z4 M 5)).setRow w.heap.size Y):=⟨rfl,rfl,rfl,by simp,λk E=>setRow_other _ _ _ _ (by omega)⟩;exact ⟨rfl,Lib.below_freeze (o.trans q) (p:=⟨w.heap.size,0,ZX⟩) lR _⟩
theorem ux (s:ByteArray) (w:ZT) (c:¬ s.size=0) (d:s.size<=1000000):ZQ ZN 128 #[ZZ s] w λe w'=>e=Z3 (ZZ s)/\bW w w':=by
 have b:=uw s w c d;go_enter func128,ntmps128;go_wp2_with fail;refine b.mono ?_;rintro e w1 ⟨rfl,a⟩;have H:=ak a;clear a b;go_wp2;go_ret;exact ⟨rfl,H.o⟩
theorem oF {os:List Ob} (a:eO K w v os) (hr:os.length<=10000) :
 ZQ ZN 138 #[v] w λe w'=>∃ u L,e=Z3 u/\L.map (·.1)=os/\NP K w L/\w'.ownsRow w.heap.size 152 3 u L.length (bQ L)/\bW w w':=by
 obtain ⟨L,hL,j,f⟩:=NQ a;obtain ⟨ao,c,rfl,O,d⟩:=id a;have E:L.length=os.length:=by rw [<- hL,Ue]
 obtain ⟨J,G,A,B,C⟩:=Ut Tryz.RU;cases ao with
 | none=>
  have s:os=[]:=Classical.byContradiction λh=>by obtain ⟨b,off,e,_⟩:=d h;cases e
  subst s;have D:L=[]:=UU E;subst D;have F:=λwx=>XF (P:=ZN) wx 144 152 ZX 0 c 0 0 Vo;simp only [UT];clear d a f j;go_enter func138,ntmps138;go_wp2;go_ret;exact ⟨_,[],rfl,rfl,λx I=>by simp at I,UK _ _ _ _,TW _ _⟩
 | some r=>
  have F:=λwx=>XF (P:=ZN) wx 144 152 (ZW r) os.length c 0 0 Vo;have g:bW w (w.alloc (Z4 #[] 152)):=bA _ _;have n:=f _ (eo.RM g);have q:(w.alloc (Z4 #[] 152)).ownsRow w.heap.size 152 3 (Z5 (ZW ⟨w.heap.size,0,ZX⟩) 0 0) 0 []:=⟨rfl,.inr ⟨w.heap.size,0,#[],rfl,TU _,UC w _,TU _,by unfold maxLen;omega,rfl,rfl⟩⟩;have H:=a6 hL j g n q;clear d a f j g n q hL;go_enter func138,ntmps138;go_wp2_with (at_builtin;refine ae _ rfl (Z0 5) (Z0 6) 144 144 rfl w.heap.size 152 J _ 3 48 Vo G A B C rfl _ 0 [] (by rfl) (by exact H.o.2.2.2.2) _ (by rfl) L.length (bQ L) (by exact H.o.2.2.2.1) (by unfold maxLen;omega) (by omega) (by exact H.o.2.2.1.size) ?_;intro Q w3 i p z;rw [Uj,Uq] at i;have l:=al i p;clear i p z);go_ret;obtain ⟨t,y,m,M,N⟩:=H.o;exact ⟨_,L,rfl,t,y,l.o.1,m.grown l.o.2 m.size (λk e=>by cases e;exact TU _)⟩
def oG {a:Act} {K:Act->ZT->Prop} {E:Prop} (f:o.guard=ZX) (d x:Operand) (b c:ZO) (e:o.op=Op.call { callee:=Callee.builtin Builtin.copy,args:=#[d,x],argTypes:=#[b,c] })
 (v u:ZS) (hd:a.eval d=v) (hx:a.eval x=u) {v':ZS} {w':ZT} (hr:(Builtin.copy_ #[b,c] o.type #[v,u]).run ZN w=.ok v' w') (hK:K (a.put o.dst v') w'):if Region.wanted o (yielded ops a.tmps)=ZV then Oper.wp ZN o a w K Q else E:=by
 rw [TT (by simp [Region.wanted,f])];unfold Oper.wp;simp [execOp,e,resolve,invoke,builtin,hd,hx,hr,Result.andThen];exact hK
theorem Ln (cur c v:List α) (a m k:Nat) (g:cur.take k=c) (l:c.length=k) (h:v.length=m) (f:a<=k) (n:k+m<=cur.length) :
 ((cur.take (a+m)++c.drop a++cur.drop (a+m+(c.drop a).length)).take a++v++(cur.take (a+m)++c.drop a++cur.drop (a+m+(c.drop a).length)).drop (a+v.length)).take (k+m)=c.take a++(v++c.drop a) /\
 ((cur.take (a+m)++c.drop a++cur.drop (a+m+(c.drop a).length)).take a++v++(cur.take (a+m)++c.drop a++cur.drop (a+m+(c.drop a).length)).drop (a+v.length)).length=cur.length:=by
 have b:(cur.take (a+m)).length=a+m:=by rw [Uo];omega
 have d:(cur.take (a+m)++c.drop a++cur.drop (a+m+(c.drop a).length)).take a=c.take a:=by
  rw [Uz,VQ (by omega),YL,Wj (by omega),<- g,YL,Wj f]
 have e:(cur.take (a+m)++c.drop a++cur.drop (a+m+(c.drop a).length)).drop (a+v.length)=c.drop a++cur.drop (a+m+(c.drop a).length):=by
  rw [h,Uz];exact List.drop_left' b
 have i:(c.take a).length=a:=by rw [Uo];omega
 have j:(c.drop a).length=k-a:=by rw [Un];omega
 rw [d,e];constructor
 . rw [Uz,<- Uz v,<- Uz (c.take a)];have:(c.take a++(v++c.drop a)).length=k+m:=by rw [Ua,Ua];omega
   rw [<- this,Ye]
 . simp only [Ua,Un,Uo];omega
def kM (b:Nat):∀ (a:List ZS) (o:Nat) (w:ZT),(w.drew.setCells b o a).heap=(w.setCells b o a).heap
 | [],_,_=>rfl
 | v::r,o,w=>kM b r (o+1) (w.setCell ⟨b,o,ZX⟩ v)
theorem F6 (L:List (Ob×ZS)) (x:Ob×ZS) (i:Nat):(bQ L).take (i*3)++(js x++(bQ L).drop (i*3))=bQ (L.take i++x::L.drop i):=by
 rw [Cq,uh,iP];congr 1
def F7:(ZN.info? 152).map (·.size)=ZW 3:=by kernel_rfl
theorem Cy {vb:Nat} {cur:Array ZS} {L:List (Ob×ZS)} {x:Ob×ZS} (A:w.heap[g]?=ZW (Z4 cur 152 (0,0))) (Q:base<=g) (C:cur.size=cap*3) (z:cur.toList.take (L.length*3)=bQ L) (N:∀ u∈bQ L,u.oneCell'=ZV) (T:∀ u∈js x,u.oneCell'=ZV)
 (X:i<L.length) (V:L.length+1<=cap) (hl:L.length<=10000) (D:w.heap[vb]?=ZW (Z4 (js x).toArray 152 (0,0))) (R:vb≠g) :
 ZQ ZN 166 #[Z5 (ZW ⟨g,0,ZX⟩) L.length cap,Z7 Z9 i,Z5 (ZW ⟨vb,0,ZX⟩) 1 1] w λe w'=>e=Z3 (Z5 (ZW ⟨g,0,ZX⟩) (L.length+1) cap)/\ZR base w w'/\∃ a,ai w' g 152 a/\a.length=cap*3/\a.take ((L.length+1)*3)=bQ (L.take i++x::L.drop i):=by
 obtain ⟨n,O⟩:=nM (L.length);have m:ai w g 152 cur.toList:=by unfold ai;exact A
 have r:ai w vb 152 (js x):=D;have h:cur.toList.length=cap*3:=by simpa using C
 have s:((bQ L).drop (i*3)).length=(n-i)*3:=by rw [Un,bT,O];omega
 have kf:(js x).length=3:=rfl;have S:∀ lb cb ob,(callFunc 191 #[Z5 (ZW ⟨vb,0,ZX⟩) 1 1,Z5 (ZW ⟨g,ob,ZX⟩) lb cb]).run ZN w=.ok (.value (Z1 ZU)) w:=λlb cb ob=>by
  rw [run_callFunc_extern func191 (by kernel_rfl) (by kernel_rfl) (by kernel_rfl) (e:=Extern.SlicesOverlaps.overlaps #[143,143] #[4]) (by kernel_rfl),
   Lib.run_overlaps_apart w 143 4 152 underlying143 3 (λw=>by obtain ⟨io,ka,kb,Z,kc⟩:=Ut Tryz.RU;simp [sizeOf,typeInfo,ka,Z]) ⟨vb,0,ZX⟩ ⟨g,ob,ZX⟩ 1 1 lb cb R 152 152 3 (cap*3) (by simp [World.shape?,D];rfl) (by simp [World.shape?,A,C]) (by omega) (r.R3 _) (r.R3 _)]
  rfl
 have I:∀ c d l1 b E y sc,d=i*3+3->l1=n-i->E=i*3->y=n+1-i->(Builtin.copy_ #[144,144] c #[Z5 (ZW ⟨g,d,ZX⟩) l1 b,Z5 (ZW ⟨g,E,ZX⟩) y sc]).run ZN w.drew=.ok (goInt (YI y l1)) (w.drew.setCells g (i*3+3) ((bQ L).drop (i*3))):=by
  rintro c d l1 b E y sc rfl rfl rfl rfl;refine ea w.drew _ _ c 152 3 g (i*3+3) _ b g (i*3) _ sc 152 cur.toList _ Vo F7 (by rw [s];show _=min _ _*3;rw [Nat.min_eq_right (by omega)]) (λj u l=>?_) m (by rw [s,h];omega) (λu hu=>N u (UZ hu));refine m.cell ?_;rw [Wi] at l;have ke:i*3+j<L.length*3:=by obtain ⟨q,_⟩:=U9.1 l;rwa [bT] at q
  rw [<- z,VF ke] at l;exact l
 have f:=m.set (i*3+3) ((bQ L).drop (i*3)) (by rw [s,h];omega);have G:ai (w.setCells g (i*3+3) ((bQ L).drop (i*3))) vb 152 (js x):=r.keep (aR g _ _ _ _ R);obtain ⟨c1,B⟩:=nM (cur.toList.take (i*3+3)++(bQ L).drop (i*3)++cur.toList.drop (i*3+3+((bQ L).drop (i*3)).length));have K:=Ln cur.toList (bQ L) (js x) (i*3) 3 (L.length*3) z (bT L) rfl (by omega) (by rw [h];omega);rw [B] at f K;obtain ⟨t,v⟩:=K;have p:c1.length=cap*3:=by
  rw [<- B];simp only [Ua,Un,Uo,bT,h];omega
 have J:∀ (W:ZT),W.heap=(w.setCells g (i*3+3) ((bQ L).drop (i*3))).heap->∀ c d l1 b,d=i*3->l1=n+1-i->(Builtin.copy_ #[144,143] c #[Z5 (ZW ⟨g,d,ZX⟩) l1 b,Z5 (ZW ⟨vb,0,ZX⟩) 1 1]).run ZN W=.ok (goInt (YI 1 l1)) (W.setCells g (i*3) (js x)):=by
  rintro W M c d l1 b rfl rfl;have k6:ai W g 152 c1:=by unfold ai;rw [M];exact f
  have Y:ai W vb 152 (js x):=by unfold ai;rw [M];exact G
  refine ea W _ _ c 152 3 g (i*3) _ b vb 0 1 1 152 c1 _ Vo F7 (by show _=min _ _*3;rw [Wj (by omega)];rfl) (λj u l=>?_) k6 (by rw [p,kf];omega) T;rw [Uj];exact Y.cell l
 have H:=aE f t v;have k9:=ak m.lt;have p:=ak p;have hr:=ak h;have F:=al I J;have U:=ak S;rw [O] at X V hl ⊢;have kp:IntKind.i64.wrap ((i:Int)+1)=(i:Int)+1:=by rw [Ux];omega
 have kr:¬ (cap:Int)<(n:Int)+1:=by omega
 have km:i<=n:=by omega
 have kh:¬ (cap=i+1):=by omega
 have kj:¬ (cap=i):=by omega
 have ko:((i:Int)+1).toNat=i+1:=by omega
 have kg:(0:Int)<=(i:Int)+1:=by omega
 have ki:(i:Int)<=(n:Int)+1:=by omega
 clear m r s S I J f G B t v h C z N T D A;go_enter func166,ntmps166;go_wp2_with (simp only [U.o]);go_region_law (refine oG rfl _ _ 144 144 rfl _ _ (by simp [Act.eval,Act.put]) (by simp [Act.eval,Act.put]) (F.o.1 _ ((i+1)*3) (n-i) (cap-(i+1)) (i*3) (n+1-i) (cap-i) (by omega) (by omega) (by omega) (by omega)) ?_)
 have k8:∀ c b,(Builtin.copy_ #[144,143] c #[Z5 (ZW ⟨g,i*3,ZX⟩) (n+1-i) b,Z5 (ZW ⟨vb,0,ZX⟩) 1 1]).run ZN (w.drew.setCells g (i*3+3) ((bQ L).drop (i*3)))=.ok (goInt (YI 1 (n+1-i))) ((w.drew.setCells g (i*3+3) ((bQ L).drop (i*3))).setCells g (i*3) (js x)):=λc b=>F.o.2 _ (kM _ _ _ _) c (i*3) (n+1-i) b rfl rfl;go_wp2;go_ret;obtain ⟨f,t,v⟩:=H.o;have k7:ai (w.drew.setCells g (i*3+3) ((bQ L).drop (i*3))) g 152 c1:=by unfold ai;rw [kM];exact f
 have kk:g<w.heap.size:=k9.out;have P:ZR base w (w.drew.setCells g (i*3+3) ((bQ L).drop (i*3))):=(TW base w).drew.grown (cC _ _ _ _) (by show base<=w.heap.size;omega) (λk e=>by cases e;exact Q);refine ⟨rfl,P.grown (cC _ _ _ _) (TV (by omega) P.size) (λk e=>by cases e;exact Q),_,k7.set (i*3) (js x) (by have h1:c1.length=cap*3:=p.out;have h2:(js x).length=3:=rfl;omega),?_,?_⟩
 . rw [v];exact hr.out
 . rw [show (n+1)*3=L.length*3+3 by omega,t,F6]
theorem Cz {vb:Nat} {cur:Array ZS} {L:List (Ob×ZS)} {x:Ob×ZS} (Z:w.heap[g]?=ZW (Z4 cur 152 (0,0))) (ko:base<=w.heap.size) (kp:cur.size=cap*3) (Q:cur.toList.take (L.length*3)=bQ L) (hs:∀ u∈bQ L,u.oneCell'=ZV) (kh:∀ u∈js x,u.oneCell'=ZV)
 (hi:i<L.length) (kx:L.length<=cap) (hv:cap<L.length+1) (hl:L.length<=10000) (hx:w.heap[vb]?=ZW (Z4 (js x).toArray 152 (0,0))) :
 ZQ ZN 166 #[Z5 (ZW ⟨g,0,ZX⟩) L.length cap,Z7 Z9 i,Z5 (ZW ⟨vb,0,ZX⟩) 1 1] w λe w'=>∃ c,e=Z3 (Z5 (ZW ⟨w.heap.size,0,ZX⟩) (L.length+1) c)/\ZR base w w'/\L.length+1<=c/\c<=9223372036854775807/\∃ d,ai w' w.heap.size 152 d/\d.length=c*3/\d.take ((L.length+1)*3)=bQ (L.take i++x::L.drop i):=by
 obtain ⟨io,kf,hq,hr,S⟩:=Ut Tryz.RU;obtain ⟨n,J⟩:=nM (L.length);have y:ai w g 152 cur.toList:=by unfold ai;exact Z
 have T:ai w vb 152 (js x):=hx;have A:((bQ L).drop (i*3)).length=(n-i)*3:=by rw [Un,bT,J];omega
 have r:((bQ L).take (i*3)).length=i*3:=by rw [Uo,bT,J];omega
 have B:(js x).length=3:=rfl;have X:∀ j u,(bQ L)[j]?=ZW u->w.cell? ⟨g,j,ZX⟩=ZW u:=λj u b=>by
  refine y.cell ?_;have V:j<L.length*3:=by obtain ⟨q,_⟩:=U9.1 b;rwa [bT] at q
  rw [<- Q,VF V] at b;exact b
 have hold:(Builtin.firstCells io.size i (Z5 (ZW ⟨g,0,ZX⟩) i cap)).run ZN w.drew=.ok ((bQ L).take (i*3)).toArray w.drew:=by
  rw [hr];exact run_firstCells_some w.drew 3 i ⟨g,0,ZX⟩ i cap _ r (λj u b=>by
   rw [Vl,Uj];rw [Yz] at b;split at b
   . exact X j u b
   . cases b)
 have ke:i+(n+1-i)=n+1:=by omega
 have kg:(n:Int)+1-(i:Int)=((n+1-i:Nat):Int):=by omega
 have s:=λh=>Lib.run_append_grow_zeros w 144 3 h 152 io _ .i64 .i64 Vo WM kf hq (ZW ⟨g,0,ZX⟩) i cap _ hold (n+1-i) (by omega) (by omega) (by omega) (by omega) (by rw [S];omega) (by rw [S,ke];exact aaE (by omega) (by omega));rw [ke] at s;obtain ⟨C,I⟩:=nM (grownCap w (n+1) cap 152);have kk:n+1<=C:=by rw [<- I];exact aaF w _ _ _
 have km:C<=9223372036854775807:=by
  have:=aaG w (n+1) cap 152 (by unfold maxLen;omega);rw [I] at this;unfold maxLen at this;omega
 rw [I] at s;obtain ⟨a,E⟩:∃ a:Array ZS,((bQ L).take (i*3)).toArray++Builtin.zeroCells (Value.agg #[ZZ YH,Z7 Z9 0,Z5 ZX 0 0]).cells (n+1-i)++Builtin.zeroCells (Value.agg #[ZZ YH,Z7 Z9 0,Z5 ZX 0 0]).cells (C-(n+1))=a:=⟨_,rfl⟩;rw [E] at s;have kj:(Value.agg #[ZZ YH,Z7 Z9 0,Z5 ZX 0 0]).cells.size=3:=by rfl
 have K:a.toList.length=C*3:=by
  rw [<- E];simp only [WN,Array.size_append,size_zeroCells,UH,kj,r];omega
 have kb:a.toList.take (i*3)=(bQ L).take (i*3):=by
  rw [<- E,Y5,Y5,Uz,VQ (by simp [r])];rw [UI (by simp [r])]
 obtain ⟨l,N⟩:=nM (w.drew.alloc (Z4 a 152));rw [N] at s;have U:ai l w.heap.size 152 a.toList:=by rw [<- N];exact aaH w.drew _
 have t:bW w l:=by rw [<- N];exact (TW _ w).drew.alloc lR _
 have ki:ai l vb 152 (js x):=T.keep (t.block _ T.lt);have kc:ai l g 152 cur.toList:=y.keep (t.block _ y.lt);have v:∀ h p,(Builtin.copy_ #[144,143] h #[Z5 (ZW ⟨w.heap.size,i*3,ZX⟩) (n+1-i) p,Z5 (ZW ⟨vb,0,ZX⟩) 1 1]).run ZN l=.ok (goInt (YI 1 (n+1-i))) (l.setCells w.heap.size (i*3) (js x)):=λh p=>by
  refine ea l _ _ h 152 3 w.heap.size (i*3) _ p vb 0 1 1 152 a.toList _ Vo F7 (by show _=min _ _*3;rw [Wj (by omega)];rfl) (λj u b=>?_) U (by rw [K,B];omega) kh;rw [Uj];exact ki.cell b
 have z:=U.set (i*3) (js x) (by rw [K,B];omega);obtain ⟨f,O⟩:=nM (l.setCells w.heap.size (i*3) (js x));have kv:g<w.heap.size:=y.lt;have hp:ai f g 152 cur.toList:=by rw [<- O];exact kc.keep (aR _ _ _ _ _ (by omega))
 have R:bW w f:=by rw [<- O];exact t.grown (cC _ _ _ _) t.size (λk e=>by cases e;exact TU _)
 rw [O] at v z;obtain ⟨m,P⟩:=nM (a.toList.take (i*3)++js x++a.toList.drop (i*3+(js x).length));have G:m.length=C*3:=by rw [<- P];simp only [Ua,Un,Uo,K,B];omega
 have Y:m.take (i*3+3)=(bQ L).take (i*3)++js x:=by
  rw [<- P,kb];have:((bQ L).take (i*3)++js x).length=i*3+3:=by rw [Ua,r,B]
  rw [<- this,Ye]
 rw [P] at z;have hh:∀ h p sc,(Builtin.copy_ #[144,144] h #[Z5 (ZW ⟨w.heap.size,(i+1)*3,ZX⟩) (n-i) p,Z5 (ZW ⟨g,i*3,ZX⟩) (n-i) sc]).run ZN f.drew=.ok (goInt (YI (n-i) (n-i))) (f.drew.setCells w.heap.size ((i+1)*3) ((bQ L).drop (i*3))):=λh p sc=>by
  refine ea f.drew _ _ h 152 3 w.heap.size ((i+1)*3) _ p g (i*3) _ sc 152 m _ Vo F7 (by rw [A];show _=min _ _*3;rw [YR]) (λj u b=>?_) z (by rw [A,G];omega) (λu hu=>hs u (UZ hu));have h2:f.cell? ⟨g,i*3+j,ZX⟩=ZW u:=by
   refine hp.cell ?_;rw [Wi] at b;have V:i*3+j<L.length*3:=(by obtain ⟨q,_⟩:=U9.1 b;rwa [bT] at q);rw [<- Q,VF V] at b;exact b
  exact h2
 have M:ai (f.drew.setCells w.heap.size ((i+1)*3) ((bQ L).drop (i*3))) w.heap.size 152 _:=ai.set (w:=f.drew) z ((i+1)*3) ((bQ L).drop (i*3)) (by rw [A,G];omega);have F:bW w (f.drew.setCells w.heap.size ((i+1)*3) ((bQ L).drop (i*3))):=R.drew.grown (cC _ _ _ _) R.size (λk e=>by cases e;exact TU _);have hm:(m.take ((i+1)*3)++(bQ L).drop (i*3)++m.drop ((i+1)*3+((bQ L).drop (i*3)).length)).length=C*3/\(m.take ((i+1)*3)++(bQ L).drop (i*3)++m.drop ((i+1)*3+((bQ L).drop (i*3)).length)).take ((n+1)*3)=bQ (L.take i++x::L.drop i):=by
  constructor
  . simp only [Ua,Un,Uo,bT,G,J];omega
  . rw [show (i+1)*3=i*3+3 by omega,Y];have:((bQ L).take (i*3)++js x++(bQ L).drop (i*3)).length=(n+1)*3:=by rw [Ua,Ua,r,B,A];omega
    rw [<- this,Ye,Uz,F6]
 have H:=aE M F hm;have D:=aE s v hh;have W:=al kk km;rw [J] at hi hv hl kx ⊢;have q5:IntKind.i64.wrap ((i:Int)+1)=(i:Int)+1:=by rw [Ux];omega
 have q6:(cap:Int)<(n:Int)+1:=by omega
 have q3:i<=n:=by omega
 have kz:¬ (C=i+1):=by omega
 have q1:¬ (cap=i):=by omega
 have q2:¬ (C=i):=by omega
 have q4:((i:Int)+1).toNat=i+1:=by omega
 have ky:(0:Int)<=(i:Int)+1:=by omega
 have q0:(i:Int)<=(n:Int)+1:=by omega
 clear y T A r X hold s E K kb N U t ki kc v z O hp R P G Y hh M F hm I kj kp Q hs kh hx Z kv kf hq hr S;rw [<- kg] at D;go_enter func166,ntmps166;clear kg;have v:=D.o.2.1;go_wp2_with (at_builtin;refine Lib.wpList_append_run _ rfl _ _ _ _ rfl _ _ rfl rfl _ _ (D.o.1 _) ?_);clear v;go_region_law (refine oG rfl _ _ 144 144 rfl _ _ (by simp [Act.eval,Act.put]) (by simp [Act.eval,Act.put]) (D.o.2.2 _ (C-(i+1)) (cap-i)) ?_)
 go_wp2;go_ret;obtain ⟨M,F,kr,ks⟩:=H.o;exact ⟨C,rfl,F.mono ko,W.o.1,W.o.2,_,M,kr,ks⟩
def NT {vb:Nat} {x:Ob×ZS} (d:w.heap[vb]?=ZW (Z4 (js x).toArray 152 (0,0))) (b:∀ u∈js x,u.oneCell'=ZV):Src ZN 3 143 (Z5 (ZW ⟨vb,0,ZX⟩) 1 1) 1 (js x) w:=by
 have a:ai w vb 152 (js x):=d;exact Vi w underlying143 ⟨vb,0,ZX⟩ 1 1 (js x) rfl (λj u c=>by rw [Vl,Uj];exact a.cell c) b
theorem EC {vb:Nat} {L:List (Ob×ZS)} {x:Ob×ZS} (ho:w.ownsRow base 152 3 u L.length (bQ L)) (d:base<=w.heap.size) (l:∀ u∈js x,u.oneCell'=ZV) (hl:L.length<=10000) (m:w.heap[vb]?=ZW (Z4 (js x).toArray 152 (0,0))) :
 ZQ ZN 166 #[u,Z7 Z9 (L.length:Nat),Z5 (ZW ⟨vb,0,ZX⟩) 1 1] w λe w'=>∃ u',e=Z3 u'/\w'.ownsRow base 152 3 u' (L.length+1) (bQ (L++[x]))/\ZR base w w':=by
 obtain ⟨z,v,q,r,s⟩:=Ut Tryz.RU;have i:=NT m l;have h:∀ k,u.ownBlock=ZW k->base<=k:=λk e=>by
  rcases ho.2 with ⟨rfl,_⟩|⟨g,cap,cur,rfl,t,_⟩
  . cases e
  . cases e;exact t
 have H:=aE ho i h;obtain ⟨n,y⟩:=nM (L.length);have j:bQ (L++[x])=bQ L++js x:=by rw [iP];congr 1
 rw [j];rcases ho.2 with ⟨rfl,p⟩|⟨g,cap,cur,rfl,t,B,C,E,F,A⟩
 . rw [y] at p hl H ⊢;subst p;clear ho i h m l j;go_enter func166,ntmps166;go_wp2_with (at_builtin;refine ae _ rfl (Z0 23) (Z0 24) 144 143 rfl base 152 z _ 3 48 Vo v q r s rfl _ 0 (bQ L) (by rfl) (by exact H.o.1) _ (by rfl) 1 (js x) (by exact H.o.2.1) (by unfold maxLen;omega) (by omega) d ?_;intro D w3 c b f;have a:=al c b;clear c b f);go_ret;exact ⟨_,rfl,a.o.1,(TW base w).grown a.o.2 d H.o.2.2⟩
 . rw [y] at hl H C ⊢;clear ho i h m l j A B;go_enter func166,ntmps166;go_wp2_with (at_builtin;refine ae _ rfl (Z0 23) (Z0 24) 144 143 rfl base 152 z _ 3 48 Vo v q r s rfl _ n (bQ L) (by rfl) (by exact H.o.1) _ (by rfl) 1 (js x) (by exact H.o.2.1) (by unfold maxLen;omega) (by omega) d ?_;intro D w3 c b f;have a:=al c b;clear c b f);all_goals (go_ret;exact ⟨_,rfl,a.o.1,(TW base w).grown a.o.2 d H.o.2.2⟩)
def Ab {L:List (Ob×ZS)} (h:ai w g 152 cur) (a:base<=g) (c:n=L.length) (b:n<=cap) (e:cap<=9223372036854775807) (hl:cur.length=cap*3) (d:cur.take (n*3)=bQ L):w.ownsRow base 152 3 (Z5 (ZW ⟨g,0,ZX⟩) n cap) n (bQ L):=
 ⟨by rw [bT,c],.inr ⟨g,cap,cur.toArray,rfl,a,h,b,by unfold maxLen;omega,by simpa using hl,by simpa using d⟩⟩
def ED {vb:Nat} {L:List (Ob×ZS)} {x:Ob×ZS} (ho:w.ownsRow base 152 3 u L.length (bQ L)) (f:base<=w.heap.size) (p:∀ u∈bQ L,u.oneCell'=ZV) (j:∀ u∈js x,u.oneCell'=ZV) (hl:L.length<=10000) (k:w.heap[vb]?=ZW (Z4 (js x).toArray 152 (0,0))) (D:u.ownBlock≠ZW vb) (A:i<=L.length) :
 ZQ ZN 166 #[u,Z7 Z9 (i:Nat),Z5 (ZW ⟨vb,0,ZX⟩) 1 1] w λe w'=>∃ u',e=Z3 u'/\w'.ownsRow base 152 3 u' (L.length+1) (bQ (L.take i++x::L.drop i))/\ZR base w w':=by
 rcases XN A with e|t
 . subst e;rw [Vu,List.drop_length];exact EC ho f j hl k
 . have o:L.length+1=(L.take i++x::L.drop i).length:=(by simp;omega);rcases ho.2 with ⟨rfl,E⟩|⟨g,cap,cur,rfl,q,r,C,B,s,n⟩
   . omega
   . have z:cap<=9223372036854775807:=(by unfold maxLen at B;omega);by_cases m:L.length+1<=cap
     . refine (Cy r q s n p j t m hl k (λe=>D (by rw [e];rfl))).mono ?_;rintro e w' ⟨rfl,h,a,b,c,d⟩;exact ⟨_,rfl,Ab b q o m z c d,h⟩
     . refine (Cz r f s n p j t C (by omega) hl k).mono ?_;rintro e w' ⟨l,rfl,h,v,y,a,b,c,d⟩;exact ⟨_,rfl,Ab b f o v y c d,h⟩
def Ac {xs:List ZS} (ho:w.ownsRow base 152 3 u n xs) (d:g<base):u.ownBlock≠ZW g:=λe=>by
 rcases ho.2 with ⟨rfl,_⟩|⟨a,cap,cur,rfl,c,_⟩
 . cases e
 . have:a=g:=(by simpa [Value.ownBlock] using e);omega
def Ad {xs:List ZS} (ho:w.ownsRow base 152 3 u n xs) (d:w.heap.size<=g):u.ownBlock≠ZW g:=λe=>by
 rcases ho.2 with ⟨rfl,_⟩|⟨a,cap,cur,rfl,c,h,_⟩
 . cases e
 . have:a=g:=(by simpa [Value.ownBlock] using e);have:=(T5.1 h).1;omega
def Ir {xs:List ZS} (ho:w.ownsRow base 152 3 u n xs) (o:Obj):(w.alloc o).ownsRow base 152 3 u n xs:=by
 refine ⟨ho.1,?_⟩;rcases ho.2 with h|⟨g,cap,cur,rfl,a,h,hr⟩
 . exact .inl h
 . exact .inr ⟨g,cap,cur,rfl,a,(V8 w o g (T5.1 h).1).trans h,hr⟩
def uy (K:Nat->Prop) (w:ZT) (os:List Ob) (e:ZP) (w':ZT):Prop:=∃ u,e=Z3 u/\eO K w' u os/\bW w w'
theorem CA {os:List Ob} (M:eO K w v os) (k8:os.length<=9999) (hK:∀ k,w.heap.size<=k->K k) {i:Nat} (hi:i<=os.length) (o:Ob) (sv:ZS) (z:bf K w sv o.RK) :
 ZQ ZN 130 #[v,Z7 Z9 (i:Nat),.agg #[ZZ o.name,Z7 Z9 (o.size:Nat),sv]] w (uy K w (os.take i++o::os.drop i)):=by
 obtain ⟨nm,Q⟩:=nM (o.name);obtain ⟨sz,S⟩:∃ sz:Int,((o.size:Nat):Int)=sz:=⟨_,rfl⟩;have T:∀ u∈js (o,sv),u.oneCell'=ZV:=by
  obtain ⟨ao,c,e,_⟩:=z;exact FX ⟨ao,_,c,e⟩
 have U:(js (o,sv)).toArray=#[ZZ nm,Z7 Z9 sz,sv]:=by rw [<- Q,<- S];rfl
 have O:∀ W,bW w W->ZQ ZN 138 #[v] W λe w'=>∃ u L,e=Z3 u/\L.map (·.1)=os/\NP K W L/\w'.ownsRow W.heap.size 152 3 u L.length (bQ L)/\bW W w':=λW r=>oF (M.keep (eo.RM r)) (by omega);have P:∀ (W g:ZT) (u:ZS) (L:List (Ob×ZS)) (base vb:Nat),bW w W->bW W g->L.map (·.1)=os->NP K W L->g.ownsRow base 152 3 u L.length (bQ L)->w.heap.size<=base->W.heap.size<=base->base<=g.heap.size->g.heap[vb]?=ZW (Z4 #[ZZ nm,Z7 Z9 sz,sv] 152 (0,0))->u.ownBlock≠ZW vb ->
  ZQ ZN 166 #[u,Z7 Z9 (i:Nat),Z5 (ZW ⟨vb,0,ZX⟩) 1 1] g (uy K w (os.take i++o::os.drop i)):=λW g u L base vb r k0 hL b ho k9 X k5 Y k6=>by
  have k7:L.length=os.length:=by rw [<- hL,Ue]
  refine (ED ho k5 b.one T (by omega) (by rw [U];exact Y) k6 (by omega)).mono ?_;rintro e w' ⟨u',rfl,R,Z⟩;have s:bW W w':=k0.trans (Z.mono X);have H:bW w w':=r.trans (s.mono r.size);have I:L.length+1=(L.take i++(o,sv)::L.drop i).length:=by simp;omega
  rw [I] at R;refine ⟨u',rfl,?_,H⟩;have d:=ui (K:=K) (L:=L.take i++(o,sv)::L.drop i) R (by rw [<- I];omega) (λk hk=>hK k (by omega)) (λy V=>by
   rw [Ui,Uw] at V;rcases V with h|h|h
   . exact (b y (UV h)).keep (eo.RM s)
   . subst h;exact z.keep (eo.RM H)
   . exact (b y (UZ h)).keep (eo.RM s))
  have e:(L.take i++(o,sv)::L.drop i).map (·.1)=os.take i++o::os.drop i:=by rw [Uv,U0,WD,WE,hL]
  rwa [e] at d
 rw [Q,S];have A:=ak O;have B:=ak P;clear O P M z T U hK;go_enter func130,ntmps130;have q:bW w (w.alloc (Z4 #[ZZ nm,Z7 Z9 sz,sv] 152)).drew:=(bA w _).drew;have N:bW w ((w.alloc (Z4 #[ZZ nm,Z7 Z9 sz,sv] 152)).drew.alloc (Z4 #[ZZ nm,Z7 Z9 sz,sv] 152)):=q.alloc q.size _;have f:=al q N;have G:=UC w (Z4 #[ZZ nm,Z7 Z9 sz,sv] 152);have hr:ai (w.alloc (Z4 #[ZZ nm,Z7 Z9 sz,sv] 152)).drew w.heap.size 152 [ZZ nm,Z7 Z9 sz,sv]:=G;have C:=hr.cell (j:=0) (u:=ZZ nm) rfl;have D:=hr.cell (j:=1) (u:=Z7 Z9 sz) rfl;have E:=hr.cell (j:=2) (u:=sv) rfl;have F:=hr.lt;have J:(w.alloc (Z4 #[ZZ nm,Z7 Z9 sz,sv] 152)).drew.heap.size=w.heap.size+1:=by show (w.alloc _).heap.size=_;exact Uh _ _
 have x:((w.alloc (Z4 #[ZZ nm,Z7 Z9 sz,sv] 152)).drew.alloc (Z4 #[ZZ nm,Z7 Z9 sz,sv] 152)).heap[w.heap.size+1]?=ZW (Z4 #[ZZ nm,Z7 Z9 sz,sv] 152):=by rw [<- J];exact UC _ _
 have t:=al x (show w.heap.size+1<((w.alloc (Z4 #[ZZ nm,Z7 Z9 sz,sv] 152)).drew.alloc (Z4 #[ZZ nm,Z7 Z9 sz,sv] 152)).heap.size from (T5.1 x).1);have n:=a5 F C D E;clear q N F C D E G hr x J;go_wp2_with fail;go_region_with (first
  | (go_at_call 138;first
   | (refine (A.o (w.alloc (Z4 #[ZZ nm,Z7 Z9 sz,sv] 152)).drew f.o.1).mono ?_;rintro e w1 ⟨u,L,rfl,hL,b,ho,l⟩;have b0:=λj=>l.cell (p:=⟨w.heap.size,j,ZX⟩) (n.out.1);have c0:w1.cell? ⟨w.heap.size,0,ZX⟩=ZW (ZZ nm):=(b0 0).trans n.out.2.1;have c1:w1.cell? ⟨w.heap.size,1,ZX⟩=ZW (Z7 Z9 sz):=(b0 1).trans n.out.2.2.1;have c2:w1.cell? ⟨w.heap.size,2,ZX⟩=ZW sv:=(b0 2).trans n.out.2.2.2;clear b0;have a:=a5 hL b ho l;clear hL b ho l)
   | (refine (A.o ((w.alloc (Z4 #[ZZ nm,Z7 Z9 sz,sv] 152)).drew.alloc (Z4 #[ZZ nm,Z7 Z9 sz,sv] 152)) f.o.2).mono ?_;rintro e w1 ⟨u,L,rfl,hL,b,ho,l⟩;have a:=a5 hL b ho l;clear hL b ho l))
  | (go_at_call 166;first
   | (refine (B.o (w.alloc (Z4 #[ZZ nm,Z7 Z9 sz,sv] 152)).drew (w1.alloc (Z4 #[ZZ nm,Z7 Z9 sz,sv] 152)) u L (w.alloc (Z4 #[ZZ nm,Z7 Z9 sz,sv] 152)).drew.heap.size w1.heap.size f.o.1 (a.o.2.2.2.alloc a.o.2.2.2.size _) a.o.1 a.o.2.1 (Ir a.o.2.2.1 _) f.o.1.size lR (a.o.2.2.2.alloc a.o.2.2.2.size _).size (UC w1 _) (Ad a.o.2.2.1 lR)).mono ?_;rintro e w2 ⟨u2,rfl,d,m⟩;have HF:=al d m;clear d m)
   | (refine (B.o ((w.alloc (Z4 #[ZZ nm,Z7 Z9 sz,sv] 152)).drew.alloc (Z4 #[ZZ nm,Z7 Z9 sz,sv] 152)) w1 u L ((w.alloc (Z4 #[ZZ nm,Z7 Z9 sz,sv] 152)).drew.alloc (Z4 #[ZZ nm,Z7 Z9 sz,sv] 152)).heap.size (w.heap.size+1) f.o.2 a.o.2.2.2 a.o.1 a.o.2.1 a.o.2.2.1 f.o.2.size lR a.o.2.2.2.size ((a.o.2.2.2.block _ t.out.2).trans t.out.1) (Ac a.o.2.2.1 t.out.2)).mono ?_;rintro e w2 ⟨u2,rfl,d,m⟩;have HF:=al d m;clear d m)))
 all_goals (go_wp2;go_ret;exact ⟨_,rfl,HF.o.1,HF.o.2⟩)
def lN {a:Act} {K:Act->ZT->Prop} {E:Prop} (f:o.guard=ZX) (d x:Operand) (b c:ZO) (e:o.op=Op.call { callee:=Callee.builtin Builtin.append,args:=#[d,x],argTypes:=#[b,c] })
 (v u:ZS) (hd:a.eval d=v) (hx:a.eval x=u) {v':ZS} {w':ZT} (hr:(Builtin.append_ #[b,c] o.type #[v,u]).run ZN w=.ok v' w') (hK:K (a.put o.dst v') w'):if Region.wanted o (yielded ops a.tmps)=ZV then Oper.wp ZN o a w K Q else E:=by
 rw [TT (by simp [Region.wanted,f])];unfold Oper.wp;simp [execOp,e,resolve,invoke,builtin,hd,hx,hr,Result.andThen];exact hK
theorem Lo (cur:List ZS) (L:List (Ob×ZS)) (i N:Nat) (c:L.length=N+1) (j:i<=N) (e:cur.take (L.length*3)=bQ L) (hl:(N+1)*3<=cur.length) (a:List ZS) (h:a.length=3) :
 ((cur.take (i*3)++(bQ L).drop ((i+1)*3)++cur.drop (i*3+((bQ L).drop ((i+1)*3)).length)).take (N*3)++a++(cur.take (i*3)++(bQ L).drop ((i+1)*3)++cur.drop (i*3+((bQ L).drop ((i+1)*3)).length)).drop (N*3+a.length)).take (N*3)=bQ (L.take i++L.drop (i+1)) /\
 ((cur.take (i*3)++(bQ L).drop ((i+1)*3)++cur.drop (i*3+((bQ L).drop ((i+1)*3)).length)).take (N*3)++a++(cur.take (i*3)++(bQ L).drop ((i+1)*3)++cur.drop (i*3+((bQ L).drop ((i+1)*3)).length)).drop (N*3+a.length)).length=cur.length:=by
 have g:((bQ L).drop ((i+1)*3)).length=(N-i)*3:=by rw [Un,bT,c];omega
 have d:cur.take (i*3)=bQ (L.take i):=by
  rw [<- Cq,<- e,YL,Wj (by omega)]
 have f:(cur.take (i*3)++(bQ L).drop ((i+1)*3)).length=N*3:=by rw [Ua,Uo,g];omega
 have b:(cur.take (i*3)++(bQ L).drop ((i+1)*3)++cur.drop (i*3+((bQ L).drop ((i+1)*3)).length)).take (N*3)=cur.take (i*3)++(bQ L).drop ((i+1)*3):=by
  conv=>lhs;rw [<- f]
  exact Ye
 constructor
 . rw [b,Uz,VQ (by omega),UI (by omega),d,uh,iP]
 . rw [b];simp only [Ua,Un,Uo,bT,h,c];omega
theorem EE {cur:Array ZS} {L:List (Ob×ZS)} (T:w.heap[g]?=ZW (Z4 cur 152 (0,0))) (X:base<=g) (Y:cur.size=cap*3) (C:cur.toList.take (L.length*3)=bQ L) (R:∀ u∈bQ L,u.oneCell'=ZV) (F:L.length=N+1) (U:i<=N) (k0:L.length<=cap) (kb:cap<=9223372036854775807) (hl:L.length<=10000) :
 ZQ ZN 137 #[Z5 (ZW ⟨g,0,ZX⟩) L.length cap,Z7 Z9 (i:Nat),Z7 Z9 ((i:Int)+1)] w λe w'=>e=Z3 (Z5 (ZW ⟨g,0,ZX⟩) N cap)/\ZR base w w'/\∃ a,ai w' g 152 a/\a.length=cap*3/\a.take (N*3)=bQ (L.take i++L.drop (i+1)):=by
 obtain ⟨Z,K,Q,t,hr⟩:=Ut Tryz.RU;have f:ai w g 152 cur.toList:=by unfold ai;exact T
 have m:cur.toList.length=cap*3:=by simpa using Y
 have s:((bQ L).drop ((i+1)*3)).length=(N-i)*3:=by rw [Un,bT,F];omega
 have O:∀ u∈(bQ L).drop ((i+1)*3),u.oneCell'=ZV:=λu A=>R u (UZ A);have M:∀ j u,(bQ L)[j]?=ZW u->w.drew.cell? ⟨g,j,ZX⟩=ZW u:=λj u b=>by
  have h2:w.cell? ⟨g,j,ZX⟩=ZW u:=by
   refine f.cell ?_;have ka:j<L.length*3:=(by obtain ⟨q,_⟩:=U9.1 b;rwa [bT] at q);rw [<- C,VF ka] at b;exact b
  exact h2
 have S:∀ sc,Src ZN 3 144 (Z5 (ZW ⟨g,if cap=i+1 then 0 else (i+1)*3,ZX⟩) (N-i) sc) (N-i) ((bQ L).drop ((i+1)*3)) w.drew:=λsc=>by
  refine Vi w.drew Vo _ (N-i) sc _ s (λj u b=>?_) O;rw [Vl];split
  . rename_i v
    have:N-i=0:=by omega
    rw [this] at s;have:=UU (by omega:((bQ L).drop ((i+1)*3)).length=0);rw [this] at b;simp at b
  . rw [Wi] at b;exact M _ _ b
 have D:∀ l sc,(Builtin.append_ #[144,144] l #[Z5 (ZW ⟨g,0,ZX⟩) i cap,Z5 (ZW ⟨g,if cap=i+1 then 0 else (i+1)*3,ZX⟩) (N-i) sc]).run ZN w.drew=.ok (Z5 (ZW ⟨g,0,ZX⟩) N cap) (w.drew.setCells g (i*3) ((bQ L).drop ((i+1)*3))):=λl sc=>by
  have hs:Src ZN Z.size 144 (Z5 (ZW ⟨g,if cap=i+1 then 0 else (i+1)*3,ZX⟩) (N-i) sc) (N-i) ((bQ L).drop ((i+1)*3)) w.drew:=by rw [t];exact S sc
  have h:=run_append_room_src (P:=ZN) (w:=w.drew) 144 144 l 152 Z Vo K g 0 i cap _ (N-i) _ hs (by omega) (λj b=>by
   rw [t];have:=f.cell (Uc (by rw [m];rw [s] at b;omega:0+i*3+j<cur.toList.length));show (w.cell? _).isSome=ZV;rw [this];rfl) (λj b=>f.R3 _)
  rw [t,Uj,show i+(N-i)=N by omega] at h;exact h
 have r:ai (w.drew.setCells g (i*3) ((bQ L).drop ((i+1)*3))) g 152 _:=ai.set (w:=w.drew) f (i*3) ((bQ L).drop ((i+1)*3)) (by rw [s,m];omega);obtain ⟨p,G⟩:=nM (w.drew.setCells g (i*3) ((bQ L).drop ((i+1)*3)));have I:ZR base w p:=by rw [<- G];exact (TW base w).drew.grown (cC _ _ _ _) (by show base<=w.heap.size;have:=f.lt;omega) (λk e=>by cases e;exact X)
 rw [G] at D r;obtain ⟨c1,J⟩:=nM (cur.toList.take (i*3)++(bQ L).drop ((i+1)*3)++cur.toList.drop (i*3+((bQ L).drop ((i+1)*3)).length));obtain ⟨d,y,x,k8⟩:∃ d,(Builtin.zeroCells (Value.agg #[ZZ YH,Z7 Z9 0,Z5 ZX 0 0]).cells 1).toList=d/\d.length=3/\∀ u∈d,u.oneCell'=ZV:=by
  refine ⟨[ZZ YH,Z7 Z9 0,Z5 ZX 0 0],by kernel_rfl,rfl,?_⟩;intro u A;simp only [Uw,W5,or_false] at A;rcases A with rfl|rfl|rfl<;>rfl
 have B:=Lo cur.toList L i N F U C (by rw [m];omega) d x;rw [J] at r B;have E:c1.length=cap*3:=by rw [<- J];simp only [Ua,Un,Uo,bT,m];omega
 have k9:∀ l c,(Builtin.clear_ #[144] l #[Z5 (ZW ⟨g,N*3,ZX⟩) 1 c]).run ZN p=.ok (ZY #[]) (p.setCells g (N*3) d):=λl c=>by
  have h:=ug (P:=ZN) p 144 152 l g (N*3) 1 c 152 c1 Vo (z:=.agg #[ZZ YH,Z7 Z9 0,Z5 ZX 0 0]) (λw=>by simp [zeroValue,typeInfo,K,Q]) (by omega) r (by rw [y,x,E];omega) (by rw [y];exact k8);rw [y] at h;exact h
 have V:=r.set (N*3) d (by rw [x,E];omega);have W:ZR base w (p.setCells g (N*3) d):=I.grown (cC _ _ _ _) (TV (by have:=f.lt;omega) I.size) (λk e=>by cases e;exact X);have H:=a5 V W B m;have n:=ak D;rw [F] at k0 hl ⊢;have k1:(0:Int)<=(i:Int)+1:=by omega
 have k2:((i:Int)+1).toNat=i+1:=by omega
 have k3:¬ cap=N:=by omega
 have k4:i<=N+1:=by omega
 have k5:(i:Int)<=(N:Int)+1:=by omega
 clear f m s O M S D r G I J y x k8 B E V W T Y C R K Q t hr;by_cases v:cap=i+1
 . rw [TT v] at n;obtain rfl:i=N:=(by omega);subst v;rw [W0] at n;clear k0 U k3;go_enter func137,ntmps137;go_wp2;go_region_law (refine lN rfl _ _ 144 144 rfl _ _ (by simp [Act.eval,Act.put]) (by simp [Act.eval,Act.put]) (n.o _ 0) ?_)
   go_wp2;go_ret;exact ⟨rfl,H.o.2.1,_,H.o.1,H.o.2.2.1.2.trans H.o.2.2.2,H.o.2.2.1.1⟩
 . rw [TS v] at n;have k6:i<=cap:=(by omega);have k7:(i:Int)<=(cap:Int):=(by omega);go_enter func137,ntmps137;go_wp2;go_region_law (refine lN rfl _ _ 144 144 rfl _ _ (by simp [Act.eval,Act.put]) (by simp [Act.eval,Act.put]) (n.o _ (cap-(i+1))) ?_)
   go_wp2;go_ret;exact ⟨rfl,H.o.2.1,_,H.o.1,H.o.2.2.1.2.trans H.o.2.2.2,H.o.2.2.1.1⟩
theorem uz {os:List Ob} (m:eO K w v os) (R:os.length<=9999) (hK:∀ k,w.heap.size<=k->K k) {i:Nat} (P:i<os.length) :
 ZQ ZN 101 #[v,Z7 Z9 (i:Nat)] w (uy K w (os.take i++os.drop (i+1))):=by
 have r:=oF m (by omega);have s:∀ (W:ZT) (u:ZS) (L:List (Ob×ZS)),L.map (·.1)=os->NP K w L->W.ownsRow w.heap.size 152 3 u L.length (bQ L)->bW w W->ZQ ZN 137 #[u,Z7 Z9 (i:Nat),Z7 Z9 ((i:Int)+1)] W (uy K w (os.take i++os.drop (i+1))):=λW u L hL a ho b=>by
  have Q:L.length=os.length:=by rw [<- hL,Ue]
  rcases ho.2 with ⟨rfl,O⟩|⟨g,cap,cur,rfl,p,G,M,I,J,E⟩
  . omega
  . have l:cap<=9223372036854775807:=(by unfold maxLen at I;omega);obtain ⟨N,F⟩:∃ N,L.length=N+1:=⟨L.length-1,by omega⟩;refine (EE G p J E a.one F (by omega) M l (by omega)).mono ?_;rintro e w' ⟨rfl,H,f,B,C,D⟩;have c:bW w w':=b.trans H;have d:N=(L.take i++L.drop (i+1)).length:=(by simp;omega);refine ⟨_,rfl,?_,c⟩;have t:=Ab B p d (by omega) l C D;have A:(L.take i++L.drop (i+1)).map (·.1)=os.take i++os.drop (i+1):=(by rw [Uv,WD,WE,hL]);rw [<- A,d];rw [d] at t;refine ui t (by omega) hK (λy x=>?_);rw [Ui] at x;rcases x with h|h
    . exact (a y (UV h)).keep (eo.RM c)
    . exact (a y (UZ h)).keep (eo.RM c)
 have z:=ak s;clear s m hK;go_enter func101,ntmps101;go_wp2_with fail;refine r.mono ?_;rintro e w1 ⟨u,L,rfl,hL,a,ho,b⟩;have q:=z.o w1 u L hL a ho b;clear r hL a ho b;go_wp2_with fail;refine q.mono ?_;rintro e w2 ⟨u2,rfl,j,n⟩;have HF:=al j n;clear j n q;go_wp2;go_ret;exact ⟨_,rfl,HF.o.1,HF.o.2⟩
section
def jP (T:ZO):Prop:=T=223\/T=264\/T=261\/T=299
structure aN where
 ps:Nat
 ho:Nat
 bl:Nat->Prop
 S:ZT->Prop
 keep:∀ w w',S w->(∀ k,bl k->w'.heap[k]?=w.heap[k]?)->S w'
 kd:∀ w,S w->∀ k,bl k->∀ cs T z,w.heap[k]?=ZW (Z4 cs T z)->jP T
 lt:∀ w,S w->∀ k,bl k->k<w.heap.size
 cl:∀ w,S w->∀ k,bl k->k+2=ps\/∃ cs T z,w.heap[k]?=ZW (Z4 cs T z)
structure aS (w:ZT) (ar v p:Nat) (ps:aN) (D L G t:Nat) (pg ob:ZS) (P:a8) (xs:aL) (A:aB) (F:aK):Prop where
 arc:a9 w ar v D L G t (P.getD 0 0) (an xs.os).length pg ob ZU
 vol:pd w v p D L G ps.ps ps.ho A F
 nar:¬ F.S ar
 vlt:3<=v/\v<ar
 disk:cJ A D L G t P xs
 pgs:bf (λk=>ar<k/\¬ F.S k/\¬ ps.bl k) w pg P
 cat:eO (λk=>ar<k/\¬ F.S k/\¬ ps.bl k) w ob xs.os
 nb:A.nb<=1000
 turn:t<=1000000
 kit:ps.S w
 apt:∀ k,ps.bl k->3<=k/\k≠ar/\k≠v/\¬ F.S k
 hl:ps.ho<2^(D+L+G)
 fine:A.fine D L G
def bf.any (h:bf K w v l):bf (λk=>k<w.heap.size) w v l:=by
 obtain ⟨ao,c,d,e,f⟩:=h;refine ⟨ao,c,d,e,λhl=>?_⟩;obtain ⟨b,off,g,j,a,i⟩:=f hl;exact ⟨b,off,g,a.lt,a,i⟩
def eO.any {os:List Ob} (h:eO K w v os):eO (λk=>k<w.heap.size) w v os:=by
 obtain ⟨ao,c,d,e,f⟩:=h;refine ⟨ao,c,d,e,λhl=>?_⟩;obtain ⟨b,off,j,q,a,l⟩:=f hl;refine ⟨b,off,j,a.lt,a,λi g=>?_⟩;obtain ⟨sv,m,n,o,p⟩:=l i g;exact ⟨sv,m,n,o,p.any⟩
def uA:∀ {xs:aL},(∀ x∈xs,kX D x)->xs.os.length<=(af xs.os).length
 | [],_=>TU _
 | x::xs,h=>by
  have:=uA (xs:=xs) (λy c=>h y (by simp [c]));have b:=(h x (by simp)).st;have:1<=x.1.RK.length:=by rw [b];exact Y6 _ _
  have e:af (aL.os (x::xs))=x.1.RK++af (aL.os xs):=by simp [af,aL.os]
  have a:(aL.os (x::xs)).length=(aL.os xs).length+1:=by simp [aL.os]
  rw [e,a,Ua];omega
section
variable {w:ZT} {ar v p D L G t:Nat} {ps:aN} {pg ob:ZS} {P:a8} {xs:aL} {A:aB} {F:aK}
def aS.vne (h:aS w ar v p ps D L G t pg ob P xs A F):v≠ar:=by have:=h.vlt;omega
def aS.n0 (h:aS w ar v p ps D L G t pg ob P xs A F):0<A.n:=by have:=h.vol.n;have:=h.vol.par.d1;omega
def aS.Sj (h:aS w ar v p ps D L G t pg ob P xs A F):xs.os.length<=1000/\(af xs.os).length<=1000/\P.length<=1000:=by
 have:=uA h.disk.fits;have:=h.disk.room;have:=h.nb;omega
def aS.packL_le (h:aS w ar v p ps D L G t pg ob P xs A F):(an xs.os).length<=1000000:=by
 have:=je h.vol.par.d1 h.disk.fits;have:=h.Sj.1;have:xs.os.length=xs.length:=by simp [aL.os]
 have:1500/(D*44)<=34:=by
  have:=h.vol.par.d1;have:1500/(D*44)<=1500/44:=aaM (by omega) (by decide);omega
 have:xs.length*(19+4*(1500/(D*44)+1))<=1000*(19+4*(34+1)):=Xe (by omega) (by omega);omega
def aS.below (h:aS w ar v p ps D L G t pg ob P xs A F) {w':ZT} (a:bW w w'):aS w' ar v p ps D L G t pg ob P xs A F:=
 { h with arc:=h.arc.keep (a.block _ h.arc.lt),vol:=h.vol.below a lR,pgs:=h.pgs.keep (eo.RM a),cat:=h.cat.keep (eo.RM a),kit:=ps.keep _ _ h.kit λk b=>a.block k (ps.lt _ h.kit k b) }
def eE (xs:aL):aU xs.os=xs.names:=by simp [aU,aL.os,aL.names]
def aS.find (h:aS w ar v p ps D L G t pg ob P xs A F) (x:ByteArray) :
 ZQ ZN 97 #[ob,ZZ x] w λe w'=>e=Z3 (ZY #[Z7 Z9 (aI xs.names x:Nat),Z1 (mx xs.os x)])/\bW w w':=by
 have a:Up (aU xs.os):=by rw [eE];exact h.disk.up
 have:=Lm h.cat.any (by have:=h.Sj.1;omega) a x;rwa [eE] at this
def aS.there (h:aS w ar v p ps D L G t pg ob P xs A F) {x:ByteArray} (b:x∈xs.names):mx xs.os x=ZV:=by
 have a:Up (aU xs.os):=by rw [eE];exact h.disk.up
 exact (Cx a x).2 (by rw [eE];exact b)
def aS.Sp (h:aS w ar v p ps D L G t pg ob P xs A F) {x:ByteArray} (b:x∉xs.names):mx xs.os x=ZU:=by
 have a:Up (aU xs.os):=by rw [eE];exact h.disk.up
 cases hi:mx xs.os x
 . rfl
 . exact absurd ((Cx a x).1 hi) (by rw [eE];exact b)
end
def bf.wk (h:bf K w v l) (g:∀ k,K k->k<w.heap.size->K' k):bf K' w v l:=by
 obtain ⟨ao,c,d,e,f⟩:=h;refine ⟨ao,c,d,e,λhl=>?_⟩;obtain ⟨b,off,i,j,a,m⟩:=f hl;exact ⟨b,off,i,g _ j a.lt,a,m⟩
def eO.wk {os:List Ob} (h:eO K w v os) (a:∀ k,K k->k<w.heap.size->K' k):eO K' w v os:=by
 obtain ⟨ao,c,e,f,g⟩:=h;refine ⟨ao,c,e,f,λhl=>?_⟩;obtain ⟨b,off,l,m,d,n⟩:=g hl;refine ⟨b,off,l,a _ m d.lt,d,λi j=>?_⟩;obtain ⟨sv,o,p,q,r⟩:=n i j;exact ⟨sv,o,p,q,r.wk a⟩
end
theorem mP (n m:Nat) (h:n<=1000000) (f:1<=m/\m<=1000000) (w:ZT):ZQ ZN 125 #[Z7 Z9 n,Z7 Z9 m] w λe w'=>e=Z3 (Z7 Z9 ((max 1 ((n+m-1)/m):Nat):Int))/\w'=w:=by
 have a:=tP n m (by omega) f w;obtain ⟨q,b⟩:=nM ((n+m-1)/m);rw [b] at a;rw [b];have g:∀ (d:ZO) (w:ZT),(Builtin.max_ #[3,3] d #[Z7 Z9 1,Z7 Z9 (q:Int)]).run ZN w=.ok (Z7 Z9 ((max 1 q:Nat):Int)) w:=λd w=>by
  rw [qO];congr 2;split<;>omega
 clear b;go_enter func125,ntmps125;go_wp2_with fail;refine a.mono ?_;rintro e w' ⟨rfl,c⟩;obtain rfl:w=w':=c.symm;clear a c;go_wp2;go_ret;exact ⟨rfl,rfl⟩
def Ae (N:Nat) (ds:a8) (R:Nat->a8):List a8:=(YF N).map λi=>if i∈ds then R i else []
def NU (N:Nat) (ds:a8):Nat:=zw (((YF N).filter λi=>decide (i∉ds)).map λi:Nat=>⟨0,0,(i:Int),0⟩)
theorem uB (N:Nat) (ds:a8) (i:Nat):(NU N ds).testBit i=ZV↔i<N/\i∉ds:=by
 unfold NU;rw [nZ];constructor
 . rintro ⟨s,f,_,a⟩;obtain ⟨j,e,rfl⟩:=T9.1 f;obtain ⟨c,d⟩:=Vy.1 e;have:j=i:=a;subst this;exact ⟨Uu.1 c,WX d⟩
 . rintro ⟨b,a⟩;exact ⟨_,T9.2 ⟨i,Vy.2 ⟨Uu.2 b,UY a⟩,rfl⟩,rfl,rfl⟩
def CB (N:Nat) (ds:a8) (R:Nat->a8):(Ae N ds R).length=N:=by simp [Ae]
def CC (a:i<N):(Ae N ds R).getD i []=if i∈ds then R i else []:=by simp [Ae,a]
def Lp (h:w.heap[bl]?=ZW (Z4 (aJ l).toArray 213 (0,0))) (hl:l.length=44) (c:∀ x∈l,x<256):Bs w (Z5 (ZW ⟨bl,0,ZX⟩) 44 44) l:=by
 refine ⟨ZW ⟨bl,0,ZX⟩,44,by rw [hl],by omega,by omega,c,λ_=>⟨bl,0,rfl,λk a=>?_⟩⟩;have e:(aJ l)[k]?=ZW (Z7 .u8 ((l.getD k 0:Nat):Int)):=by
  unfold aJ;rw [UG,Uc a];simp [a]
 have b:(aJ l).toArray[k]?=ZW (Z7 .u8 ((l.getD k 0:Nat):Int)):=by simpa using e
 simp [World.cell?,h,b]
def Ru (n:w.rowIs g 40 N f) (o:∀ i∈ds,(R i).length=44/\∀ x∈R i,x<256) (j:Kn w base vR f R ds):In w g (Ae N ds R) (NU N ds):=by
 intro i c;have b:i<N:=by rw [CB] at c;exact c
 have p:(Ae N ds R)[i]=if i∈ds then R i else []:=by rw [<- CC b];simp [c]
 have h:=n.cell b;refine ⟨λa=>?_,λa=>?_⟩
 . rw [h,j.1 i ((uB N ds i).1 (oz.1 a)).2];rfl
 . have d:i∈ds:=by
    by_cases q:i∈ds
    . exact q
    . exact absurd (oz.2 ((uB N ds i).2 ⟨b,q⟩)) a
   obtain ⟨bl,k,_,_,l⟩:=j.2 i d;obtain ⟨e,m⟩:=o i d;rw [p,TT d,e];exact ⟨⟨bl,0,ZX⟩,44,by rw [h,k],Lp l e m⟩
theorem Is (a:∀ i∈ds,(R i).length=44/\∀ x∈R i,x<256):∀ l∈Ae N ds R,l.length<=100000:=by
 intro l hl;unfold Ae at hl;obtain ⟨i,_,rfl⟩:=T9.1 hl;split
 . rename_i h;rw [(a i h).1];omega
 . simp
def yu {row:a8} (h:aM w bl l) (g:m<=l.length) (e:l.take m=row):w.rangeAt bl 0 (aJ row)/\row.length=m:=by
 have c:row.length=m:=by rw [<- e,Uo];omega
 refine ⟨λj u a=>?_,c⟩;unfold aJ at a;rw [UG,Wq] at a;obtain ⟨x,b,rfl⟩:=a;have f:j<row.length:=(U9.1 b).1;have d:=aaT h (i:=j) (by omega);rw [Uj];rw [d];unfold vb;have:l.getD j 0=x:=by
  rw [<- e,Yz,TT (by omega)] at b;rw [Ub,b];rfl
 rw [this]
def jf (h:w.heap[bl]?=ZW (Z4 (aJ l).toArray 213 (0,0))):w.rangeAt bl 0 (aJ l):=λj u a=>by simp [World.cell?,h];simpa using a
theorem oH {S:Nat} (e:gone<65536) (f:sp<65536) {i:Nat}:i∈AD ds (ab (xS (xS S gone) sp))↔i∈ab S/\gone.testBit i=ZU/\sp.testBit i=ZU/\i∉ds:=by
 rw [FS,sf f,sf e];constructor
 . rintro ⟨⟨⟨a,b⟩,c⟩,d⟩;exact ⟨a,b,c,d⟩
 . rintro ⟨a,b,c,d⟩;exact ⟨⟨⟨a,b⟩,c⟩,d⟩
def QO (T gone sp:Nat) (ds:a8):a8:=AD ds (ab (xS (xS T gone) sp))
def uC (h:¬ x.testBit i=ZV):x.testBit i=ZU:=by cases q:x.testBit i;rfl;exact absurd q h
structure CI (w:ZT) (D L G:Int) (X:ZT):Prop where
 par:X.heap[w.heap.size]?=ZW (Z4 #[Z7 Z9 D,Z7 Z9 L,Z7 Z9 G] 27 (0,0))
 res:X.heap[w.heap.size+1]?=ZW (Z4 #[Z7 Z9 0,Z5 ZX 0 0] 206 (0,0))
 below:bW w X
def CI.mono {X Y:ZT} {D L G:Int} (h:CI w D L G X) (a:ZR B X Y) (b:w.heap.size+2<=B):CI w D L G Y:=
 ⟨(a.block _ (by omega)).trans h.par,(a.block _ (by omega)).trans h.res,h.below.trans (a.mono (by omega))⟩
def CI.new (w:ZT) (D L G:Int):CI w D L G ((w.alloc (Z4 #[Z7 Z9 D,Z7 Z9 L,Z7 Z9 G] 27)).alloc (Z4 #[Z7 Z9 0,Z5 ZX 0 0] 206)):=by
 refine ⟨?_,?_,(bA w _).alloc (by simp) _⟩
 . rw [V8 _ _ _ (by simp)];exact XW _ _
 . have:=XW (w.alloc (Z4 #[Z7 Z9 D,Z7 Z9 L,Z7 Z9 G] 27)) (Z4 #[Z7 Z9 0,Z5 ZX 0 0] 206);rwa [Ul] at this
def Qm (n:Nat):Nat:=2^n-1
def Lq (lost n:Nat) (hl:lost<18446744073709551616) (a:n<=16):bits .and .u64 (lost:Int) (Qm n:Int)=((aw n lost:Nat):Int):=by
 have:=jc a;have:0<2^n:=VH n;exact fG lost (2^n-1) hl (by omega)
def Lr (lost n:Nat) (a:n<=16):bits .andNot .u64 (Qm n:Int) ((aw n lost:Nat):Int)=((bz n lost:Nat):Int):=by
 have:=jc a;have:=ot lost a;exact X4 (2^n-1) (aw n lost) (by omega) (by omega)
def Qn (D L G lost:Nat) (w:ZT) (e:ZP) (w':ZT):Prop:=
 bW w w'/\((tells (jI D L G) (ab (aw (D+L+G) lost))=ZX/\e=Z3 (ZY #[.agg #[Z7 Z9 0,Z5 ZX 0 0],.iface 66 (Z7 Z9 3)])) \/
  (∃ C v,tells (jI D L G) (ab (aw (D+L+G) lost))=ZW C/\e=Z3 (ZY #[.agg #[Z7 Z9 (1+((ab (aw (D+L+G) lost)).length:Int)),v],.nilIface]) /\
   w'.ownsRow w.heap.size 299 4 v (fW (aP 8 C (bz (D+L+G) lost)).1 (aw (D+L+G) lost) (bz (D+L+G) lost)).length (eB .u8 (fW (aP 8 C (bz (D+L+G) lost)).1 (aw (D+L+G) lost) (bz (D+L+G) lost)))))
def Ls {z:Int} (k:Nat) (a:k<=16) (b:z=(k:Int)) (w:ZT) :
 ZQ ZN 135 #[Z7 Z9 z] w λe w'=>e=Z3 (Z7 Z8 (Qm k:Int))/\w'=w:=by subst b;exact lX k a w
theorem vT (D L G lost:Nat) (hr:cV D L G=ZV) (kb:1<=D) (hD:D<=12) (hL:1<=L) (T:L<=4) (hG:G<=4) (hs:D%L=0) (c:D+L+G<=16) (hl:lost<18446744073709551616) (w:ZT) (E:aG w) (h2:3<=w.heap.size) :
 ZQ ZN 196 #[.agg #[Z7 Z9 D,Z7 Z9 L,Z7 Z9 G],Z7 Z8 lost] w λe w'=>Qn D L G lost w e w':=by
 have h:=CI.new w D L G;have j:((w.alloc (Z4 #[Z7 Z9 (D:Int),Z7 Z9 (L:Int),Z7 Z9 (G:Int)] 27)).alloc (Z4 #[Z7 Z9 0,Z5 ZX 0 0] 206)).heap.size=w.heap.size+2:=by simp
 obtain ⟨p0,p1,p2⟩:=fw h.par;have K:=al h j;clear h j;go_enter func196,ntmps196;go_wp2_with fail;refine (oY D L G _).mono ?_;rintro e w1 ⟨rfl,q⟩;obtain ⟨h,j⟩:=K.o;try change ZR _ _ _ at q
 rw [j] at q;have kc:=q.size;try change ZR _ _ _ at kc
 rw [j] at kc;have A:=h.mono q lR;obtain ⟨p0,p1,p2⟩:=fw A.par;have M:=ak A;clear K h j q A;go_wp2_with fail;refine (dw D L G _ (by omega) (by omega) (by omega)).mono ?_;rintro e w2 ⟨rfl,F⟩;have kh:=F.size;have B:=M.o.mono F (by omega);obtain ⟨p0,p1,p2⟩:=fw B.par;have r:=ak B;clear B F M;go_wp2_with fail;refine (Ls (D+L+G) c (by omega) w2).mono ?_;rintro e J ⟨rfl,hx⟩;subst hx;have kf:=Lq lost (D+L+G) hl c;go_wp2_with fail;refine (kW D L G (aw (D+L+G) lost) hr kb hD hL T hG hs c (ot lost c) J (E.mono (by omega) r.o.below) (by omega)).mono ?_;rintro e a ⟨x,hg⟩;have ki:=x.size;have t:=r.o.mono x (by omega);have hz:=zeroCk;rcases hg with ⟨y,rfl⟩|⟨C,u,rfl⟩
 . have R:=bX dL;have n:bW a ((a.alloc (Z4 (aY dL) 332)).setRow a.heap.size (aY dL)):=(bA _ _).grown (aQ _ _ _) (by simp) (λk e=>by cases e;exact TU _);have d:=t.mono n (by omega);obtain ⟨r0,r1,g1,g0⟩:=ay d.res;have b:=al d y;clear t d x n r y;go_wp2_with (refine Ww rfl 332 (Z0 8) (Z0 25) rfl a.heap.size (aY dL) rfl rfl 332 (aY dL) (aF.new a dL).heap (dW _) rfl (l8 _) ?_);obtain ⟨Q,y⟩:=b.o;have z:=iO (y':=Z5 ZX 0 0) (iN (x':=Z7 Z9 0) Q.res);obtain ⟨n0,I,_⟩:=ay z;refine Us (v:=ZY #[.agg #[Z7 Z9 0,Z5 ZX 0 0],.iface 66 (Z7 Z9 3)]) (by simp [results,results196,go_sem,n0,I]) rfl ?_;exact ⟨(Q.below.setCell (p:=⟨w.heap.size+1,0,ZX⟩) (by show w.heap.size<=w.heap.size+1;omega) _).setCell (p:=⟨w.heap.size+1,1,ZX⟩) (by show w.heap.size<=w.heap.size+1;omega) _,.inl ⟨y,rfl⟩⟩
 . have s:=(ox hD hG u).1;have P:=zN hD T hG u;have N:eA (aP 8 C (bz (D+L+G) lost)).1:=⟨s.byt,s.le,by have:=s.Sa;omega⟩;have kg:=Lr lost (D+L+G) c;have R:=bX C;have n:bW a ((a.alloc (Z4 (aY dL) 332)).setRow a.heap.size (aY C)):=(bA _ _).grown (aQ _ _ _) (by simp) (λk e=>by cases e;exact TU _);have W:aF ((a.alloc (Z4 (aY dL) 332)).setRow a.heap.size (aY C)) a.heap.size C:=(aF.new a dL).setRow C;have d:=t.mono n (by omega);have Z:((a.alloc (Z4 (aY dL) 332)).setRow a.heap.size (aY C)).heap.size=a.heap.size+1:=(by simp [World.setRow]);have U:=E.mono (by omega) d.below;have b:=a6 d W Z U u;have HF:=al P N;clear t d x n W Z U r u s P N;go_wp2_with (first
    | refine Ww rfl 332 (Z0 8) (Z0 25) rfl a.heap.size (aY C) rfl rfl 332 (aY dL) (aF.new a dL).heap (dW _) (by rw [bX,bX]) (l8 _) ?_
    | refine aaB rfl 332 (Z0 8) rfl a.heap.size rfl 332 (aY C) (0,0) _ b.o.2.1.heap XH rfl (dW _) ?_)
   obtain ⟨w5,Y⟩:=nM ((a.alloc (Z4 (aY dL) 332)).setRow a.heap.size (aY C));rw [Y] at b ⊢;clear Y R hz;refine (Ej C (bz (D+L+G) lost) w5 HF.o.1 (BZ lost c) b.o.2.2.2.1 (by have:=b.o.2.2.1;omega)).mono ?_;rintro e w7 ⟨rfl,H⟩;have kj:=H.size;have X:=b.o.1.mono H (by have:=b.o.2.2.1;omega);have ke:a.heap.size+1<=w7.heap.size:=(by have:=b.o.2.2.1;omega);have S:=ak X;clear X H;go_wp2_with fail;refine (Ic (aP 8 C (bz (D+L+G) lost)).1 (aw (D+L+G) lost) (bz (D+L+G) lost) w7 HF.o.2 (ot lost c) (BZ lost c) (E.mono (by omega) S.out.below) (by omega)).mono ?_;rintro e w8 ⟨v,rfl,V,l⟩;obtain ⟨ao,m,f,rfl⟩:∃ ao m f,v=.slice ao m f:=by
    rcases l.2 with ⟨rfl,_⟩|⟨g,cap,cur,rfl,_⟩
    . exact ⟨_,_,_,rfl⟩
    . exact ⟨_,_,_,rfl⟩
   have i:=S.out.mono V (by omega);obtain ⟨r0,r1,g1,g0⟩:=ay i.res;have H8:=al i l;clear i l V;go_wp2;obtain ⟨i,l⟩:=H8.o;have z:=iO (y':=.slice ao m f) (iN (x':=Z7 Z9 (1+((ab (aw (D+L+G) lost)).length:Int))) i.res);obtain ⟨n0,I,_⟩:=ay z;have O:(Value.slice ao m f).ownBlock≠ZW (w.heap.size+1):=λe=>by have:=jJ l e;omega
   have hv:=(l.kept (dz w8 (w.heap.size+1) 0 (Z7 Z9 (1+((ab (aw (D+L+G) lost)).length:Int)))) (.inr O)).kept (dz _ (w.heap.size+1) 1 (.slice ao m f)) (.inr O);refine Us (v:=ZY #[.agg #[Z7 Z9 (1+((ab (aw (D+L+G) lost)).length:Int)),.slice ao m f],.nilIface]) (by simp [results,results196,go_sem,n0,I]) rfl ?_;exact ⟨(i.below.setCell (p:=⟨w.heap.size+1,0,ZX⟩) (by show w.heap.size<=w.heap.size+1;omega) _).setCell (p:=⟨w.heap.size+1,1,ZX⟩) (by show w.heap.size<=w.heap.size+1;omega) _,.inr ⟨C,_,b.o.2.2.2.2,rfl,gu hv (by omega)⟩⟩
def bH (D L G lost:Int) (rd:Bool):ZS:=.agg #[Z7 Z9 D,Z7 Z9 L,Z7 Z9 G,Z7 Z8 lost,Z1 rd]
def oI (e:Bool) (D L G lost:Int) (rd:Bool) (w:ZT):(Instr.checkKey e 10000 221 (bH D L G lost rd)).run ZN w=.ok () w:=by kernel_rfl
theorem NV (D L G lost:Int) (rd:Bool) (w:ZT):(Op.equal 221 (bH D L G lost rd) (bH D L G lost rd)).run ZN w=.ok ZV w:=by
 unfold bH Op.equal Op.maxDepth;go_simp
def uD {es:Array MapEntry} (h:w.heap[m]?=ZW (.map es n)):(getObj m).run ZN w=.ok (.map es n) w:=by simp [getObj,Sem.run,h]
def Lt {es:Array MapEntry} (h:w.heap[m]?=ZW (.map es n)) (o:Obj):(setObj m o).run ZN w=.ok () (w.putObj m o):=by simp [setObj,Sem.run,h,World.putObj]
def ju (w:ZT) (n:Nat) (D L G lost:Int) (rd:Bool) (regs:Int) (steps:ZS) (ne ol:ZS):Prop:=w.heap[n]?=ZW (Z4 (mL D L G lost rd regs steps ne ol) 261 (0,0))
def ju.lt {D L G:Int} {rd:Bool} {steps ol:ZS} (h:ju w n D L G lost rd regs steps ne ol):n<w.heap.size:=(T5.1 h).1
def ju.cells {D L G:Int} {rd:Bool} {steps ol:ZS} (h:ju w n D L G lost rd regs steps ne ol):w.cell? ⟨n,7,ZX⟩=ZW ne/\w.cell? ⟨n,8,ZX⟩=ZW ol/\w.frozen? ⟨n,7,ZX⟩=ZU/\w.frozen? ⟨n,8,ZX⟩=ZU:=by
 have a:w.heap[n]?=ZW (Z4 (mL D L G lost rd regs steps ne ol) 261 (0,0)):=h;simp [World.cell?,World.frozen?,a,mL]
def ju.SQ {D L G:Int} {rd:Bool} {steps ol:ZS} (h:ju w n D L G lost rd regs steps ne ol) (x:ZS):ju (w.setCell ⟨n,7,ZX⟩ x) n D L G lost rd regs steps x ol:=ag (j:=7) h x
def ju.SM {D L G:Int} {rd:Bool} {steps ol:ZS} (h:ju w n D L G lost rd regs steps ne ol) (x:ZS):ju (w.setCell ⟨n,8,ZX⟩ x) n D L G lost rd regs steps ne x:=ag (j:=8) h x
def ju.keep {D L G:Int} {rd:Bool} {steps ol:ZS} (h:ju w n D L G lost rd regs steps ne ol) (e:w'.heap[n]?=w.heap[n]?):ju w' n D L G lost rd regs steps ne ol:=e.trans h
def fM (w:ZT) (b i j:Nat) (x y:ZS):aa (λk=>k=b) w ((w.setCell ⟨b,i,ZX⟩ x).setCell ⟨b,j,ZX⟩ y):=by
 have a:aa (λk=>k=b) w (w.setCell ⟨b,i,ZX⟩ x):=aa.setCell _ _ _ rfl;have c:aa (λk=>k=b) (w.setCell ⟨b,i,ZX⟩ x) ((w.setCell ⟨b,i,ZX⟩ x).setCell ⟨b,j,ZX⟩ y):=aa.setCell _ _ _ rfl;exact a.trans c
def Rv (w:ZT) (sb n:Nat):Prop:=ju w sb 0 0 0 0 ZU 0 (Z5 ZX 0 0) (Z6 (ZW ⟨n,0,ZX⟩)) (Z6 (ZW ⟨n,0,ZX⟩))
def fO (w:ZT) (sb:Nat) (room:Int):Prop:=w.heap[sb+1+1]?=ZW (Z4 #[Z7 Z9 room,.map (ZW (sb+1)),Z6 (ZW ⟨sb,0,ZX⟩)] 264 (0,0))
def ju.value {D L G:Int} {rd:Bool} {steps ol:ZS} (h:ju w n D L G lost rd regs steps ne ol):w.cell? ⟨n,5,ZX⟩=ZW (Z7 Z9 regs)/\w.cell? ⟨n,6,ZX⟩=ZW steps:=by
 have a:w.heap[n]?=ZW (Z4 (mL D L G lost rd regs steps ne ol) 261 (0,0)):=h;simp [World.cell?,a,mL]
def gw (hl:fO w sb room):w.cell? ⟨sb+1+1,0,ZX⟩=ZW (Z7 Z9 room)/\w.cell? ⟨sb+1+1,1,ZX⟩=ZW (.map (ZW (sb+1)))/\w.cell? ⟨sb+1+1,2,ZX⟩=ZW (Z6 (ZW ⟨sb,0,ZX⟩)):=by
 have a:w.heap[sb+1+1]?=_:=hl;simp [World.cell?,a]
def aa.putObj (w:ZT) (m:Nat) (o:Obj) (h:S m):aa S w (w.putObj m o):=⟨rfl,rfl,rfl,by simp [World.putObj],λk _ a=>UO (λe=>a (e▸h))⟩
section
theorem EF (s i:Nat) (g:s<65536) (f:i<16) (w:ZT):ZQ ZN 209 #[Z7 Z8 s,Z7 Z9 i] w λe w'=>e=Z3 (Z1 (s.testBit i))/\w'=w:=by
 have key:(bits .and .u64 ((s:Int)/2^i) 1==1)=s.testBit i:=by
  have e:((s:Int)/2^i)=((s/2^i:Nat):Int):=by rw [X3,Xk];rfl
  have d:s/2^i<=s:=VP _ _;have b:=fG (s/2^i) 1 (by omega) (by decide);rw [e,show ((1:Int))=((1:Nat):Int) from rfl,b,Nat.and_one_is_mod,Wu];by_cases c:s/2^i%2=1
  . rw [c];rfl
  . have a:s/2^i%2=0:=(by omega);rw [a];rfl
 go_enter func209,ntmps209;go_wp2;go_ret;exact ⟨by rw [<- key];rfl,rfl⟩
def NW {e:Nat} {xs:List ZS} (b:w.ownsRow base e s v n xs):∃ ao m a,v=.slice ao m a:=by
 rcases b.2 with ⟨rfl,_⟩|⟨g,cap,cur,rfl,_⟩
 . exact ⟨_,_,_,rfl⟩
 . exact ⟨_,_,_,rfl⟩
def yw {lost:Nat} (h:lost<2^n):aw n lost=lost:=by unfold aw;rw [aaW,VR h]
def F8 {lost:Nat} (hD:D<=12) (hG:G<=4) (h:D+L+G<=16) (b:tells (jI D L G) (ab (aw (D+L+G) lost))=ZX):¬ gq D L G lost:=λq=>by
 obtain ⟨C,a⟩:=(Eo hD hG h).1 q;rw [b] at a;cases a
theorem NX (hD:D<=12) (hG:G<=4) (h16:D+L+G<=16) {K:a8} {C:Ck} (hK:tells (jI D L G) K=ZW C) (f:∀ i,i∈K↔i<D+L+G/\s.testBit i=ZV):gq D L G s:=by
 have b:=jH D L G hD hG;have e:D+(L+G)=D+L+G:=by omega
 unfold gq;rw [B4 _ _ _ h16];rcases b.told K with ⟨h,_,d⟩|⟨c,_⟩
 . have:=b.full d;rw [e] at this;have g:(λi=>i∉ab (aw (D+L+G) s))=λi=>i∉K:=funext λi=>propext (not_congr ((bL h16).trans (f i).symm));rw [g];exact this
 . have a:tells (jI D L G) K=ZX:=c;rw [hK] at a;cases a
def uE:ZP:=Z3 (ZY #[.agg #[Z7 Z9 0,Z5 ZX 0 0],.iface 66 (Z7 Z9 3)])
def GrA (D L G lost:Nat) (w w':ZT) (z:Int) (ao:Option Addr) (m c:Nat) (er:ZS):Prop:=bW w w'/\((er=.iface 66 (Z7 Z9 3)/\z=0/\ao=ZX/\m=0/\c=0/\¬ gq D L G lost)\/(er=.nilIface/\∃ s C,(∀ i,lost.testBit i=ZV->s.testBit i=ZV)/\tells (jI D L G) (ab (aw (D+L+G) s))=ZW C/\z=1+((ab (aw (D+L+G) s)).length:Int)/\w'.ownsRow w.heap.size 299 4 (.slice ao m c) (bS D L G s C).length (eB .u8 (bS D L G s C))))
def Qo (D L G lost:Nat) (w:ZT) (e:ZP) (w':ZT):Prop:=∃ z ao m c er,e=Z3 (ZY #[.agg #[Z7 Z9 z,.slice ao m c],er])/\GrA D L G lost w w' z ao m c er
def Qo.no {lost:Nat} (h:bW w w') (a:¬ gq D L G lost):Qo D L G lost w uE w':=⟨0,ZX,0,0,_,rfl,h,.inl ⟨rfl,rfl,rfl,rfl,rfl,a⟩⟩
def Rw (w:ZT) (D L G lost cb:Nat) (lv iv:ZS) (wr:ZT):Prop:=
 ∃ (k s:Nat) (C:Ck),k<=D+L+G/\lv=Z7 Z8 (s:Nat)/\iv=Z7 Z9 ((D+L+G:Nat)-1-(k:Int))/\aF wr cb C/\(∃ K,tells (jI D L G) K=ZW C/\∀ i,i∈K↔i<D+L+G/\s.testBit i=ZV)/\(∀ i,lost.testBit i=ZV->s.testBit i=ZV)/\s<2^(D+L+G)/\CI w D L G wr/\cb<wr.heap.size/\w.heap.size+2<=cb
section
variable (D L G lost:Nat) (hr:cV D L G=ZV) (hD1:1<=D) (hD:D<=12) (hL:1<=L) (hL4:L<=4) (hG:G<=4) (hdiv:D%L=0) (h16:D+L+G<=16) (hl:lost<2^(D+L+G))
include hr hD1 hD hL hL4 hG hdiv h16 hl
def qZ (w:ZT) (k:aG w) (g:3<=w.heap.size):ZQ ZN 196 #[.agg #[Z7 Z9 D,Z7 Z9 L,Z7 Z9 G],Z7 Z8 lost] w (Qo D L G lost w):=by
 have:lost<65536:=T7 hl (jc h16);refine (vT D L G lost hr hD1 hD hL hL4 hG hdiv h16 (by omega) w k g).mono ?_;rintro e w1 ⟨a,f⟩;rcases f with ⟨j,rfl⟩|⟨c,v,h,rfl,b⟩
 . exact Qo.no a (F8 hD hG h16 j)
 . obtain ⟨ao,m,d,rfl⟩:=NW b;exact ⟨_,ao,m,d,_,rfl,a,.inr ⟨rfl,lost,c,λi q=>q,h,rfl,b⟩⟩
theorem CD (w:ZT) (hT:aG w) (d:3<=w.heap.size):ZQ ZN 195 #[.agg #[Z7 Z9 D,Z7 Z9 L,Z7 Z9 G],Z7 Z8 lost] w (Qo D L G lost w):=by
 have kx:lost<65536:=T7 hl (jc h16);have g:=CI.new w D L G;have r:((w.alloc (Z4 #[Z7 Z9 (D:Int),Z7 Z9 (L:Int),Z7 Z9 (G:Int)] 27)).alloc (Z4 #[Z7 Z9 0,Z5 ZX 0 0] 206)).heap.size=w.heap.size+2:=by simp
 obtain ⟨S,T,U⟩:=fw g.par;have kh:=kW D L G lost hr hD1 hD hL hL4 hG hdiv h16 kx _ (hT.mono (by omega) g.below) (TV d g.below.size);have W:=aE g r kh;clear g r kh;go_enter func195,ntmps195;go_wp2_with fail;refine W.o.2.2.mono ?_;rintro e w1 ⟨E,hx⟩;obtain ⟨g,r,_⟩:=W.o;try change ZR _ _ _ at E
 rw [r] at E;have t:=E.size;try change ZR _ _ _ at t
 rw [r] at t;have Y:=g.mono E lR;have hz:=zeroCk;have k7:∀ C,bW w1 ((w1.alloc (Z4 (aY dL) 332)).setRow w1.heap.size (aY C)):=λC=>(bA _ _).grown (aQ _ _ _) (by simp) (λk e=>by cases e;exact TU _);rcases hx with ⟨kk,rfl⟩|⟨C,N,rfl⟩
 . have f:=Y.mono (k7 dL) t;obtain ⟨r0,r1,g1,g0⟩:=ay f.res;have x:=ak f;have kr:=ak (F8 hD hG h16 (by rw [yw hl];exact kk));clear kk W g r E Y k7 f;go_wp2_with (refine Ww rfl 332 (Z0 6) (Z0 13) rfl w1.heap.size (aY dL) rfl rfl 332 (aY dL) (aF.new w1 dL).heap (dW _) rfl (l8 _) ?_);obtain ⟨n0,n1,_⟩:=ay (iO (y':=Z5 ZX 0 0) (iN (x':=Z7 Z9 0) x.o.res));refine Us (v:=ZY #[.agg #[Z7 Z9 0,Z5 ZX 0 0],.iface 66 (Z7 Z9 3)]) (by simp [results,results195,go_sem,n0,n1]) rfl (Qo.no ?_ kr.out);exact (x.o.below.setCell (p:=⟨w.heap.size+1,0,ZX⟩) (by show w.heap.size<=w.heap.size+1;omega) _).setCell (p:=⟨w.heap.size+1,1,ZX⟩) (by show w.heap.size<=w.heap.size+1;omega) _
 have B:aF ((w1.alloc (Z4 (aY dL) 332)).setRow w1.heap.size (aY C)) w1.heap.size C:=(aF.new w1 dL).setRow C;have f:=Y.mono (k7 C) t;obtain ⟨S,T,U⟩:=fw f.par;have x:=a5 B f t N;clear W g r E Y k7 B f N;go_wp2_with (refine Ww rfl 332 (Z0 6) (Z0 13) rfl w1.heap.size (aY C) rfl rfl 332 (aY dL) (aF.new w1 dL).heap (dW _) rfl (l8 _) ?_);obtain ⟨w5,ko⟩:=nM ((w1.alloc (Z4 (aY dL) 332)).setRow w1.heap.size (aY C));rw [ko] at x S T U ⊢;clear ko hz;refine (dw D L G _ (by omega) (by omega) (by omega)).mono ?_;rintro e w6 ⟨rfl,k8⟩;obtain ⟨B,f,t,N⟩:=x.o;have l:=(T5.1 B.heap).1;have he:Rw w D L G lost w1.heap.size (Z7 Z8 (lost:Nat)) (Z7 Z9 ((D:Int)+L+G-1)) w6:=⟨0,lost,C,T8 _,rfl,by congr 1;omega,B.keep (k8.block _ l),⟨_,N,λi=>by have:=bL (lost:=lost) (i:=i) h16;rwa [yw hl] at this⟩,λ_ q=>q,hl,f.mono k8 (by omega),T7 l k8.size,t⟩;have kf:=ak he;clear S T U B f l k8 he x N;go_wp2;go_loopw [1,8] (λlv iv wr=>Rw w D L G lost w1.heap.size lv iv wr) (λ_ iv _=>(intOf iv+1).toNat)
 case atStart=>exact kf.out
 case round=>
  clear kf;rename ZT=>wo;obtain ⟨k,s,C1,hk,rfl,rfl,k9,⟨K,hK⟩,A,R,a,l,kg⟩:=hrel;have kz:s<65536:=T7 R (jc h16);by_cases kj:k<D+L+G
  . obtain ⟨i,hi⟩:∃ i,i=D+L+G-1-k:=⟨_,rfl⟩;have P:((D+L+G:Nat):Int)-1-(k:Int)=(i:Int):=(by omega);rw [P];have q4:=tK w1.heap.size i C1 wo k9 (zN hD hL4 hG hK.1) (by omega);have kc:i<16:=(by omega);have HN:=hide7 a k9 l kg A R hK;have b:=aE hi kj P;clear a k9 l kg P hi kj A R hK;go_wp2_with fail;refine (EF s i kz kc wo).mono ?_;rintro e w2 ⟨rfl,q5⟩;subst q5;cases hb:s.testBit i with
    | true=>
     go_wp2;go_roundw
     case rel=>
      obtain ⟨d,X,F,I,J,M,y⟩:=HN.o;exact ⟨k+1,s,C1,by have:=b.o;omega,rfl,by have:=b.o;congr 1;omega,X,⟨K,y⟩,J,M,d,F,I⟩
     case measure=>have:=b.o;simp [intOf]<;>omega
    | false=>
     go_wp2_with fail;refine q4.mono ?_;rintro e w3 (⟨q8,rfl,q6⟩|⟨C',ka,rfl,k6,n⟩)
     . subst q6;go_wp2;go_roundw
       case rel=>
        obtain ⟨d,X,F,I,J,M,y⟩:=HN.o;exact ⟨k+1,s,C1,by have:=b.o;omega,rfl,by have:=b.o;congr 1;omega,X,⟨K,y⟩,J,M,d,F,I⟩
       case measure=>have:=b.o;simp [intOf]<;>omega
     . have H3:=aE ka k6 n;clear ka k6 n;go_wp2_with fail;refine (eS s i (by omega) (by omega) w3).mono ?_;rintro e w4 ⟨rfl,q7⟩;subst q7;go_wp2;go_roundw
       case rel=>
        obtain ⟨d,X,F,I,J,M,y⟩:=HN.o;obtain ⟨ka,k6,n⟩:=H3.o;have ky:=d.below.size;exact ⟨k+1,s|||2^i,C',by have:=b.o;omega,rfl,by have:=b.o;congr 1;omega,k6,⟨K++[i],by rw [jU,y.1];exact ka,λj=>by rw [Ui,U5,y.2 j,VZ,Xw,X2,decide_eq_true_iff];have:=b.o;constructor;rintro (⟨V,u⟩|q);exact ⟨V,.inl u⟩;exact ⟨by omega,.inr q.symm⟩;rintro ⟨V,u|u⟩;exact .inl ⟨V,u⟩;exact .inr u.symm⟩,λj q=>by rw [VZ,J j q];rfl,WJ M (Vx (by decide) (by have:=b.o;omega)),
         ⟨(n.block _ (by omega) (λe=>by have:=UM e;omega)).trans d.par,(n.block _ (by omega) (λe=>by have:=UM e;omega)).trans d.res,d.below.grown n ky (λq e=>by have:=UM e;omega)⟩,T7 F n.size,I⟩
       case measure=>have:=b.o;simp [intOf]<;>omega
  . have kv:k=D+L+G:=(by omega);subst kv;have P:((D+L+G:Nat):Int)-1-((D+L+G:Nat):Int)=-1:=(by omega);rw [P];have ki:=qZ D L G s hr hD1 hD hL hL4 hG hdiv h16 R wo (hT.mono (by omega) a.below) (TV d a.below.size);obtain ⟨S,T,U⟩:=fw a.par;have H:=aE A ki a;have ks:=ak (NX hD hG h16 hK.1 hK.2);clear ki a k9 l A hK R;go_wp2_with fail;refine H.o.2.1.mono ?_;rintro e w3 ⟨z,ao,m,c,er,rfl,O,Z⟩;have a:=H.o.2.2;have kp:=(T5.1 a.res).1;have Q:=(O.block _ kp).trans a.res;obtain ⟨r0,r1,g1,g0⟩:=ay Q;have H3:=a5 Z O Q kp;clear Z O Q S T U a;go_wp2;obtain ⟨Z,O,Q,hs⟩:=H3.o;obtain ⟨n0,n1,_⟩:=ay (iO (y':=.slice ao m c) (iN (x':=Z7 Z9 z) Q));refine Us (v:=ZY #[.agg #[Z7 Z9 z,.slice ao m c],er]) (by simp [results,results195,go_sem,n0,n1]) rfl ?_;obtain ⟨A,_,a⟩:=H.o;have kb:bW w w3:=a.below.trans (O.mono a.below.size);refine ⟨z,ao,m,c,er,rfl,(kb.setCell (p:=⟨w.heap.size+1,0,ZX⟩) (by show w.heap.size<=w.heap.size+1;omega) _).setCell (p:=⟨w.heap.size+1,1,ZX⟩) (by show w.heap.size<=w.heap.size+1;omega) _,?_⟩;rcases Z with q|⟨q0,s',C,V,u,q3,km⟩
    . exact absurd ks.out q.2.2.2.2.2
    . have hp:(Value.slice ao m c).ownBlock≠ZW (w.heap.size+1):=λe=>by have:=jJ km e;omega
      have ke:=(km.kept (dz w3 (w.heap.size+1) 0 (Z7 Z9 z)) (.inr hp)).kept (dz _ (w.heap.size+1) 1 (.slice ao m c)) (.inr hp);exact .inr ⟨q0,s',C,λi h=>V i (A i h),u,q3,gu ke (by have:=a.below.size;omega)⟩
end
end
structure vU (w w2:ZT) (D L G lost:Int) (rd:Bool):Prop where
 par:w2.heap[w.heap.size]?=ZW (Z4 #[Z7 Z9 D,Z7 Z9 L,Z7 Z9 G,Z7 Z8 lost,Z1 rd] 221 (0,0))
 res:w2.heap[w.heap.size+1]?=ZW (Z4 #[Z7 Z9 0,Z5 ZX 0 0] 206 (0,0))
 below:bW w w2
 size:w.heap.size+2<=w2.heap.size
def vU.new (w:ZT) (D L G lost:Int) (rd:Bool):vU w ((w.alloc (Z4 #[Z7 Z9 D,Z7 Z9 L,Z7 Z9 G,Z7 Z8 lost,Z1 rd] 221)).alloc (Z4 #[Z7 Z9 0,Z5 ZX 0 0] 206)) D L G lost rd:=by
 refine ⟨(UB _ _ _ (by simp)).trans (Ug _ _),?_,(bA w _).alloc (by simp) _,by simp⟩;have:=Ug (w.alloc (Z4 #[Z7 Z9 D,Z7 Z9 L,Z7 Z9 G,Z7 Z8 lost,Z1 rd] 221)) (Z4 #[Z7 Z9 0,Z5 ZX 0 0] 206);rwa [Ul] at this
def vU.mono {D L G:Int} {rd:Bool} (h:vU w w2 D L G lost rd) (a:bW w2 w3):vU w w3 D L G lost rd:=by
 have:=h.size;exact ⟨(a.block _ (by omega)).trans h.par,(a.block _ (by omega)).trans h.res,h.below.trans (a.mono h.below.size),TV h.size a.size⟩
def vU.cells {D L G:Int} {rd:Bool} (h:vU w w2 D L G lost rd):w2.cell? ⟨w.heap.size,0,ZX⟩=ZW (Z7 Z9 D)/\w2.cell? ⟨w.heap.size,1,ZX⟩=ZW (Z7 Z9 L)/\w2.cell? ⟨w.heap.size,2,ZX⟩=ZW (Z7 Z9 G)/\w2.cell? ⟨w.heap.size,3,ZX⟩=ZW (Z7 Z8 lost)/\w2.cell? ⟨w.heap.size,4,ZX⟩=ZW (Z1 rd):=by
 have a:=h.par;simp [World.cell?,a]
def aa.after (a:bW w w2) (b:aa T w2 w3):aa T w w3:=⟨b.os.trans a.os,b.tape.trans a.tape,b.output.trans a.output,TV a.size b.size,λk c d=>(b.block k (T7 c a.size) d).trans (a.block k c)⟩
def nj (D L G s:Nat) (ao:Option Addr) (m c:Nat) (e:ZP):Prop:=e=Z3 (ZY #[.agg #[Z7 Z9 (1+((ab (aw (D+L+G) s)).length:Int)),.slice ao m c],.nilIface])
def py.parts (h:py w sb room):fO w sb room/\(∃ n,w.heap[sb+1]?=ZW (.map #[] n))/\Rv w sb sb/\w.cell? ⟨sb+1+1+1,0,ZX⟩=ZW (Z6 (ZW ⟨sb+1+1,0,ZX⟩)):=by
 refine ⟨h.list,h.map,h.ends,?_⟩;have a:=h.RZ;simp [World.cell?,a]
structure OT (w wx:ZT) (O:List (Int×Nat×Nat×a8)) (gg:Nat):Prop where
 ge:w.heap.size<=gg
 lt:gg<wx.heap.size
 cells:∀ i (hi:i<O.length),wx.cell? ⟨gg,i*2,ZX⟩=ZW (Z7 Z9 O[i].1)/\wx.cell? ⟨gg,i*2+1,ZX⟩=ZW (fx O[i].2)
 row:∀ q∈O,w.heap.size<=q.2.1/\aM wx q.2.1 q.2.2.2/\q.2.2.1<=q.2.2.2.length/\∀ x∈q.2.2.2,x<256
 below:bW w wx
def Lu {vp:ZS} {P:List St} {lost:Nat} {Ms:List (Int×a8)} (C:Ps .u8 w vp P) (z:∀ s∈P,zt s) (x:In w g Dl lost) (B:g<w.heap.size) (y:Dl.length=N) (o:∀ l∈Dl,l.length<=100000) (hl:P.length<=5000) (u:iF regs P N) (r:gE P Dl lost) (ho:dB P Dl (eV regs.toNat (eC P Dl)) P.length=Ms) (i:Ms≠[]) :
 ZQ ZN 146 #[.agg #[Z7 Z9 regs,vp],Z5 (ZW ⟨g,0,ZX⟩) N N] w λe w'=>∃ O b cap,e=Z3 (ZY #[Z5 (ZW ⟨b,0,ZX⟩) O.length cap,.nilIface])/\O.map (λq=>(q.1,q.2.2.2.take q.2.2.1))=Ms/\OT w w' O b:=by
 subst y;refine (NM regs vp P g Dl.length Dl lost w C z x B o hl).mono ?_;rintro e w' ⟨n,_,_,A⟩;obtain ⟨v,O,rfl,f,c⟩:=n u r;rw [ho] at c;rcases f.cases with ⟨d,_⟩|⟨b,cap,rfl,j⟩
 . rw [d] at c;exact absurd c.symm i
 . have p:O≠[]:=λq=>i (by rw [<- c,q];rfl);have t:b<w'.heap.size:=Uf (j 0 (Yh.2 p)).1;refine ⟨O,b,cap,rfl,c,?_,t,j,λq D=>?_,A⟩
   . rcases f.own.2 with ⟨d,_⟩|⟨F,E,cur,a,h,_⟩
     . cases d
     . injection a with a;injection a with a;injection a with a;omega
   . obtain ⟨a,h,k,_,m⟩:=f.row q D;exact ⟨a,h,k,m⟩
def Fd (f0 f:Nat->ZS) (O:List (Int×Nat×Nat×a8)) (k:Nat):Prop:=(∀ i:Nat,(∀ q∈O.take k,q.1≠(i:Int))->f i=f0 i)/\∀ i:Nat,(∃ q∈O.take k,q.1=(i:Int))->∃ q∈O,q.1=(i:Int)/\f i=fx q.2
def aaq (w2:ZT) (r v b g N gone sp:Nat) (f0:Nat->ZS) (O:List (Int×Nat×Nat×a8)) (iv:ZS) (wr:ZT):Prop:=∃ k:Nat,k<=O.length/\iv=Z7 Z9 k/\∃ f,wr.rowIs g 40 N f/\Fd f0 f O k/\eh wr r v b g N gone sp/\aa (λk=>k=g) w2 wr
theorem Fd.step {f0:Nat->ZS} {O:List (Int×Nat×Nat×a8)} {d:Nat} (h:Fd f0 f O k) (g:k<O.length) (c:O[k].1=(d:Int)):Fd f0 (λi=>if i=d then fx O[k].2 else f i) O (k+1):=by
 have j:O.take (k+1)=O.take k++[O[k]]:=by rw [Vd,Uc g];rfl
 constructor
 . intro i b;rw [j] at b;have l:i≠d:=λe=>b O[k] (VM _ (U5.2 rfl)) (by rw [c,e]);show (if i=d then _ else f i)=f0 i;rw [TS l];exact h.1 i λq a=>b q (UF _ a)
 . rintro i ⟨q,a,e⟩;show ∃ q∈O,q.1=(i:Int)/\(if i=d then fx O[k].2 else f i)=fx q.2;by_cases b:i=d
   . rw [TT b];exact ⟨O[k],T6 g,by rw [c,b],rfl⟩
   . rw [TS b];rw [j] at a;rcases Ui.1 a with a|a
     . exact h.2 i ⟨q,a,e⟩
     . rw [U5] at a;rw [a,c] at e;exact absurd (YS e).symm b
structure Lv (w:ZT) (r v b g N gone sp:Nat) (f:Nat->ZS) (M:a8) (R:Nat->a8) (w':ZT):Prop where
 rd:eh w' r v b g N gone sp
 row:∃ f',w'.rowIs g 40 N f'/\(∀ i,i∉M->f' i=f i)/\∀ i,i∈M->∃ bl m l,f' i=Z5 (ZW ⟨bl,0,ZX⟩) m l.length/\w.heap.size<=bl/\m<=l.length/\aM w' bl l/\l.take m=R i/\∀ x∈l,x<256
 out:aa (λk=>k=g) w w'
theorem Lw {P:List St} {pm pc:Nat} {v b lost:Nat} {M:a8} (hr:eh w r v b g N gone sp) (L:w.rowIs g 40 N f) (kz:r≠g) (hp:Ps .u8 w (.slice ao pm pc) P) (hP:∀ s∈P,zt s) (hI:In w g Dl lost) (hN:Dl.length=N) (k6:∀ l∈Dl,l.length<=100000) (hl:P.length<=5000) (K:iF regs P N) (kj:gE P Dl lost) (ho:dB P Dl (eV regs.toNat (eC P Dl)) P.length=M.map (λd:Nat=>((d:Int),R d))) (hM:M≠[]) (km:∀ d∈M,d<N) (q4:M.length<=16) :
 ZQ ZN 114 #[Z6 (ZW ⟨r,0,ZX⟩),.agg #[Z7 Z9 regs,.slice ao pm pc]] w λe w'=>e=Z3 .nilIface/\Lv w r v b g N gone sp f M R w':=by
 obtain ⟨w1,ke⟩:=nM (w.alloc (Z4 #[Z7 Z9 regs,.slice ao pm pc] 206));have a:bW w w1:=by rw [<- ke];exact bA w _
 have kf:w1.heap[w.heap.size]?=ZW (Z4 #[Z7 Z9 regs,.slice ao pm pc] 206 (0,0)):=by rw [<- ke];exact Ug _ _
 have k0:w1.cell? ⟨w.heap.size,0,ZX⟩=ZW (Z7 Z9 regs):=by simp [World.cell?,kf]
 have k1:w1.cell? ⟨w.heap.size,1,ZX⟩=ZW (.slice ao pm pc):=by simp [World.cell?,kf]
 have F:=hr.keep (a.block _ hr.lt);have J:=L.of_block (a.block _ L.lt);have cs:=F.cells.2.2.1;have k7:=Lu (w:=w1.drew) (hp.mono a.drew) hP (hI.mono a.drew) (T7 L.lt a.size) hN k6 hl K kj ho (λq=>hM (List.map_eq_nil_iff.1 q));have HG:=ak (show g<w1.heap.size from T7 L.lt a.size);have H:=a5 a F J k7;clear hr L hp hI a kf F J k7 K kj ho k6 hP hM;go_enter func114,ntmps114;go_upto_region 1 with fail;go_cut [5,6] from 9 to 17 (λv5 v6 wx=>∃ O n cap,v5=Z5 (ZW ⟨n,0,ZX⟩) O.length cap/\v6=.nilIface/\O.map (λq=>(q.1,q.2.2.2.take q.2.2.1))=M.map (λd:Nat=>((d:Int),R d))/\OT w1.drew wx O n)
 case first=>
  go_region_with (go_at_call 146;refine H.o.2.2.2.mono ?_;rintro e w2 ⟨O,n,cap,rfl,x,z⟩;have c:=al x z;clear x z);all_goals (go_wp2_with fail;go_meet;case rel=>exact ⟨O,n,cap,rfl,rfl,c.o.1,c.o.2⟩)
 case rest=>
  rename ZT=>w2;clear k0 k1 cs ke;obtain ⟨O,n,cap,rfl,rfl,x,z⟩:=hcut;obtain ⟨a,F,J,_⟩:=H.o;have V:bW w1 w2:=((TW _ w1).drew).trans z.below;have kk:=F.keep (V.block _ F.lt);have hf:=J.of_block (V.block _ J.lt);have kg:O.length=M.length:=by have:=Uy YM x;simpa using this
  have S:∀ k (Z:k<O.length),∃ d,d∈M/\O[k].1=(d:Int)/\O[k].2.2.2.take O[k].2.2.1=R d:=λk Z=>by
   have e:=Uy (λl=>l[k]?) x;simp only [UG,Uc Z,Uc (show k<M.length by omega),X7,UD,Xm] at e;exact ⟨M[k],T6 _,e.1,e.2⟩
  have c:=hide7 z kk hf (a.trans (V.mono a.size)) x kg S;clear z a F J V kk hf x S;go_wp2;go_loopw [20] (λiv wr=>aaq w2 r v b g N gone sp f O iv wr) (λiv _=>O.length-(intOf iv).toNat)
  case atStart=>exact ⟨0,T8 _,rfl,f,c.o.2.2.1,⟨λ_ _=>rfl,λi ⟨q,Q,_⟩=>by cases Q⟩,c.o.2.1,aa.refl _ _⟩
  case round=>
   rename ZT=>wo;obtain ⟨k,Z,rfl,fk,D,p,G,B⟩:=hrel;by_cases kc:k<O.length
   . obtain ⟨d,ka,E,_⟩:=c.o.2.2.2.2.2.2 k kc;have kp:=km d ka;obtain ⟨q0,q1⟩:=c.o.1.cells k kc;have kh:=HG.o;have kr:n≠g:=(by have:=c.o.1.ge;have:w1.drew.heap.size=w1.heap.size:=rfl;omega);have k5:=c.o.1.lt;have K:=B.block n k5 kr;have d0:wo.cell? ⟨n,k*2,ZX⟩=ZW (Z7 Z9 (d:Int)):=(Uk K).trans (by rw [q0,E]);have d1:wo.cell? ⟨n,k*2+1,ZX⟩=ZW (fx O[k].2):=(Uk K).trans q1;have C:=p.step kc E;obtain ⟨hv,kb⟩:=nM (fx O[k].2);rw [kb] at d1 C;obtain ⟨t,y,u,q2⟩:∃ t y u,hv=.slice t y u:=⟨_,_,_,kb.symm⟩;subst q2;have W:bW wo (wo.alloc (Z4 #[Z7 Z9 (d:Int),.slice t y u] 254)):=bA wo _;have I:(wo.alloc (Z4 #[Z7 Z9 (d:Int),.slice t y u] 254)).heap[wo.heap.size]?=ZW (Z4 #[Z7 Z9 (d:Int),.slice t y u] 254 (0,0)):=Ug _ _;have m:=G.keep (W.block _ G.lt);have h:=D.of_block (W.block _ D.lt);have A:aa (λk=>k=g) w2 (wo.alloc (Z4 #[Z7 Z9 (d:Int),.slice t y u] 254)):=B.trans (aa.RL W _);obtain ⟨w3,T⟩:=nM (wo.alloc (Z4 #[Z7 Z9 (d:Int),.slice t y u] 254));have U:=a7 m h A I C T;clear p C q0 q1 K kb W I m h A G D B E kh k5 T;go_wp2;obtain ⟨m,h,A,I,C,T⟩:=U.o;rw [T] at m h A I ⊢;have k0:w3.cell? ⟨wo.heap.size,0,ZX⟩=ZW (Z7 Z9 d):=(by simp [World.cell?,I]);have k1:w3.cell? ⟨wo.heap.size,1,ZX⟩=ZW (.slice t y u):=(by simp [World.cell?,I]);have cs:=m.cells.2.2.1;have cg:=h.cell (i:=d) kp;have fg:=h.frozen d;have H4:=a5 m h A C;clear m h A I C T U d0 d1;go_region;go_wp2;go_roundw
     case rel=>
      obtain ⟨m,h,A,C⟩:=H4.o;have hO:aa (λk=>k=g) w3 (w3.setCell ⟨g,d,ZX⟩ (.slice t y u)):=aa.setCell _ _ _ rfl;exact ⟨k+1,by omega,by go_num,_,h.set d _,C,m.keep (hO.block _ m.lt kz),A.trans (hO.trans (aa.drew _))⟩
     case measure=>simp [intOf]<;>omega
   . have kv:k=O.length:=(by omega);subst kv;have U:=a5 D p G B;clear D p G B;go_wp2;go_ret;obtain ⟨D,p,G,B⟩:=U.o;obtain ⟨z,_,_,ko,x,kg,S⟩:=c.o;unfold Fd at p;rw [Vu] at p;have q3:=H.o.1.size;refine ⟨rfl,G,⟨fk,D,λi X=>p.1 i λq Q e=>?_,λi X=>?_⟩,(aa.RL ko _).trans B⟩
     . obtain ⟨j,Y,rfl⟩:=US Q;obtain ⟨d,ka,E,_⟩:=S j Y;rw [E] at e;exact X (YS e▸ka)
     . obtain ⟨j,Y,rfl⟩:=US X;have ks:j<O.length:=(by omega);have kx:O[j].1=((M[j]:Nat):Int):=by
        have e:=Uy (λl=>l[j]?) x;simp only [UG,Uc ks,Uc Y,X7,UD,Xm] at e;exact e.1
       obtain ⟨q,Q,e1,e2⟩:=p.2 M[j] ⟨O[j],T6 _,kx⟩;obtain ⟨j2,ki,rfl⟩:=US Q;obtain ⟨d,_,E,ky⟩:=S j2 ki;rw [E] at e1;obtain ⟨r1,r2,r3,r4⟩:=z.row _ (T6 ki);have kh:=HG.o;have q5:w1.drew.heap.size=w1.heap.size:=rfl;exact ⟨_,_,_,e2,by omega,r3,V6 r2 (B.block _ (aM.lt r2) (by omega)),by rw [ky,YS e1],r4⟩
def bU {ps:aN} (a:ps.S w) {k:Nat} {cs:Array ZS} {T:ZO} {z:Nat×Nat} (h:w.heap[k]?=ZW (Z4 cs T z)) (b:¬ jP T):¬ ps.bl k:=λc=>b (ps.kd w a k c cs T z h)
def pX:¬ jP 200:=by unfold jP;decide
def oJ:¬ jP 40:=by unfold jP;decide
def F9 (h:w.ownsRow 0 299 4 v (bS D L G s C).length (eB .u8 (bS D L G s C))) (hl:(bS D L G s C).length<=4398046511104):Ps .u8 w v (bS D L G s C):=Nh h hl
def Rx (a b:Nat) (c:a<65536) (d:b<65536):bits .or .u64 (a:Int) (b:Int)=((a|||b:Nat):Int):=aaV a b (by omega) (by omega)
def It {S l:Nat} (h:S &&& l=0) {i:Nat} (a:S.testBit i=ZV):l.testBit i=ZU:=by
 have:=Uy (λx=>x.testBit i) h;simp only [XA,a,Bool.true_and,V0] at this;exact this
structure Di (D L G:Nat) (Kind:aN->Prop) (ps ps':aN) (lost s:Nat) (C:Ck) (ao:Option Addr) (m c B:Nat) (wx:ZT):Prop where
 kind:Kind ps'
 psE:ps'.ps=ps.ps
 hoE:ps'.ho=ps.ho
 kit:ps'.S wx
 bl:∀ k,ps'.bl k->ps.bl k\/B<=k
 ob:∀ k,(Value.slice ao m c).ownBlock=ZW k->ps.bl k\/B<=k
 own:wx.ownsRow 0 299 4 (.slice ao m c) (bS D L G s C).length (eB .u8 (bS D L G s C))
 Tp:∀ i,lost.testBit i=ZV->s.testBit i=ZV
 told:tells (jI D L G) (ab (aw (D+L+G) s))=ZW C
def Di.keep {Kind:aN->Prop} {ps ps':aN} {lost:Nat} {wy:ZT} (h:Di D L G Kind ps ps' lost s C ao m c B wx) {T:Nat->Prop} (d:aa T wx wy) (f:∀ k,T k->k<B/\¬ ps.bl k):Di D L G Kind ps ps' lost s C ao m c B wy:=
 ⟨h.kind,h.psE,h.hoE,ps'.keep _ _ h.kit λk a=>d.block k (ps'.lt _ h.kit k a) (λq=>by
  have b:=f k q;rcases h.bl k a with e|e
  . exact b.2 e
  . omega),h.bl,h.ob,bR h.own d (λk a q=>by
  have b:=f k q;rcases h.ob k a with e|e
  . exact b.2 e
  . omega),h.Tp,h.told⟩
def Di.mono {Kind:aN->Prop} {ps ps':aN} {lost:Nat} {B':Nat} (h:Di D L G Kind ps ps' lost s C ao m c B wx) (b:B'<=B):Di D L G Kind ps ps' lost s C ao m c B' wx:=
 ⟨h.kind,h.psE,h.hoE,h.kit,λk a=>(h.bl k a).imp id λq=>TV b q,λk a=>(h.ob k a).imp id λq=>TV b q,h.own,h.Tp,h.told⟩
def C5 (r v ps D L G:Nat) (w:ZT):Prop:=w.cell? ⟨r,0,ZX⟩=ZW (Z6 (ZW ⟨v,0,ZX⟩))/\w.cell? ⟨v,1,ZX⟩=ZW (Z7 Z9 (D:Int))/\w.cell? ⟨v,2,ZX⟩=ZW (Z7 Z9 (L:Int))/\w.cell? ⟨v,3,ZX⟩=ZW (Z7 Z9 (G:Int))/\w.cell? ⟨v,4,ZX⟩=ZW (Z6 (ZW ⟨ps,0,ZX⟩))
def Ly {v b:Nat} (hr:eh w r v b g N gone sp) (a:bg w v p D L G ps ho):C5 r v ps D L G w:=by
 obtain ⟨_,c,d,e,f,_⟩:=a.cells;exact ⟨hr.cells.1,c,d,e,f⟩
def eM (x:Nat):Nat:=x/2
def fP (x:Nat):Bool:=decide (x%2=1)
theorem Ga (D L G:Int) {x y:Nat} (h:x≠y) (w:ZT):(Op.equal 221 (bH D L G (eM x:Nat) (fP x)) (bH D L G (eM y:Nat) (fP y))).run ZN w=.ok ZU w:=by
 by_cases a:eM x=eM y
 . have b:fP x≠fP y:=λe=>h (by
    unfold eM at a;unfold fP at e;have:(x%2=1)↔(y%2=1):=by
     constructor
     . intro q;exact WX (by rw [<- e];exact UY q)
     . intro q;exact WX (by rw [e];exact UY q)
    omega)
   have d:(fP x==fP y)=ZU:=(by simp [b]);rw [a];unfold bH Op.equal Op.maxDepth;go_simp
 . have c:(((eM x:Nat):Int)==((eM y:Nat):Int))=ZU:=by
    rw [beq_eq_false_iff_ne];omega
   unfold bH Op.equal Op.maxDepth;go_simp
def dX (D L G:Int) (es:List (Nat×Nat×Nat)):List MapEntry:=es.map λe=>{ key:=bH D L G (eM e.1:Nat) (fP e.1),val:=Z6 (ZW ⟨e.2.1,0,ZX⟩),born:=e.2.2 }
def cM (es:List (Nat×Nat×Nat)):a8:=es.map (·.1)
def CE (D L G:Int) (lost:Nat) (w:ZT):∀ (es:List (Nat×Nat×Nat)) (i:Nat),lost∉cM es->(Instr.findAsking 221 (bH D L G (eM lost:Nat) (fP lost)) (dX D L G es) i).run ZN w=.ok ZX w
 | [],_,_=>by simp [dX,Instr.findAsking]
 | e::es,i,h=>by
  have b:lost≠e.1:=λq=>by
   subst q;exact h (U7 ..)
  have a:=CE D L G lost w es (i+1) (λq=>h (UJ _ q));have c:=Ga D L G b w;unfold dX at a ⊢;simp only [U0,Instr.findAsking,UE,c,UQ];simpa using a
def Lz (D L G:Int) (w:ZT):∀ (es:List (Nat×Nat×Nat)) (i k:Nat) (a:k<es.length),(cM es).Nodup->(Instr.findAsking 221 (bH D L G (eM es[k].1:Nat) (fP es[k].1)) (dX D L G es) i).run ZN w=.ok (ZW (i+k,Z6 (ZW ⟨es[k].2.1,0,ZX⟩))) w
 | [],_,_,a,_=>absurd a (by simp)
 | e::es,i,0,_,_=>by
  have b:=NV D L G (eM e.1:Nat) (fP e.1) w;unfold dX;simp only [U0,Instr.findAsking,UE,aa7,b,UQ];simp
 | e::es,i,k+1,a,f=>by
  have c:k<es.length:=by simpa using a
  have g:es[k].1≠e.1:=λq=>(YE.1 f).1 (T9.2 ⟨es[k],T6 c,q⟩);have d:=Lz D L G w es (i+1) k c (YE.1 f).2;have b:=Ga D L G g w;unfold dX at d ⊢;simp only [U0,Instr.findAsking,UE,X1,b,UQ];rw [show i+(k+1)=i+1+k by omega];simpa using d
def CG (k:ZS) (x:MapEntry) (es:List MapEntry) (f:Array Field) (i:Nat):Instr.findNow (.struct f) k (x::es) i=ZX:=by
 simp [Instr.findNow,Instr.sameNow]
def yA (D L G:Int) {lost:Nat} {es:List (Nat×Nat×Nat)} (h:lost∉cM es) (w:ZT):(Instr.findKey 221 (bH D L G (eM lost:Nat) (fP lost)) (dX D L G es)).run ZN w=.ok ZX w:=by
 have a:=CE D L G lost w es 0 h;cases es with
 | nil=>simp [dX,Instr.findKey,Instr.findNow,UL abf]
 | cons e es=>
  unfold dX at a ⊢;simp only [U0] at a ⊢;simp only [Instr.findKey,UE,UL abf,UQ,CG];exact a
def Gb (D L G:Int) {es:List (Nat×Nat×Nat)} {k:Nat} (b:k<es.length) (c:(cM es).Nodup) (w:ZT):(Instr.findKey 221 (bH D L G (eM es[k].1:Nat) (fP es[k].1)) (dX D L G es)).run ZN w=.ok (ZW (k,Z6 (ZW ⟨es[k].2.1,0,ZX⟩))) w:=by
 have a:=Lz D L G w es 0 k b c;rw [Uj] at a;cases es with
 | nil=>exact absurd b (by simp)
 | cons e es=>
  unfold dX at a ⊢;simp only [U0] at a ⊢;simp only [Instr.findKey,UE,UL abf,UQ,CG];exact a
def LA {D L G:Int} (h:w.heap[m]?=ZW (.map (dX D L G es).toArray n)) {lost:Nat} (hl:lost∉cM es):(Instr.lookup 262 (.map (ZW m)) (bH D L G (eM lost:Nat) (fP lost)) ZV).run ZN w=.ok (ZY #[.pointer ZX,Z1 ZU]) w:=by
 have a:=uD h;have b:=λe=>oI e D L G (eM lost:Nat) (fP lost) w;have c:=yA D L G hl w;simp [Instr.lookup,UL Ym,a,b,c]
def NY {D L G:Int} (h:w.heap[m]?=ZW (.map (dX D L G es).toArray n)) {k:Nat} (d:k<es.length) (f:(cM es).Nodup):(Instr.lookup 262 (.map (ZW m)) (bH D L G (eM es[k].1:Nat) (fP es[k].1)) ZV).run ZN w=.ok (ZY #[Z6 (ZW ⟨es[k].2.1,0,ZX⟩),Z1 ZV]) w:=by
 have a:=uD h;have b:=λe=>oI e D L G (eM es[k].1:Nat) (fP es[k].1) w;have c:=Gb D L G d f w;simp [Instr.lookup,UL Ym,a,b,c]
def NZ {D L G:Int} (h:w.heap[m]?=ZW (.map (dX D L G es).toArray n)) {lost:Nat} (hl:lost∉cM es) (nb:Nat):(Instr.mapUpdate 262 (.map (ZW m)) (bH D L G (eM lost:Nat) (fP lost)) (Z6 (ZW ⟨nb,0,ZX⟩))).run ZN w=.ok () (w.putObj m (.map (dX D L G (es++[(lost,nb,n)])).toArray (n+1))):=by
 have a:=uD h;have b:=oI ZU D L G (eM lost:Nat) (fP lost) w;have c:=yA D L G hl w;have d:(dX D L G es).toArray.push { key:=bH D L G (eM lost:Nat) (fP lost),val:=Z6 (ZW ⟨nb,0,ZX⟩),born:=n }=(dX D L G (es++[(lost,nb,n)])).toArray:=by simp [dX]
 simp [Instr.mapUpdate,UL Ym,a,b,c,Lt h,d]
def yB (D L G:Int):∀ (es:List (Nat×Nat×Nat)) (k:Nat),(dX D L G es).eraseIdx k=dX D L G (es.eraseIdx k)
 | [],_=>rfl
 | _::_,0=>rfl
 | e::es,k+1=>by
  have h:=yB D L G es k;unfold dX at h ⊢;simp only [U0,List.eraseIdx_cons_succ,h]
def Qp {D L G:Int} (h:w.heap[m]?=ZW (.map (dX D L G es).toArray n)) {k:Nat} (d:k<es.length) (f:(cM es).Nodup) (t:ZO):(Builtin.delete_ #[262,221] t #[.map (ZW m),bH D L G (eM es[k].1:Nat) (fP es[k].1)]).run ZN w=.ok (ZY #[]) (w.putObj m (.map (dX D L G (es.eraseIdx k)).toArray n)):=by
 have a:=uD h;have b:=λe=>oI e D L G (eM es[k].1:Nat) (fP es[k].1) w;have c:=Gb D L G d f w;simp [Builtin.delete_,UL Ym,a,b,c,Lt h,yB]
def N0 {D L G:Int} (h:w.heap[m]?=ZW (.map (dX D L G es).toArray n)) (t:ZO):(Builtin.len_ #[262] t #[.map (ZW m)]).run ZN w=.ok (Z7 Z9 (es.length:Nat)) w:=by
 have a:=uD h;simp [Builtin.len_,UL Ym,a,dX,goInt]
structure EG where
 D:Int
 L:Int
 G:Int
 lost:Int
 rd:Bool
 regs:Int
 steps:ZS
def oS (w:ZT) (S:Nat->Prop) (cn:Nat->EG) (nw ol:Nat->Nat):Prop:=∀ a,S a->ju w a (cn a).D (cn a).L (cn a).G (cn a).lost (cn a).rd (cn a).regs (cn a).steps (Z6 (ZW ⟨nw a,0,ZX⟩)) (Z6 (ZW ⟨ol a,0,ZX⟩))
def ig (f:Nat->Nat) (a x:Nat):Nat->Nat:=λb=>if b=a then x else f b
def eF (f:Nat->Nat) (a x:Nat):ig f a x a=x:=TT rfl
def eN {f:Nat->Nat} {a b:Nat} (x:Nat) (h:b≠a):ig f a x b=f b:=TS h
def oS.SQ {cn:Nat->EG} (h:oS w S cn nw ol) (a x:Nat):oS (w.setCell ⟨a,7,ZX⟩ (Z6 (ZW ⟨x,0,ZX⟩))) S cn (ig nw a x) ol:=λb c=>by
 by_cases e:b=a
 . subst e;rw [eF];exact (h b c).SQ _
 . rw [eN x e];exact (h b c).keep (Ud _ _ _ _ e)
def oS.SM {cn:Nat->EG} (h:oS w S cn nw ol) (a x:Nat):oS (w.setCell ⟨a,8,ZX⟩ (Z6 (ZW ⟨x,0,ZX⟩))) S cn nw (ig ol a x):=λb c=>by
 by_cases e:b=a
 . subst e;rw [eF];exact (h b c).SM _
 . rw [eN x e];exact (h b c).keep (Ud _ _ _ _ e)
def oS.keep {cn:Nat->EG} (h:oS w S cn nw ol) (d:aa T w w') (e:∀ a,S a->¬ T a):oS w' S cn nw ol:=λb c=>(h b c).keep (d.block b (h b c).lt (e b c))
theorem rh {cn:Nat->EG} (h:oS w S cn nw ol) {n:Nat} (c:S n) (a:S (nw n)) (b:S (ol n)) :
 ZQ ZN 193 #[Z6 (ZW ⟨n,0,ZX⟩)] w λe w'=>e=Z3 (ZY #[])/\oS w' S cn (ig nw (ol n) (nw n)) (ig ol (nw n) (ol n))/\aa S w w':=by
 obtain ⟨d,f,_,_⟩:=(h n c).cells;obtain ⟨_,g,_,j⟩:=(h _ a).cells;obtain ⟨i,_,k,_⟩:=((h.SM (nw n) (ol n)) _ b).cells;have H:=aE ((h.SM (nw n) (ol n)).SQ (ol n) (nw n)) a b;clear h a b c;generalize nw n=x at *;generalize ol n=y at *;generalize ol x=z at *;generalize nw y=l at *;go_enter func193,ntmps193;go_region;go_end0
 exact ⟨rfl,H.o.1,((aa.setCell _ _ _ H.o.2.1).trans (aa.setCell _ _ _ H.o.2.2)).trans (aa.drew _)⟩
theorem Af {cn:Nat->EG} (hl:fO w sb room) (h:oS w S cn nw ol) {n:Nat} (a:S n) (c:S sb) (ho:S (ol sb)) :
 ZQ ZN 194 #[Z6 (ZW ⟨sb+1+1,0,ZX⟩),Z6 (ZW ⟨n,0,ZX⟩)] w λe w'=>e=Z3 (ZY #[])/\oS w' S cn (ig (ig nw n sb) (ol sb) n) (ig (ig ol n (ol sb)) sb n)/\aa S w w':=by
 have q:=(gw hl).2.2;obtain ⟨k,_,b7,_⟩:=(h n a).cells;obtain ⟨_,p,_,_⟩:=(h sb c).cells;have d:=h.SQ n sb;obtain ⟨_,l,_,m⟩:=(d n a).cells;have i:=d.SM n (ol sb);obtain ⟨w2,g⟩:=nM (((w.setCell ⟨n,7,ZX⟩ (Z6 (ZW ⟨sb,0,ZX⟩))).setCell ⟨n,8,ZX⟩ (Z6 (ZW ⟨ol sb,0,ZX⟩))).drew);have b:oS w2 S cn (ig nw n sb) (ig ol n (ol sb)):=by rw [<- g];exact i
 have j:aa S w w2:=by rw [<- g];exact ((aa.setCell _ _ _ a).trans (aa.setCell _ _ _ a)).trans (aa.drew _)
 obtain ⟨r,s,_,_⟩:=(b n a).cells;rw [eF] at r s;have f:=b.SM sb n;obtain ⟨_,t,_,t8⟩:=(b sb c).cells;obtain ⟨u,_,v,_⟩:=(f (ol sb) ho).cells;have H:=a5 (f.SQ (ol sb) n) j c ho;clear h d i b f hl a c ho j;generalize ol sb=y at *;generalize ig ol n y sb=z at *;generalize ig nw n sb y=x at *;generalize nw n=A at *;generalize ol n=B at *;go_enter func194,ntmps194;go_wp2;go_region;clear g k b7 p l m q;go_wp2;go_region;go_end0
 exact ⟨rfl,H.o.1,H.o.2.1.trans (((aa.setCell _ _ _ H.o.2.2.1).trans (aa.setCell _ _ _ H.o.2.2.2)).trans (aa.drew _))⟩
def vw (nw ol:Nat->Nat):Nat->a8->Nat->Prop
 | a,[],b=>ol a=b/\nw b=a
 | a,n::ns,b=>(ol a=n/\nw n=a)/\vw nw ol n ns b
theorem vw.congr {nw' ol':Nat->Nat}:∀ {ns:a8} {a b:Nat},vw nw ol a ns b->(∀ x∈a::ns,ol' x=ol x)->(∀ x∈ns++[b],nw' x=nw x)->vw nw' ol' a ns b
 | [],a,b,h,c,d=>⟨(c a (U7 ..)).trans h.1,(d b (by simp)).trans h.2⟩
 | n::ns,a,b,h,c,d=>⟨⟨(c a (U7 ..)).trans h.1.1,(d n (by simp)).trans h.1.2⟩,vw.congr h.2 (λx e=>c x (UJ _ e)) (λx e=>d x (by rw [UX];exact UJ _ e))⟩
def vw.Sc {ns:a8} {a b:Nat} (h:vw nw ol a ns b):ol a=b/\ns=[]\/ol a∈ns:=by
 cases ns with
 | nil=>exact .inl ⟨h.1,rfl⟩
 | cons n ns=>exact .inr (by rw [h.1.1];exact U7 ..)
def vw.last:∀ {ns:a8} {a b:Nat},vw nw ol a ns b->(c:ns≠[])->nw b=ns.getLast c
 | [],_,_,_,c=>absurd rfl c
 | [_],_,_,h,_=>h.2.2
 | _::m::ns,_,_,h,_=>by rw [List.getLast_cons (by simp)];exact vw.last h.2 (by simp)
theorem vw.put {ns:a8} (h:vw nw ol sb ns sb) (d:(sb::ns).Nodup) (c:n∉sb::ns):vw (ig (ig nw n sb) (ol sb) n) (ig (ig ol n (ol sb)) sb n) sb (n::ns) sb:=by
 have b:n≠sb:=λe=>c (e▸U7 ..);have j:n≠ol sb:=λe=>by
  rcases h.Sc with q|q
  . exact b (e.trans q.1)
  . exact c (UJ _ (e▸q))
 refine ⟨⟨eF _ _ _,by rw [eN _ j,eF]⟩,?_⟩;cases ns with
 | nil=>exact ⟨by rw [eN _ b,eF];exact h.1,by rw [h.1,eF]⟩
 | cons m o=>
  have f:=h.1.1;refine ⟨⟨by rw [eN _ b,eF];exact f,by rw [f,eF]⟩,h.2.congr (λx a=>?_) (λx a=>?_)⟩
  . have g:x≠sb:=λe=>(YE.1 d).1 (e▸a);have i:x≠n:=λe=>c (UJ _ (e▸a));rw [eN _ g,eN _ i]
  . have k:x≠m:=λe=>by
     subst e;rcases Ui.1 a with q|q
     . exact (YE.1 (YE.1 d).2).1 q
     . rw [U5] at q;subst q;exact (YE.1 d).1 (U7 ..)
    have l:x≠n:=λe=>by
     subst e;rcases Ui.1 a with q|q
     . exact c (UJ _ (UJ _ q))
     . rw [U5] at q;exact b q
    rw [f,eN _ k,eN _ l]
theorem vw.take {r:a8}:∀ {l:a8} {a b:Nat},vw nw ol a (l++n::r) b->(a::(l++n::r)).Nodup->b∉l++n::r->vw (ig nw (ol n) (nw n)) (ig ol (nw n) (ol n)) a (l++r) b/\nw n∈a::l/\(ol n∈r\/ol n=b)
 | [],a,b,h,j,i=>by
  have d:(ol a=n/\nw n=a)/\vw nw ol n r b:=h;obtain ⟨⟨_,t⟩,g⟩:=d;rw [t];refine ⟨?_,U7 ..,g.Sc.elim (λq=>.inr q.1) .inl⟩;cases r with
  | nil=>exact ⟨by rw [eF];exact g.1,by rw [g.1,eF]⟩
  | cons m rs=>
   have k:=g.1.1;have f:=(YE.1 (YE.1 j).2).2;refine ⟨⟨by rw [eF];exact k,by rw [k,eF]⟩,g.2.congr (λx o=>?_) (λx o=>?_)⟩
   . exact eN _ λe=>(YE.1 j).1 (by rw [<- e];exact UJ _ o)
   . rw [k];refine eN _ λe=>?_;subst e;rcases Ui.1 o with q|q
     . exact (YE.1 f).1 q
     . rw [U5] at q;subst q;exact i (by simp)
 | c::l,a,b,h,j,i=>by
  have d:(ol a=c/\nw c=a)/\vw nw ol c (l++n::r) b:=h;have f:=YE.1 j;obtain ⟨u,p,s⟩:=vw.take d.2 f.2 (λq=>i (UJ _ q));refine ⟨⟨⟨?_,?_⟩,u⟩,UJ _ p,s⟩
  . rw [eN _ λe=>f.1 (by
     rw [e];rcases Uw.1 p with q|q
     . rw [q];exact U7 ..
     . exact UJ _ (UF _ q))]
    exact d.1.1
  . rw [eN _ λe=>by
     rcases s with q|q
     . exact (YE.1 f.2).1 (by rw [e];exact VM _ (UJ _ q))
     . exact i (by rw [<- q,<- e];exact U7 ..)]
    exact d.1.2
theorem EH (hl:fO w sb room) {D L G:Int} {es:List (Nat×Nat×Nat)} (i:w.heap[sb+1]?=ZW (.map (dX D L G es).toArray n)) {x:Nat} (y:x∉cM es) :
 ZQ ZN 173 #[Z6 (ZW ⟨sb+1+1,0,ZX⟩),bH D L G (eM x:Nat) (fP x)] w λe w'=>e=Z3 (ZY #[.agg #[Z7 Z9 0,Z5 ZX 0 0],Z1 ZU])/\bW w w':=by
 have l1:w.cell? ⟨sb+1+1,1,ZX⟩=ZW (.map (ZW (sb+1))):=by
  have u:w.heap[sb+1+1]?=_:=hl;simp [World.cell?,u]
 have k:∀ w',bW w w'->(Instr.lookup 262 (.map (ZW (sb+1))) (bH D L G (eM x:Nat) (fP x)) ZV).run ZN w'=.ok (ZY #[.pointer ZX,Z1 ZU]) w':=λw' z=>LA ((z.block _ (T5.1 i).1).trans i) y;obtain ⟨w2,f⟩:=nM ((w.alloc (Z4 #[Z7 Z9 D,Z7 Z9 L,Z7 Z9 G,Z7 Z8 (eM x:Nat),Z1 (fP x)] 221)).alloc (Z4 #[Z7 Z9 0,Z5 ZX 0 0] 206));have a:bW w w2:=by rw [<- f];exact (bA w _).alloc (by simp) _
 have d:w2.heap[w.heap.size]?=ZW (Z4 #[Z7 Z9 D,Z7 Z9 L,Z7 Z9 G,Z7 Z8 (eM x:Nat),Z1 (fP x)] 221 (0,0)):=by rw [<- f];exact (UB _ _ _ (by simp)).trans (Ug _ _)
 have c0:w2.cell? ⟨w.heap.size,0,ZX⟩=ZW (Z7 Z9 D):=by simp [World.cell?,d]
 have c1:w2.cell? ⟨w.heap.size,1,ZX⟩=ZW (Z7 Z9 L):=by simp [World.cell?,d]
 have r:w2.cell? ⟨w.heap.size,2,ZX⟩=ZW (Z7 Z9 G):=by simp [World.cell?,d]
 have s:w2.cell? ⟨w.heap.size,3,ZX⟩=ZW (Z7 Z8 (eM x:Nat)):=by simp [World.cell?,d]
 have t:w2.cell? ⟨w.heap.size,4,ZX⟩=ZW (Z1 (fP x)):=by simp [World.cell?,d]
 have h:w2.heap[w.heap.size+1]?=ZW (Z4 #[Z7 Z9 0,Z5 ZX 0 0] 206 (0,0)):=by
  have:=Ug (w.alloc (Z4 #[Z7 Z9 D,Z7 Z9 L,Z7 Z9 G,Z7 Z8 (eM x:Nat),Z1 (fP x)] 221)) (Z4 #[Z7 Z9 0,Z5 ZX 0 0] 206);rw [Ul] at this;rw [<- f];exact this
 have A:=(a.cell (p:=⟨sb+1+1,1,ZX⟩) (Uf l1)).trans l1;have j:=k w2.drew a.drew;unfold bH at j ⊢;have c:w2.heap.size=w.heap.size+2:=by rw [<- f];simp
 have H:=aE a h c;clear hl i k a d h c;go_enter func173,ntmps173;go_wp2;go_region;obtain ⟨a,h,c⟩:=H.o;have b:bW w2 (w2.drew.alloc (Z4 #[Z7 Z9 0,Z5 ZX 0 0] 206)):=((TW _ w2).drew).alloc lR _;obtain ⟨w3,m⟩:=nM (w2.drew.alloc (Z4 #[Z7 Z9 0,Z5 ZX 0 0] 206));rw [m] at b;have g:=(b.block (w.heap.size+1) (by omega)).trans h;obtain ⟨F,I,E,C⟩:=ay g;have l:w3.heap[w2.heap.size]?=ZW (Z4 #[Z7 Z9 0,Z5 ZX 0 0] 206 (0,0)):=by rw [<- m];exact Ug w2.drew _
 obtain ⟨J,K,_,_⟩:=ay l;have q:=a5 g b a c;clear a h c b g l c0 c1 r s t l1 A j f;go_wp2;obtain ⟨g,b,a,c⟩:=q.o;obtain ⟨n0,B,_⟩:=ay (iO (y':=Z5 ZX 0 0) (iN (x':=Z7 Z9 0) g));refine Us (v:=ZY #[.agg #[Z7 Z9 0,Z5 ZX 0 0],Z1 ZU]) (by simp [results,results173,go_sem,n0,B]) rfl ?_;exact ⟨rfl,((a.trans (b.mono a.size)).setCell (p:=⟨w.heap.size+1,0,ZX⟩) (by show w.heap.size<=w.heap.size+1;omega) _).setCell (p:=⟨w.heap.size+1,1,ZX⟩) (by show w.heap.size<=w.heap.size+1;omega) _⟩
theorem Iu {D L G:Int} {cn:Nat->EG} (hl:fO w sb room) (J:w.heap[sb+1]?=ZW (.map (dX D L G es).toArray n)) (I:k<es.length) (P:(cM es).Nodup) (Z:es[k].1=x) (Q:es[k].2.1=nb) (h:oS w S cn nw ol) (l:∀ a,S a->a≠sb+1/\a≠sb+1+1) (f:S nb) (N:S (nw nb)) (E:S (ol nb)) (r:S sb) (O:S (ol sb)) (p:cn nb=⟨D,L,G,(eM x:Nat),fP x,regs,.slice ao m c⟩) :
 ZQ ZN 173 #[Z6 (ZW ⟨sb+1+1,0,ZX⟩),bH D L G (eM x:Nat) (fP x)] w λe w'=>e=Z3 (ZY #[.agg #[Z7 Z9 regs,.slice ao m c],Z1 ZV])/\oS w' S cn (ig (ig (ig nw (ol nb) (nw nb)) nb sb) (ig ol (nw nb) (ol nb) sb) nb) (ig (ig (ig ol (nw nb) (ol nb)) nb (ig ol (nw nb) (ol nb) sb)) sb nb)/\aa S w w':=by
 obtain ⟨w2,A⟩:=nM ((w.alloc (Z4 #[Z7 Z9 D,Z7 Z9 L,Z7 Z9 G,Z7 Z8 (eM x:Nat),Z1 (fP x)] 221)).alloc (Z4 #[Z7 Z9 0,Z5 ZX 0 0] 206));have b:bW w w2:=by rw [<- A];exact (bA w _).alloc (by simp) _
 have i:w2.heap.size=w.heap.size+2:=by rw [<- A];simp
 have u:w2.heap[w.heap.size]?=ZW (Z4 #[Z7 Z9 D,Z7 Z9 L,Z7 Z9 G,Z7 Z8 (eM x:Nat),Z1 (fP x)] 221 (0,0)):=by rw [<- A];exact (UB _ _ _ (by simp)).trans (Ug _ _)
 have c0:w2.cell? ⟨w.heap.size,0,ZX⟩=ZW (Z7 Z9 D):=by simp [World.cell?,u]
 have c1:w2.cell? ⟨w.heap.size,1,ZX⟩=ZW (Z7 Z9 L):=by simp [World.cell?,u]
 have c2:w2.cell? ⟨w.heap.size,2,ZX⟩=ZW (Z7 Z9 G):=by simp [World.cell?,u]
 have c3:w2.cell? ⟨w.heap.size,3,ZX⟩=ZW (Z7 Z8 (eM x:Nat)):=by simp [World.cell?,u]
 have c4:w2.cell? ⟨w.heap.size,4,ZX⟩=ZW (Z1 (fP x)):=by simp [World.cell?,u]
 have s:w2.heap[w.heap.size+1]?=ZW (Z4 #[Z7 Z9 0,Z5 ZX 0 0] 206 (0,0)):=by
  have:=Ug (w.alloc (Z4 #[Z7 Z9 D,Z7 Z9 L,Z7 Z9 G,Z7 Z8 (eM x:Nat),Z1 (fP x)] 221)) (Z4 #[Z7 Z9 0,Z5 ZX 0 0] 206);rw [Ul] at this;rw [<- A];exact this
 have hll:sb+1+1<w.heap.size:=(T5.1 hl).1;have g:fO w2 sb room:=(b.block _ hll).trans hl;have l1:=(gw g).2.1;have R:oS w2 S cn nw ol:=λa t=>(h a t).keep (b.block _ (h a t).lt);have d:∀ a,S a->a<w.heap.size:=λa t=>(h a t).lt;have K:=NY (w:=w2.drew) ((b.block _ (T5.1 J).1).trans J) I P;rw [Z,Q] at K;have X:=rh (w:=w2.drew) (show oS w2.drew S cn nw ol from R) f N E;have j:S (ig ol (nw nb) (ol nb) sb):=by
  by_cases e:sb=nw nb
  . rw [e,eF];exact E
  . rw [eN _ e];exact O
 unfold bH at K ⊢;have H:=hide12 b s i g d l f r j p hll X;clear hl J h b u s i g R X l f N E r O j p d P I Z Q hll;go_enter func173,ntmps173;go_wp2;go_region;clear c0 c1 c2 c3 c4 l1 K A;go_wp2_with fail;refine H.o.2.2.2.2.2.2.2.2.2.2.2.mono ?_;rintro e w3 ⟨rfl,T,hr⟩;obtain ⟨b,s,i,g,d,l,f,r,j,p,hll,_⟩:=H.o;have F:aa S w2 w3:=(aa.drew w2).trans hr;have W:=Af (w:=w3) (n:=nb) (show fO w3 sb room from (F.block _ (by omega) (λq=>(l _ q).2 rfl)).trans g) T f r j;have M:=al F W;clear b s i g d l f r j p T hr F W hll;go_wp2_with fail;refine M.o.2.mono ?_;rintro e C ⟨rfl,z,U⟩;obtain ⟨b,s,i,g,d,l,f,r,j,p,hll,_⟩:=H.o;have y:aa S w2 C:=M.o.1.trans U;have B:=(y.block (w.heap.size+1) (by omega) (λq=>by have:=d _ q;omega)).trans s;have Y:=(z nb f).value;rw [p] at Y;obtain ⟨v5,v6⟩:=Y;obtain ⟨r0,r1,g1,g0⟩:=ay B;have H4:=a7 z y B b i d;clear b s i g d l f r j p z U y B hll;go_wp2;obtain ⟨z,y,B,b,i,d⟩:=H4.o;obtain ⟨n0,n1,_⟩:=ay (iO (y':=.slice ao m c) (iN (x':=Z7 Z9 regs) B));refine Us (v:=ZY #[.agg #[Z7 Z9 regs,.slice ao m c],Z1 ZV]) (by simp [results,results173,go_sem,n0,n1]) rfl ?_;have V:aa (λk=>k=w.heap.size+1) C ((C.setCell ⟨w.heap.size+1,0,ZX⟩ (Z7 Z9 regs)).setCell ⟨w.heap.size+1,1,ZX⟩ (.slice ao m c)):=fM C (w.heap.size+1) 0 1 _ _;exact ⟨rfl,z.keep V (λa t e=>by have:=d a t;omega),((aa.RL b _).trans y).later V (λk I q=>by omega)⟩
theorem Ag {cn:Nat->EG} (hl:fO w sb room) {n:Nat} {ne0 k:ZS} (j:ju w n (cn n).D (cn n).L (cn n).G (cn n).lost (cn n).rd (cn n).regs (cn n).steps ne0 k) (h:oS w (λa=>S a/\a≠n) cn nw ol) (c:S n) (d:S sb) (p:sb≠n) (ho:S (ol sb)) :
 ZQ ZN 194 #[Z6 (ZW ⟨sb+1+1,0,ZX⟩),Z6 (ZW ⟨n,0,ZX⟩)] w λe w'=>e=Z3 (ZY #[])/\oS w' S cn (ig (ig nw n sb) (ol sb) n) (ig (ig ol n (ol sb)) sb n)/\aa S w w':=by
 have v:=(gw hl).2.2;obtain ⟨q,_,b7,_⟩:=j.cells;obtain ⟨_,t,_,_⟩:=(h sb ⟨d,p⟩).cells;have g:=j.SQ (Z6 (ZW ⟨sb,0,ZX⟩));obtain ⟨_,r,_,s⟩:=g.cells;have l:oS ((w.setCell ⟨n,7,ZX⟩ (Z6 (ZW ⟨sb,0,ZX⟩))).setCell ⟨n,8,ZX⟩ (Z6 (ZW ⟨ol sb,0,ZX⟩))) S cn (ig nw n sb) (ig ol n (ol sb)):=λa u=>by
  by_cases e:a=n
  . subst e;rw [eF,eF];exact g.SM _
  . rw [eN _ e,eN _ e];exact ((h a ⟨u,e⟩).keep (Ud _ _ _ _ e)).keep (Ud _ _ _ _ e)
 obtain ⟨w2,i⟩:=nM (((w.setCell ⟨n,7,ZX⟩ (Z6 (ZW ⟨sb,0,ZX⟩))).setCell ⟨n,8,ZX⟩ (Z6 (ZW ⟨ol sb,0,ZX⟩))).drew);have b:oS w2 S cn (ig nw n sb) (ig ol n (ol sb)):=by rw [<- i];exact l
 have m:aa S w w2:=by rw [<- i];exact ((aa.setCell _ _ _ c).trans (aa.setCell _ _ _ c)).trans (aa.drew _)
 obtain ⟨x,A,_,_⟩:=(b n c).cells;rw [eF] at x A;have f:=b.SM sb n;obtain ⟨_,B,_,t8⟩:=(b sb d).cells;obtain ⟨C,_,E,_⟩:=(f (ol sb) ho).cells;have H:=a5 (f.SQ (ol sb) n) m d ho;clear h g l b f hl j d ho m c p;generalize ol sb=y at *;generalize ig ol n y sb=z at *;generalize ig nw n sb y=F at *;go_enter func194,ntmps194;go_wp2;go_region;clear i q b7 t r s v;go_wp2;go_region;go_end0
 exact ⟨rfl,H.o.1,H.o.2.1.trans (((aa.setCell _ _ _ H.o.2.2.1).trans (aa.setCell _ _ _ H.o.2.2.2)).trans (aa.drew _))⟩
def cnN (cn:Nat->EG) (N:Nat) (c:EG):Nat->EG:=λa=>if a=N then c else cn a
def ju.key {D L G:Int} {rd:Bool} {steps ol:ZS} (h:ju w n D L G lost rd regs steps ne ol):w.cell? ⟨n,0,ZX⟩=ZW (Z7 Z9 D)/\w.cell? ⟨n,1,ZX⟩=ZW (Z7 Z9 L)/\w.cell? ⟨n,2,ZX⟩=ZW (Z7 Z9 G)/\w.cell? ⟨n,3,ZX⟩=ZW (Z7 Z8 lost)/\w.cell? ⟨n,4,ZX⟩=ZW (Z1 rd):=by
 have a:w.heap[n]?=ZW (Z4 (mL D L G lost rd regs steps ne ol) 261 (0,0)):=h;simp [World.cell?,a,mL]
def OU (w':ZT) (sb:Nat) (room:Int) (D L G:Int) (es:List (Nat×Nat×Nat)) (S:Nat->Prop) (cn:Nat->EG) (nw ol:Nat->Nat):Prop:=
 (((es.length:Nat):Int)<=room->(∃ n,w'.heap[sb+1]?=ZW (.map (dX D L G es).toArray n))/\oS w' S cn nw ol) /\
 (room<((es.length:Nat):Int)->∃ j,∃ hj:j<es.length,es[j].2.1=nw sb/\(∃ n,w'.heap[sb+1]?=ZW (.map (dX D L G (es.eraseIdx j)).toArray n))/\oS w' S cn (ig nw (ol (nw sb)) (nw (nw sb))) (ig ol (nw (nw sb)) (ol (nw sb))))
theorem EJ {D L G:Int} {cn:Nat->EG} (hl:fO w sb room) (hm:w.heap[sb+1]?=ZW (.map (dX D L G es).toArray n)) (q2:x∉cM es) (h:oS w S cn nw ol) (g:∀ a,S a->a≠sb+1/\a≠sb+1+1) (v:S sb) (E:S (ol sb)) {N:Nat} (hN:N=w.heap.size+1+1) {cn':Nat->EG} (k5:cn'=cnN cn N ⟨D,L,G,(eM x:Nat),fP x,regs,.slice ao m c⟩) {nw' l:Nat->Nat} (k8:nw'=ig (ig nw N sb) (ol sb) N) (k9:l=ig (ig ol N (ol sb)) sb N) {b:List (Nat×Nat×Nat)} (k6:b=es++[(x,N,n)])
 (hB:room<((b.length:Nat):Int)->(cM b).Nodup/\∃ j,∃ hj:j<b.length,b[j].2.1=nw' sb/\(∃ rg st,cn' (nw' sb)=⟨D,L,G,(eM b[j].1:Nat),fP b[j].1,rg,st⟩)/\(nw' sb=N\/S (nw' sb))/\(nw' (nw' sb)=N\/S (nw' (nw' sb)))/\(l (nw' sb)=N\/S (l (nw' sb)))) :
 ZQ ZN 175 #[Z6 (ZW ⟨sb+1+1,0,ZX⟩),bH D L G (eM x:Nat) (fP x),.agg #[Z7 Z9 regs,.slice ao m c]] w λe w'=>e=Z3 (ZY #[])/\OU w' sb room D L G b (λa=>a=N\/S a) cn' nw' l/\aa (λk=>S k\/k=sb+1) w w':=by
 subst hN;obtain ⟨w3,ki⟩:=nM (((w.alloc (Z4 #[Z7 Z9 D,Z7 Z9 L,Z7 Z9 G,Z7 Z8 (eM x:Nat),Z1 (fP x)] 221)).alloc (Z4 #[Z7 Z9 regs,.slice ao m c] 206)).alloc (Z4 #[Z7 Z9 D,Z7 Z9 L,Z7 Z9 G,Z7 Z8 (eM x:Nat),Z1 (fP x),Z7 Z9 regs,.slice ao m c,.pointer ZX,.pointer ZX] 261));have d:bW w w3:=by rw [<- ki];exact ((bA w _).alloc (by simp) _).alloc (by simp;omega) _
 obtain ⟨O,_,hn⟩:=mM w (Z4 #[Z7 Z9 D,Z7 Z9 L,Z7 Z9 G,Z7 Z8 (eM x:Nat),Z1 (fP x)] 221) (Z4 #[Z7 Z9 regs,.slice ao m c] 206) (Z4 #[Z7 Z9 D,Z7 Z9 L,Z7 Z9 G,Z7 Z8 (eM x:Nat),Z1 (fP x),Z7 Z9 regs,.slice ao m c,.pointer ZX,.pointer ZX] 261);rw [ki] at O hn;have J:ju w3 (w.heap.size+1+1) D L G (eM x:Nat) (fP x) regs (.slice ao m c) (.pointer ZX) (.pointer ZX):=hn;have hll:sb+1+1<w.heap.size:=(T5.1 hl).1;have p:fO w3 sb room:=(d.block _ hll).trans hl;have kx:=(d.block _ (by omega)).trans hm;have P:oS w3 S cn nw ol:=λa f=>(h a f).keep (d.block _ (h a f).lt);have s:∀ a,S a->a<w.heap.size:=λa f=>(h a f).lt;have c0:w3.cell? ⟨w.heap.size,0,ZX⟩=ZW (Z7 Z9 D):=by simp [World.cell?,O]
 have c1:w3.cell? ⟨w.heap.size,1,ZX⟩=ZW (Z7 Z9 L):=by simp [World.cell?,O]
 have c2:w3.cell? ⟨w.heap.size,2,ZX⟩=ZW (Z7 Z9 G):=by simp [World.cell?,O]
 have Z:w3.cell? ⟨w.heap.size,3,ZX⟩=ZW (Z7 Z8 (eM x:Nat)):=by simp [World.cell?,O]
 have c4:w3.cell? ⟨w.heap.size,4,ZX⟩=ZW (Z1 (fP x)):=by simp [World.cell?,O]
 obtain ⟨_,l1,_⟩:=gw p;have kg:=NZ (w:=w3.drew) kx q2 (w.heap.size+1+1);have i:aa (λk=>k=sb+1) w3 (w3.drew.putObj (sb+1) (.map (dX D L G (es++[(x,w.heap.size+1+1,n)])).toArray (n+1))):=(aa.drew w3).trans (aa.putObj _ _ _ rfl);have u:(w3.drew.putObj (sb+1) (.map (dX D L G (es++[(x,w.heap.size+1+1,n)])).toArray (n+1))).heap[sb+1]?=ZW (.map (dX D L G (es++[(x,w.heap.size+1+1,n)])).toArray (n+1)):=by
  have hz:=d.size;unfold World.putObj;exact Y7 (by show sb+1<w3.heap.size;omega)
 obtain ⟨w4,q1⟩:=nM (w3.drew.putObj (sb+1) (.map (dX D L G (es++[(x,w.heap.size+1+1,n)])).toArray (n+1)));rw [q1] at kg i u;unfold bH at kg ⊢;have HN:=a6 k5 k8 k9 k6 hB;clear k5 k8 k9 k6 hB;have H:=hide11 d J p P i u hll s g v E;clear hl hm h d J p kx P i u O hn q1 s g v E q2;go_enter func175,ntmps175;go_wp2;go_region;clear c0 c1 c2 Z c4 l1 kg ki;obtain ⟨d,J,p,P,i,u,hll,s,g,v,E⟩:=H.o;have kz:=J.lt;have kj:∀ a,S a->a≠w.heap.size+1+1:=λa f=>by have:=s a f;omega
 have ko:cn' (w.heap.size+1+1)=⟨D,L,G,(eM x:Nat),fP x,regs,.slice ao m c⟩:=by rw [HN.o.1];exact TT rfl
 have kp:∀ a,S a->cn' a=cn a:=λa f=>by rw [HN.o.1];exact TS (kj a f)
 have q0:=Ag (w:=w4) (S:=λa=>a=w.heap.size+1+1\/S a) (cn:=cn') (nw:=nw) (ol:=ol) (n:=w.heap.size+1+1) (show fO w4 sb room from (i.block _ (by omega) (by omega)).trans p) (by rw [ko];exact J.keep (i.block _ J.lt (by omega))) (λa f=>by
  have Y:=f.1.resolve_left f.2;rw [kp a Y];exact (P a Y).keep (i.block _ (P a Y).lt (g a Y).1)) (.inl rfl) (.inr v) (kj sb v) (.inr E)
 have H4:=hide7 u i p d kz hll q0;clear d J p P i u q0 ko kp;go_wp2_with fail;refine H4.o.2.2.2.2.2.2.mono ?_;rintro e C ⟨rfl,A,B⟩;obtain ⟨u,i,p,d,kz,hll,_⟩:=H4.o;obtain ⟨_,_,_,_,_,_,_,s,g,v,E⟩:=H.o;have W:aa (λk=>k=sb+1\/k=w.heap.size+1+1\/S k) w3 C:=(i.mono λ_ _ q=>.inl q).trans (B.mono λ_ _ q=>.inr q);have I:fO C sb room:=(W.block _ (by omega) (λq=>by
  rcases q with q|q|q
  . omega
  . omega
  . exact (g _ q).2 rfl)).trans p
 have q5:=i.size;have r:=(B.block (sb+1) (by omega) (λq=>by
  rcases q with q|q
  . omega
  . exact (g _ q).1 rfl)).trans u
 obtain ⟨l0,l1,l2⟩:=gw I;have kf:=λt=>N0 (w:=C.drew) r t;have X:aa (λk=>S k\/k=sb+1) w C:=(aa.RL d _).later W (λk hk q=>by
  rcases q with q|q|q
  . exact .inr q
  . omega
  . exact .inl q)
 rw [<- HN.o.2.1,<- HN.o.2.2.1] at A;rw [<- HN.o.2.2.2.1] at r kf;obtain ⟨K,hK⟩:=nM (b.length);rw [hK] at kf;by_cases hr:(K:Int)<=room
 . have q3:¬ (room<(K:Int)):=(by omega);have T:decide (room<(K:Int))=ZU:=Vc q3;have V:=a5 A r X hK;clear u i p W I r A B X g v E s d hK;go_wp2;go_region;go_wp2;go_end0
   obtain ⟨A,r,hO,hK⟩:=V.o;exact ⟨rfl,⟨λ_=>⟨⟨_,r⟩,A⟩,λq=>by rw [hK] at q;omega⟩,hO.trans (aa.drew _)⟩
 . have q4:room<(K:Int):=(by omega);obtain ⟨T,j,hj,Q,⟨rg,st,R⟩,F,kc,ke⟩:=HN.o.2.2.2.2 (by rw [hK];exact q4);obtain ⟨e7,_,_,_⟩:=(A sb (.inr v)).cells;have kh:=rh (w:=C.drew) (show oS C.drew (λa=>a=w.heap.size+1+1\/S a) cn' nw' l from A) F kc ke;obtain ⟨q,M⟩:=nM (nw' sb);rw [M] at Q R F kc ke e7 kh;have V:=hide13 I r X hK T Q R F kh M g s d;clear u i p W I r A B X g v E s d hK T Q R F kc ke kh M;go_wp2;go_region;go_wp2_with fail;refine V.o.2.2.2.2.2.2.2.2.1.mono ?_;rintro e z ⟨rfl,kb,kk⟩;clear l0 l1 l2 e7 kf;obtain ⟨I,r,B,hK,T,Q,R,F,_,M,g,s,d⟩:=V.o;have U:aa (λa=>a=w.heap.size+1+1\/S a) C z:=(aa.drew C).trans kk;have q6:=B.size;have kv:fO z sb room:=(U.block _ (by omega) (λe=>by
    rcases e with e|e
    . omega
    . exact (g _ e).2 rfl)).trans I
   have ky:=(U.block (sb+1) (by omega) (λe=>by
    rcases e with e|e
    . omega
    . exact (g _ e).1 rfl)).trans r
   obtain ⟨_,l1,_⟩:=gw kv;have ks:=(kb q F).key;rw [R] at ks;obtain ⟨c0,c1,c2,Z,c4⟩:=ks;have kr:=λt=>Qp (w:=z.drew) ky hj T t;obtain ⟨y,hy⟩:=nM (b[j].1);rw [hy] at kr Z c4;unfold bH at kr;have k7:OU (z.drew.putObj (sb+1) (.map (dX D L G (b.eraseIdx j)).toArray (n+1))) sb room D L G b (λa=>a=w.heap.size+1+1\/S a) cn' nw' l/\aa (λk=>S k\/k=sb+1) w (z.drew.putObj (sb+1) (.map (dX D L G (b.eraseIdx j)).toArray (n+1))):=by
    have km:aa (λk=>k=sb+1) z (z.drew.putObj (sb+1) (.map (dX D L G (b.eraseIdx j)).toArray (n+1))):=(aa.drew z).trans (aa.putObj _ _ _ rfl);have q7:=U.size;refine ⟨⟨λe=>by rw [hK] at e;omega,λ_=>⟨j,hj,Q.trans M.symm,⟨n+1,?_⟩,?_⟩⟩,?_⟩
    . unfold World.putObj;exact Y7 (by show sb+1<z.heap.size;omega)
    . rw [M];exact kb.keep km (λa f e=>by
       rcases f with f|f
       . omega
       . exact (g a f).1 e)
    . exact (B.later U (λk hk e=>by
       rcases e with e|e
       . omega
       . exact .inl e)).later km (λk hk e=>.inr e)
   have H6:=ak k7;clear k7 I r B hK T Q R F M g s d U kv ky kb kk hy;go_wp2;go_region;go_end0
   exact ⟨rfl,H6.o⟩
section
structure Pq where
 lost:Nat
 nb:Nat
 s:Nat
 C:Ck
 ao:Option Addr
 m:Nat
 c:Nat
def Pq.cn (D L G:Nat) (q:Pq):EG:=⟨D,L,G,(eM q.lost:Nat),fP q.lost,1+((ab (aw (D+L+G) q.s)).length:Int),.slice q.ao q.m q.c⟩
def jS (qs:List Pq):a8:=qs.map (·.nb)
def oK (sb:Nat) (qs:List Pq) (a:Nat):Prop:=a=sb\/a∈jS qs
structure gI (w:ZT) (sb:Nat) (room:Int) (D L G:Nat) (es:List (Nat×Nat×Nat)) (qs:List Pq):Prop where
 list:fO w sb room
 RZ:w.heap[sb+1+1+1]?=ZW (Z4 #[Z6 (ZW ⟨sb+1+1,0,ZX⟩)] 223 (0,0))
 map:∃ n,w.heap[sb+1]?=ZW (.map (dX D L G es).toArray n)
 ring:∃ cn nw ol,oS w (oK sb qs) cn nw ol/\vw nw ol sb (jS qs) sb/\∀ q∈qs,cn q.nb=q.cn D L G
 nd:(sb::jS qs).Nodup
 lo:(cM es).Nodup
 Tz:∀ e∈es,∃ q∈qs,q.lost=e.1/\q.nb=e.2.1
 qs_es:∀ q∈qs,∃ e∈es,e.1=q.lost/\e.2.1=q.nb
 len:es.length=qs.length
 SK:∀ q∈qs,sb+1+1+1<q.nb
 own:∀ q∈qs,w.ownsRow 0 299 4 (.slice q.ao q.m q.c) (bS D L G q.s q.C).length (eB .u8 (bS D L G q.s q.C))
 Tp:∀ q∈qs,∀ i,(eM q.lost).testBit i=ZV->q.s.testBit i=ZV
 told:∀ q∈qs,tells (jI D L G) (ab (aw (D+L+G) q.s))=ZW q.C
section
variable {w w':ZT} {sb:Nat} {room:Int} {D L G:Nat} {es:List (Nat×Nat×Nat)} {qs:List Pq}
def gI.apart (h:gI w sb room D L G es qs) (a:Nat) (b:oK sb qs a):a≠sb+1/\a≠sb+1+1/\a≠sb+1+1+1/\a<w.heap.size/\∃ cs,w.heap[a]?=ZW (Z4 cs 261 (0,0)):=by
 obtain ⟨cn,nw,ol,d,_,_⟩:=h.ring;have c:=d a b;refine ⟨?_,?_,?_,c.lt,_,c⟩;all_goals
  rcases b with rfl|b
  . omega
  . obtain ⟨q,e,rfl⟩:=T9.1 b;have:=h.SK q e;omega
def gI.steps (h:gI w sb room D L G es qs) {q:Pq} (f:q∈qs) {k:Nat} (d:(Value.slice q.ao q.m q.c).ownBlock=ZW k):¬ oK sb qs k:=λe=>by
 obtain ⟨_,_,_,_,cs,b⟩:=h.apart k e;obtain ⟨cur,a⟩:=bw (h.own q f) d;rw [b] at a;simp only [UD,UP] at a;exact absurd a.2.1 (by decide)
def LB (qs l r:List Pq) (q:Pq) (h:qs=l++q::r):jS qs=jS l++q.nb::jS r:=by rw [h];simp [jS]
theorem Qq (h:gI w sb room D L G es qs) {x:Nat} (Z:x∈cM es) :
 ∃ q t,q∈qs/\q.lost=x/\(∀ p,p∈t↔p∈qs)/\∀ W,gI W sb room D L G es qs->ZQ ZN 173 #[Z6 (ZW ⟨sb+1+1,0,ZX⟩),bH D L G (eM x:Nat) (fP x)] W λe w'=>e=Z3 (ZY #[.agg #[Z7 Z9 (1+((ab (aw (D+L+G) q.s)).length:Int)),.slice q.ao q.m q.c],Z1 ZV])/\gI w' sb room D L G es t/\aa (oK sb qs) W w':=by
 obtain ⟨e,u,f⟩:=T9.1 Z;obtain ⟨k,H,M⟩:=US u;obtain ⟨q,v,O,hy⟩:=h.Tz e u;obtain ⟨l,r,B⟩:=List.append_of_mem v;have d:∀ p,p∈q::(l++r)↔p∈qs:=λp=>by rw [B];simp only [Uw,Ui];constructor<;>(intro h;rcases h with h|h|h<;>simp [h])
 refine ⟨q,q::(l++r),v,O.trans f,d,λW h=>?_⟩;obtain ⟨cn,nw,ol,S,hL,K⟩:=h.ring;obtain ⟨n,P⟩:=h.map;have N:=LB qs l r q B;have i:=h.nd;rw [N] at hL i;have F:sb∉jS l++q.nb::jS r:=(YE.1 i).1;obtain ⟨U,hr,X⟩:=vw.take hL i F;have Y:∀ a,oK sb (q::(l++r)) a↔oK sb qs a:=λa=>by
  unfold oK jS;simp only [T9];constructor
  . rintro (e|⟨p,b,e⟩)
    . exact .inl e
    . exact .inr ⟨p,(d p).1 b,e⟩
  . rintro (e|⟨p,b,e⟩)
    . exact .inl e
    . exact .inr ⟨p,(d p).2 b,e⟩
 have E:∀ a,a∈sb::(jS l++q.nb::jS r)->oK sb qs a:=λa g=>by
  rcases Uw.1 g with e|e
  . exact .inl e
  . exact .inr (by rw [N];exact e)
 have I:oK sb qs (nw q.nb):=E _ (by
  rcases Uw.1 hr with e|e
  . rw [e];exact U7 ..
  . exact UJ _ (UF _ e))
 have J:oK sb qs (ol q.nb):=by
  rcases X with e|e
  . exact E _ (UJ _ (VM _ (UJ _ e)))
  . exact .inl e
 have R:oK sb qs (ol sb):=by
  rcases hL.Sc with e|e
  . exact .inl e.1
  . exact E _ (UJ _ e)
 have C:q.nb∉sb::(jS l++jS r):=by
  intro o;have A:=(YE.1 i).2;rcases Uw.1 o with e|e
  . exact F (by rw [<- e];simp)
  . rw [U8] at A;rcases Ui.1 e with e|e
    . exact A.2.2 _ e _ (U7 ..) rfl
    . exact (YE.1 A.2.1).1 e
 have z:(sb::(jS l++jS r)).Nodup:=by
  refine YE.2 ⟨λe=>F ?_,?_⟩
  . rcases Ui.1 e with e|e
    . exact UF _ e
    . exact VM _ (UJ _ e)
  . exact YT (List.Sublist.append_left (List.sublist_cons_self _ _) _) (YE.1 i).2
 have T:=U.put z C;refine (Iu h.list P H h.lo (by rw [M];exact f) (by rw [M];exact hy.symm) S (λa g=>⟨(h.apart a g).1,(h.apart a g).2.1⟩) (.inr (T9.2 ⟨q,v,rfl⟩)) I J (.inl rfl) R (by rw [K q v,Pq.cn,O.trans f])).mono ?_;rintro e w' ⟨rfl,V,j⟩;have y:∀ a,sb<a->a<=sb+1+1+1->¬ oK sb qs a:=λa I J q=>by
  obtain ⟨q1,q2,q3,_⟩:=h.apart a q;rcases q with q|q
  . omega
  . obtain ⟨p,b,rfl⟩:=T9.1 q;have:=h.SK p b;omega
 have hll:sb+1+1+1<W.heap.size:=(T5.1 h.RZ).1;refine ⟨rfl,⟨(j.block _ (by omega) (y _ (by omega) (by omega))).trans h.list,(j.block _ hll (y _ (by omega) (by omega))).trans h.RZ,⟨n,(j.block _ (by omega) (y _ (by omega) (by omega))).trans P⟩,⟨cn,_,_,λa g=>V a ((Y a).1 g),?_,λp b=>K p ((d p).1 b)⟩,?_,h.lo,λe u=>?_,λp b=>h.qs_es p ((d p).1 b),?_,λp b=>h.SK p ((d p).1 b),λp b=>bR (h.own p ((d p).1 b)) j (λk H q=>h.steps ((d p).1 b) H q),λp b=>h.Tp p ((d p).1 b),λp b=>h.told p ((d p).1 b)⟩,j⟩
 . have e:jS (q::(l++r))=q.nb::(jS l++jS r):=(by simp [jS]);rw [e];exact T
 . have e:jS (q::(l++r))=q.nb::(jS l++jS r):=(by simp [jS]);rw [e,YE];refine ⟨λo=>?_,YE.2 ⟨λo=>C (UJ _ o),(YE.1 z).2⟩⟩;rcases Uw.1 o with e|e
   . exact C (by rw [<- e];exact U7 ..)
   . exact (YE.1 z).1 e
 . obtain ⟨p,b,Q⟩:=h.Tz e u;exact ⟨p,(d p).2 b,Q⟩
 . rw [h.len,B];simp;omega
end
end
section
section
variable {w w':ZT} {sb:Nat} {room:Int} {D L G:Nat} {es:List (Nat×Nat×Nat)} {qs:List Pq}
def uF:∀ (es:List (Nat×Nat×Nat)) (j:Nat),cM (es.eraseIdx j)=(cM es).eraseIdx j
 | [],_=>rfl
 | _::_,0=>rfl
 | e::es,j+1=>Uy (e.1::·) (uF es j)
def EK (h:l.Nodup) {i j:Nat} (a:i<l.length) (b:j<l.length) (e:l[i]=l[j]):i=j:=by
 rcases Nat.lt_trichotomy i j with q|q|q
 . exact absurd e (VU.1 h i j a b q)
 . exact q
 . exact absurd e.symm (VU.1 h j i b a q)
def Ah (q:Pq) (qs:List Pq):jS (q::qs)=q.nb::jS qs:=rfl
theorem Qr (h:gI w sb room D L G es qs) {x:Nat} (hx:x∉cM es) {s m c:Nat} {C:Ck} {ao:Option Addr} (ho:w.ownsRow 0 299 4 (.slice ao m c) (bS D L G s C).length (eB .u8 (bS D L G s C))) (hr:∀ i,(eM x).testBit i=ZV->s.testBit i=ZV) (ht:tells (jI D L G) (ab (aw (D+L+G) s))=ZW C) :
 ZQ ZN 175 #[Z6 (ZW ⟨sb+1+1,0,ZX⟩),bH D L G (eM x:Nat) (fP x),.agg #[Z7 Z9 (1+((ab (aw (D+L+G) s)).length:Int)),.slice ao m c]] w λe w'=>e=Z3 (ZY #[])/\(∃ f S,gI w' sb room D L G f S/\∀ q∈S,q∈qs\/q=⟨x,w.heap.size+1+1,s,C,ao,m,c⟩)/\aa (λk=>oK sb qs k\/k=sb+1) w w':=by
 obtain ⟨cn,nw,ol,hN,hL,q8⟩:=h.ring;obtain ⟨n,hm⟩:=h.map;have hll:sb+1+1+1<w.heap.size:=(T5.1 h.RZ).1;obtain ⟨N,kx⟩:∃ N,N=w.heap.size+1+1:=⟨_,rfl⟩;obtain ⟨g,z⟩:∃ g:Pq,g=⟨x,N,s,C,ao,m,c⟩:=⟨_,rfl⟩;have q5:∀ a,oK sb qs a->a<w.heap.size:=λa r=>(h.apart a r).2.2.2.1;have Z:N∉sb::jS qs:=λe=>by
  have:=q5 N (by rcases Uw.1 e with e|e;exact .inl e;exact .inr e);omega
 have W:=hL.put h.nd Z;obtain ⟨A,ka⟩:∃ A,A=ig (ig nw N sb) (ol sb) N:=⟨_,rfl⟩;obtain ⟨F,kb⟩:∃ F,F=ig (ig ol N (ol sb)) sb N:=⟨_,rfl⟩;obtain ⟨cn',k0⟩:∃ cn',cn'=cnN cn N (g.cn D L G):=⟨_,rfl⟩;obtain ⟨f,I⟩:∃ f,f=es++[(x,N,n)]:=⟨_,rfl⟩;rw [<- ka,<- kb] at W;have h3:oK sb qs (ol sb):=by
  rcases hL.Sc with e|e
  . exact .inl e.1
  . exact .inr e
 have J:g.nb=N:=by rw [z]
 have kp:∀ q∈g::qs,cn' q.nb=q.cn D L G:=λq d=>by
  rw [k0];unfold cnN;rcases Uw.1 d with e|e
  . rw [e,J,TT rfl]
  . rw [TS (show ¬ q.nb=N from λt=>Z (UJ _ (by rw [<- t];exact T9.2 ⟨q,e,rfl⟩))),q8 q e]
 have km:(cM f).Nodup:=by
  have e:cM f=cM es++[x]:=by rw [I];simp [cM]
  rw [e,U8];exact ⟨h.lo,by simp,λa r b hb e=>hx (by rw [U5] at hb;rw [<- hb,<- e];exact r)⟩
 have kv:∀ q∈g::qs,∃ e∈f,e.1=q.lost/\e.2.1=q.nb:=λq d=>by
  rcases Uw.1 d with e|e
  . exact ⟨(x,N,n),by rw [I];simp,by rw [e,z],by rw [e,z]⟩
  . obtain ⟨y,hy,o⟩:=h.qs_es q e;exact ⟨y,by rw [I];exact UF _ hy,o⟩
 have kr:∀ e∈f,∃ q∈g::qs,q.lost=e.1/\q.nb=e.2.1:=λe B=>by
  rw [I] at B;rcases Ui.1 B with o|o
  . obtain ⟨q,d,t⟩:=h.Tz e o;exact ⟨q,UJ _ d,t⟩
  . rw [U5] at o;exact ⟨g,U7 ..,by rw [o,z],by rw [o,z]⟩
 have k7:f.length=qs.length+1:=by rw [I,Ua,h.len];rfl
 have U:(sb::jS (g::qs)).Nodup:=by
  rw [Ah,J];refine YE.2 ⟨λe=>?_,YE.2 ⟨λe=>Z (UJ _ e),(YE.1 h.nd).2⟩⟩;rcases Uw.1 e with e|e
  . exact Z (by rw [<- e];exact U7 ..)
  . exact (YE.1 h.nd).1 e
 rw [<- J,<- Ah] at W;obtain ⟨l,u,R⟩:∃ l u,g::qs=l++[u]:=⟨(g::qs).dropLast,(g::qs).getLast (by simp),(List.dropLast_concat_getLast (by simp)).symm⟩;have hv:u∈g::qs:=by rw [R];simp
 have T:jS (g::qs)=jS l++u.nb::jS []:=by rw [R];simp [jS]
 have ko:=W;have V:=U;rw [T] at ko V;have H:A sb=u.nb:=by
  rw [ko.last (by simp)];simp [jS]
 obtain ⟨hT,q6,q7⟩:=vw.take ko V (YE.1 V).1;have kj:∀ a,a∈sb::jS (g::qs)->a=N\/oK sb qs a:=λa r=>by
  rw [Ah,J] at r;rcases Uw.1 r with e|e
  . exact .inr (.inl e)
  . rcases Uw.1 e with e|e
    . exact .inl e
    . exact .inr (.inr e)
 have k6:∀ q∈g::qs,q.nb=u.nb->q∉l:=λq d e qd=>by
  have kz:=(YE.1 V).2;rw [U8] at kz;exact kz.2.2 q.nb (T9.2 ⟨q,qd,rfl⟩) u.nb (by simp) e
 have kc:∀ q∈g::qs,q∈l\/q=u:=λq d=>by
  rw [R] at d;rcases Ui.1 d with e|e
  . exact .inl e
  . exact .inr (U5.1 e)
 refine (EJ (cn':=cn') (regs:=1+((ab (aw (D+L+G) s)).length:Int)) (ao:=ao) (m:=m) (c:=c) h.list hm hx hN (λa r=>⟨(h.apart a r).1,(h.apart a r).2.1⟩) (.inl rfl) h3 kx (by rw [k0,z];rfl) ka kb I (λ_=>⟨km,?_⟩)).mono ?_
 . obtain ⟨e,B,o,t⟩:=kv u hv;obtain ⟨j,M,q4⟩:=US B;refine ⟨j,M,by rw [q4,t,H],⟨_,_,by rw [H,kp u hv,q4,o];rfl⟩,?_,?_,?_⟩
   . rw [H];exact kj _ (UJ _ (T9.2 ⟨u,hv,rfl⟩))
   . rw [H];refine kj _ ?_;rw [T];rcases Uw.1 q6 with e|e
     . rw [e];exact U7 ..
     . exact UJ _ (UF _ e)
   . rw [H];rcases q7 with e|e
     . cases e
     . rw [e];exact .inr (.inl rfl)
 . rintro e w' ⟨rfl,hA,K⟩;have hh:∀ {v:ZS} {nn:Nat} {xs:List ZS},w.ownsRow 0 299 4 v nn xs->∀ k,v.ownBlock=ZW k->¬ (oK sb qs k\/k=sb+1):=λhw k O q=>by
    obtain ⟨cur,P⟩:=bw hw O;rcases q with q|q
    . obtain ⟨_,_,_,_,cs,hc⟩:=h.apart k q;rw [hc] at P;simp only [UD,UP] at P;exact absurd P.2.1 (by decide)
    . rw [q,hm] at P;cases P
   have k8:∀ a,sb+1<a->a<=sb+1+1+1->¬ (oK sb qs a\/a=sb+1):=λa h1 h2 q=>by
    rcases q with q|q
    . obtain ⟨q1,q2,q3,_⟩:=h.apart a q;rcases q with q|q
      . omega
      . obtain ⟨p,hp,rfl⟩:=T9.1 q;have:=h.SK p hp;omega
    . omega
   have hn:=(K.block (sb+1+1) (by omega) (k8 _ (by omega) (by omega))).trans h.list;have h6:=(K.block _ hll (k8 _ (by omega) (by omega))).trans h.RZ;have ky:∀ q∈g::qs,sb+1+1+1<q.nb:=λq d=>by
    rcases Uw.1 d with e|e
    . rw [e,J];omega
    . exact h.SK q e
   have ke:∀ q∈g::qs,w'.ownsRow 0 299 4 (.slice q.ao q.m q.c) (bS D L G q.s q.C).length (eB .u8 (bS D L G q.s q.C)):=λq d=>by
    rcases Uw.1 d with e|e
    . subst z;rw [e];exact bR ho K (λk O q=>hh ho k O q)
    . exact bR (h.own q e) K (λk O q'=>hh (h.own q e) k O q')
   have X:∀ q∈g::qs,(∀ i,(eM q.lost).testBit i=ZV->q.s.testBit i=ZV)/\tells (jI D L G) (ab (aw (D+L+G) q.s))=ZW q.C:=λq d=>by
    rcases Uw.1 d with e|e
    . subst z;rw [e];exact ⟨hr,ht⟩
    . exact ⟨h.Tp q e,h.told q e⟩
   have kg:∀ q∈g::qs,q∈qs\/q=⟨x,w.heap.size+1+1,s,C,ao,m,c⟩:=λq d=>by
    rcases Uw.1 d with e|e
    . right;rw [e,z,kx]
    . exact .inl e
   refine ⟨rfl,?_,K⟩;by_cases kf:((f.length:Nat):Int)<=room
   . obtain ⟨ks,Y⟩:=hA.1 kf;exact ⟨f,g::qs,⟨hn,h6,ks,⟨cn',A,F,λa r=>Y a (kj a (by rcases r with e|e;rw [e];exact U7 ..;exact UJ _ e)),W,kp⟩,U,km,kr,kv,by rw [k7];rfl,ky,ke,λq d=>(X q d).1,λq d=>(X q d).2⟩,kg⟩
   . obtain ⟨j,M,kk,ks,Y⟩:=hA.2 (by omega);rw [H] at Y kk;have E:∀ q∈l,q∈g::qs:=λq d=>by rw [R];exact UF _ d
     have qa:f[j].1=u.lost:=by
      obtain ⟨q,d,o,t⟩:=kr _ (T6 M);rcases kc q d with e|e
      . exact absurd e (k6 q d (by rw [t,kk]))
      . rw [<- o,e]
     have e0:cM (f.eraseIdx j)=(cM f).eraseIdx j:=uF _ _;have qc:jS l++jS []=jS l:=(by simp [jS]);rw [qc] at hT;refine ⟨f.eraseIdx j,l,⟨hn,h6,ks,⟨cn',_,_,λa r=>Y a (kj a ?_),hT,λq d=>kp q (E q d)⟩,?_,?_,λe B=>?_,λq d=>?_,?_,λq d=>ky q (E q d),λq d=>ke q (E q d),λq d=>(X q (E q d)).1,λq d=>(X q (E q d)).2⟩,λq d=>kg q (E q d)⟩
     . rw [T];rcases r with e|e
       . rw [e];exact U7 ..
       . exact UJ _ (UF _ e)
     . rw [T] at U;exact YT (List.Sublist.cons_cons _ (List.sublist_append_left _ _)) U
     . rw [e0];exact YT (List.eraseIdx_sublist _ _) km
     . obtain ⟨i,hi,qb,Q⟩:=Y8.1 B;obtain ⟨q,d,o,t⟩:=kr e (by rw [<- Q];exact T6 _);refine ⟨q,(kc q d).resolve_right λeq=>?_,o,t⟩;subst eq;have q9:(cM f)[i]'(by simpa [cM] using hi)=(cM f)[j]'(by simpa [cM] using M):=by
        simp only [cM,UN,Q,qa,o]
       exact qb (EK km _ _ q9)
     . obtain ⟨e,B,o,t⟩:=kv q (E q d);obtain ⟨i,hi,Q⟩:=US B;refine ⟨e,Y8.2 ⟨i,hi,λhd=>?_,Q⟩,o,t⟩;subst hd;rw [Q,t] at kk;exact k6 q (E q d) kk d
     . have:(g::qs).length=l.length+1:=by rw [R];simp
       rw [List.length_eraseIdx_of_lt M,k7];simp at this;omega
def N1 (sb:Nat) (qs:List Pq) (k:Nat):Prop:=(sb<=k/\k<=sb+1+1+1)\/k∈jS qs\/∃ q∈qs,(Value.slice q.ao q.m q.c).ownBlock=ZW k
def CH {qs:List Pq} (h:oK sb qs k):N1 sb qs k:=h.elim (λe=>.inl (by omega)) λe=>.inr (.inl e)
def gI.keep (h:gI w sb room D L G es qs) (b:∀ k,N1 sb qs k->w'.heap[k]?=w.heap[k]?):gI w' sb room D L G es qs:=by
 obtain ⟨cn,nw,ol,g,hL,f⟩:=h.ring;obtain ⟨n,i⟩:=h.map;exact ⟨(b _ (.inl ⟨by omega,by omega⟩)).trans h.list,(b _ (.inl ⟨by omega,by omega⟩)).trans h.RZ,⟨n,(b _ (.inl ⟨by omega,by omega⟩)).trans i⟩,⟨cn,nw,ol,λa c=>(g a c).keep (b a (CH c)),hL,f⟩,h.nd,h.lo,h.Tz,h.qs_es,h.len,h.SK,λq d=>xN (h.own q d) λk e=>b k (.inr (.inr ⟨q,d,e⟩)),h.Tp,h.told⟩
def gI.blt (h:gI w sb room D L G es qs) (k:Nat) (a:N1 sb qs k):k<w.heap.size:=by
 have:sb+1+1+1<w.heap.size:=(T5.1 h.RZ).1;rcases a with e|e|⟨q,b,e⟩
 . omega
 . exact (h.apart k (.inr e)).2.2.2.1
 . exact P8 (h.own q b) e
def mQ (sb:Nat) (room:Int) (D L G:Nat) (es:List (Nat×Nat×Nat)) (qs:List Pq) (ho:Nat):aN where
 ps:=sb+1+1+1
 ho:=ho
 bl:=N1 sb qs
 S:=λw=>gI w sb room D L G es qs
 keep:=λ_ _ h hk=>h.keep hk
 kd:=λw h k hk cs T z e=>by
  rcases hk with ⟨h1,h2⟩|hk|⟨q,hq,hk⟩
  . have hx:k=sb\/k=sb+1\/k=sb+1+1\/k=sb+1+1+1:=by omega
    rcases hx with rfl|rfl|rfl|rfl
    . obtain ⟨_,_,_,_,cs',q⟩:=h.apart k (.inl rfl)
      rw [q] at e;injection e with e;injection e with _ e;exact .inr (.inr (.inl e.symm))
    . obtain ⟨n,q⟩:=h.map;rw [q] at e;injection e with e;cases e
    . have q:w.heap[sb+1+1]?=_:=h.list
      rw [q] at e;injection e with e;injection e with _ e;exact .inr (.inl e.symm)
    . rw [h.RZ] at e;injection e with e;injection e with _ e;exact .inl e.symm
  . obtain ⟨_,_,_,_,cs',q⟩:=h.apart k (.inr hk)
    rw [q] at e;injection e with e;injection e with _ e;exact .inr (.inr (.inl e.symm))
  . obtain ⟨cur,q⟩:=bw (h.own q hq) hk
    rw [q] at e;injection e with e;injection e with _ e;exact .inr (.inr (.inr e.symm))
 lt:=λ_ h=>h.blt
 cl:=λw h k hk=>by
  rcases hk with ⟨h1,h2⟩|hk|⟨q,hq,hk⟩
  . have hx:k=sb\/k=sb+1\/k=sb+1+1\/k=sb+1+1+1:=by omega
    rcases hx with rfl|rfl|rfl|rfl
    . obtain ⟨_,_,_,_,cs',q⟩:=h.apart k (.inl rfl)
      exact .inr ⟨_,_,_,q⟩
    . exact .inl rfl
    . exact .inr ⟨_,_,_,h.list⟩
    . exact .inr ⟨_,_,_,h.RZ⟩
  . obtain ⟨_,_,_,_,cs',q⟩:=h.apart k (.inr hk)
    exact .inr ⟨_,_,_,q⟩
  . obtain ⟨cur,q⟩:=bw (h.own q hq) hk
    exact .inr ⟨_,_,_,q⟩
def mR (sb:Nat) (room:Int) (D L G:Nat) (ps:aN):Prop:=∃ es qs ho,ps=mQ sb room D L G es qs ho
end
end
def CJ {qs qs':List Pq} (h:∀ p,p∈qs'↔p∈qs) (c:N1 sb qs' k):N1 sb qs k:=by
 rcases c with e|e|⟨q,a,e⟩
 . exact .inl e
 . obtain ⟨q,a,b⟩:=T9.1 e;exact .inr (.inl (T9.2 ⟨q,(h q).1 a,b⟩))
 . exact .inr (.inr ⟨q,(h q).1 a,e⟩)
def gI.cell {qs:List Pq} (h:gI w sb room D L G es qs):w.cell? ⟨sb+1+1+1,0,ZX⟩=ZW (Z6 (ZW ⟨sb+1+1,0,ZX⟩)):=by
 have a:=h.RZ;simp [World.cell?,a]
theorem LC {qs:List Pq} (t:gI w sb room D L G es qs) {lost:Nat} (U:lost∈cM es):∃ q d,q∈qs/\q.lost=lost/\(∀ p,p∈d↔p∈qs)/\ZQ ZN 145 #[Z6 (ZW ⟨sb+1+1+1,0,ZX⟩),bH D L G (eM lost:Nat) (fP lost)] w λe w'=>nj D L G q.s q.ao q.m q.c e/\gI w' sb room D L G es d/\aa (oK sb qs) w w':=by
 obtain ⟨q,d,S,hr,B,E⟩:=Qq t U;refine ⟨q,d,S,hr,B,?_⟩;obtain ⟨s,T⟩:=nM (q.s);obtain ⟨ao,Q⟩:=nM (q.ao);obtain ⟨m,P⟩:=nM (q.m);obtain ⟨c,K⟩:=nM (q.c);rw [T,Q,P,K] at E ⊢;clear T Q P K;have f:=vU.new w D L G (eM lost:Nat) (fP lost);obtain ⟨w2,hy⟩:=nM ((w.alloc (Z4 #[Z7 Z9 (D:Int),Z7 Z9 (L:Int),Z7 Z9 (G:Int),Z7 Z8 ((eM lost:Nat):Int),Z1 (fP lost)] 221)).alloc (Z4 #[Z7 Z9 0,Z5 ZX 0 0] 206));rw [hy] at f;obtain ⟨c0,c1,W,X,Y⟩:=f.cells;have j:∀ k,N1 sb qs k->k<w.heap.size:=t.blt;have g:∀ k,N1 sb d k->k<w.heap.size:=λk b=>j k (CJ B b);have u:=t.keep λk b=>f.below.block k (j k b);have hv:=u.cell;obtain ⟨z,i⟩:∃ z:Int,1+((ab (aw (D+L+G) s)).length:Int)=z:=⟨_,rfl⟩;have J:∀ w',bW w2 w'->ZQ ZN 173 #[Z6 (ZW ⟨sb+1+1,0,ZX⟩),bH D L G (eM lost:Nat) (fP lost)] w' λe r=>e=Z3 (ZY #[.agg #[Z7 Z9 z,.slice ao m c],Z1 ZV])/\gI r sb room D L G es d/\aa (oK sb qs) w' r:=λw' hb=>by
  rw [<- i];exact E w' (u.keep λk b=>hb.block k (T7 (j k b) f.below.size))
 have C:bW w2 (w2.alloc (Z4 #[Z7 Z9 0,Z5 ZX 0 0] 206)):=bA w2 _;obtain ⟨Z,d1,d2,d3,d4⟩:=(f.mono C).cells;have dp:=(u.keep λk b=>C.block k (T7 (j k b) f.below.size)).cell;have k5:=f.size;have O:∀ k,oK sb qs k->k<w.heap.size:=λk b=>j k (CH b);have M:=ak O;have H:=a5 f g i J;clear f J C t u g j O E B S hr U;unfold bH at H ⊢;unfold nj;rw [i];clear i;go_enter func145,ntmps145;go_upto_region 1 with fail;go_cut [6,7] from 10 to 18 (λv6 v7 wx=>v7=Z1 ZV/\∃ gb,v6=Z6 (ZW ⟨gb,0,ZX⟩)/\w2.heap.size<=gb/\wx.heap[gb]?=ZW (Z4 #[Z7 Z9 z,.slice ao m c] 206 (0,0))/\gI wx sb room D L G es d/\aa (oK sb qs) w2 wx)
 case first=>
  go_region_with (go_at_call 173;refine (H.o.2.2.2 _ ?_).mono ?_;(first|exact (TW _ _).drew|exact ((TW _ _).drew).alloc lR _);rintro e w3 ⟨rfl,h,a⟩;(try (have F:w3.heap[w2.heap.size]?=ZW (Z4 #[Z7 Z9 0,Z5 ZX 0 0] 206 (0,0)):=(a.block w2.heap.size (by simp) (λq=>by have:=M.out _ q;omega)).trans (Ug w2.drew _);obtain ⟨r0,r1,g1,g0⟩:=ay F;have V:=ak F;clear F));have I:aa (oK sb qs) w2 w3:=(by first|exact (aa.drew w2).trans a|exact aa.after ((bA w2 _).drew) a);have x:=al h I;clear h a I);all_goals (go_wp2_with fail;go_meet;case rel=>(
   obtain ⟨h,a⟩:=x.o;have g:=H.o.2.1;have hg:=a.size;first
    | (refine ⟨rfl,w2.heap.size,rfl,TU _,iO (y':=.slice ao m c) (iN (x':=Z7 Z9 z) V.o),h.keep λk b=>(fM w3 w2.heap.size 0 1 _ _).block k (by have:=g k b;omega) (by have:=g k b;omega),?_⟩
       have n:=fM w3 w2.heap.size 0 1 (Z7 Z9 z) (.slice ao m c);exact ⟨n.os.trans a.os,n.tape.trans a.tape,n.output.trans a.output,TV a.size n.size,λk y A=>(n.block k (by omega) (by omega)).trans (a.block k y A)⟩)
    | exact ⟨rfl,w3.heap.size,rfl,hg,Ug _ _,h.keep λk b=>UB _ _ _ (by have:=g k b;omega),a.os,a.tape,a.output,by rw [Ul];omega,λk y A=>(UB _ _ _ (by omega)).trans (a.block k y A)⟩))
 case rest=>
  clear c0 c1 W X Y Z d1 d2 d3 d4 dp hv;rename ZT=>w3;obtain ⟨rfl,gb,rfl,k0,R,h,a⟩:=hcut;obtain ⟨f,g,i,_⟩:=H.o;have l:=(a.block (w.heap.size+1) (by omega) (λq=>by have:=M.out _ q;omega)).trans f.res;obtain ⟨q0,q1,g1,g0⟩:=ay l;obtain ⟨r0,r1,_,_⟩:=ay R;have x:=aE l h a;clear l h a R f g i;go_wp2;obtain ⟨l,h,a⟩:=x.o;obtain ⟨f,g,i,_⟩:=H.o;obtain ⟨n0,n1,_⟩:=ay (iO (y':=.slice ao m c) (iN (x':=Z7 Z9 z) l));have N:aa (λk=>k=w.heap.size+1) w3 ((w3.setCell ⟨w.heap.size+1,0,ZX⟩ (Z7 Z9 z)).setCell ⟨w.heap.size+1,1,ZX⟩ (.slice ao m c)):=fM w3 (w.heap.size+1) 0 1 _ _;refine Us (v:=ZY #[.agg #[Z7 Z9 z,.slice ao m c],.nilIface]) (by simp [results,results145,go_sem,n0,n1]) rfl ?_;exact ⟨rfl,h.keep λk b=>N.block k (by have:=g k b;have:=a.size;omega) (by have:=g k b;omega),(aa.after f.below a).later N (λk b q=>by omega)⟩
section
def LD:¬ jP 213:=by unfold jP;decide
section
variable {w':ZT} {D L G:Nat} {Kind:aN->Prop} {ps:aN}
def Qs (D L G:Nat) (Kind:aN->Prop) (ps:aN) (l1:Nat) (w1:ZT) (v6 v7:ZS) (wx:ZT):Prop:=v7=.nilIface/\∃ gb ps' s C ao m c,v6=Z6 (ZW ⟨gb,0,ZX⟩)/\w1.heap.size<=gb/\wx.heap[gb]?=ZW (Z4 #[Z7 Z9 (1+((ab (aw (D+L+G) s)).length:Int)),.slice ao m c] 206 (0,0))/\Di D L G Kind ps ps' l1 s C ao m c w1.heap.size wx/\aa ps.bl w1 wx
def Iv {ps':aN} (e:Di D L G Kind ps ps' l1 s C ao m c w1.heap.size w3) (d:bW w1 w') (b:aa ps.bl w' w3) :
 Qs D L G Kind ps l1 w1 (Z6 (ZW ⟨w3.heap.size,0,ZX⟩)) .nilIface (w3.alloc (Z4 #[Z7 Z9 (1+((ab (aw (D+L+G) s)).length:Int)),.slice ao m c] 206)):=by
 have a:bW w3 (w3.alloc (Z4 #[Z7 Z9 (1+((ab (aw (D+L+G) s)).length:Int)),.slice ao m c] 206)):=bA _ _;exact ⟨rfl,_,ps',s,C,ao,m,c,rfl,TV d.size b.size,Ug _ _,e.keep (T:=λ_=>False) (aa.RL a _) (λ_ q=>q.elim),(aa.after d b).trans (aa.RL a _)⟩
def EL {ps':aN} (n:Di D L G Kind ps ps' l1 s C ao m c (w1.heap.size+1) w3) (hl:∀ k,ps.bl k->k<w1.heap.size) (r:w2.heap.size=w1.heap.size) (o:bW w1 w2) (g:aa ps.bl (w2.alloc (Z4 #[Z7 Z9 0,Z5 ZX 0 0] 206)) w3) :
 Qs D L G Kind ps l1 w1 (Z6 (ZW ⟨w1.heap.size,0,ZX⟩)) .nilIface ((w3.setCell ⟨w1.heap.size,0,ZX⟩ (Z7 Z9 (1+((ab (aw (D+L+G) s)).length:Int)))).setCell ⟨w1.heap.size,1,ZX⟩ (.slice ao m c)):=by
 have p:w3.heap[w1.heap.size]?=ZW (Z4 #[Z7 Z9 0,Z5 ZX 0 0] 206 (0,0)):=(g.block w1.heap.size (by rw [Ul];omega) (λq=>by have:=hl _ q;omega)).trans (by rw [<- r];exact Ug _ _);have b:=fM w3 w1.heap.size 0 1 (Z7 Z9 (1+((ab (aw (D+L+G) s)).length:Int))) (.slice ao m c);have j:Di D L G Kind ps ps' l1 s C ao m c w1.heap.size ((w3.setCell ⟨w1.heap.size,0,ZX⟩ (Z7 Z9 (1+((ab (aw (D+L+G) s)).length:Int)))).setCell ⟨w1.heap.size,1,ZX⟩ (.slice ao m c)):=by
  have h:=n.keep b (λk (q:k=w1.heap.size)=>⟨by omega,λe=>by have:=hl k e;omega⟩);exact ⟨h.kind,h.psE,h.hoE,h.kit,λk d=>(h.bl k d).imp id (by omega),λk d=>(h.ob k d).imp id (by omega),h.own,h.Tp,h.told⟩
 have l:bW w1 (w2.alloc (Z4 #[Z7 Z9 0,Z5 ZX 0 0] 206)):=o.alloc (by omega) _;have a:=aa.after l g;exact ⟨rfl,_,ps',s,C,ao,m,c,rfl,TU _,iO (iN p),j,b.os.trans a.os,b.tape.trans a.tape,b.output.trans a.output,TV a.size b.size,λk f i=>(b.block k (T7 f a.size) (by omega)).trans (a.block k f i)⟩
end
end
def Ai (ao:Option Addr) (a:Nat) (w:ZT):(convert 40 9 (.slice ao 0 a)).run ZN w=.ok (ZZ YH) w:=by
 rw [run_convert_bytes_string w 40 9 5 ao 0 a Um Xg aaN];cases ao<;>simp [Conv.bytesToString,loadCells,loadCellsFrom]
theorem Bs.sub {b off:Nat} (h:Bs w (Z5 (ZW ⟨b,off,ZX⟩) bl c) l) (i n d:Nat) (f:i+n<=l.length) (p:n<=d):Bs w (Z5 (ZW ⟨b,off+i,ZX⟩) n d) ((l.drop i).take n):=by
 obtain ⟨ao,c0,e,t,u,m,o⟩:=h;injection e with e1 e2 e3;have hl:((l.drop i).take n).length=n:=by rw [Uo,Un];omega
 refine ⟨ZW ⟨b,off+i,ZX⟩,d,by rw [hl],by rw [hl];exact p,by rw [hl];omega,λx r=>m x (UZ (UV r)),λv=>⟨b,off+i,rfl,λk g=>?_⟩⟩;rw [hl] at g;obtain ⟨s,y,a,j⟩:=o (λq=>by rw [q] at f;simp at f;omega);rw [<- e1] at a;injection a with a;injection a with e5 e6;subst e5 e6;have:=j (i+k) (by omega);rw [Vq,this];congr 3;rw [Ub,Ub,VF g,Wi]
def CK (a b:a8) (n k:Nat) (h:a.length=n):(a++b).drop (n+k)=b.drop k:=by
 subst h;rw [<- VA,YW]
def LF {o:Ob} (ho:o.fit) (rest:a8):(bM o++rest).getD 0 0=o.name.size:=by
 unfold bM;have:be o.name.size 1=[o.name.size]:=by
  have:=ho.name.2;simp [be];omega
 rw [this];rfl
def Iw (o:Ob) (rest:a8):((bM o++rest).drop 1).take o.name.size=o.name.toList.map (λ(b:UInt8)=>b.toNat):=by
 have:(be o.name.size 1).length=1:=aD _ _;have:(o.name.toList.map (λ(b:UInt8)=>b.toNat)).length=o.name.size:=by
  rw [Ue,Yi,WN];rfl
 unfold bM fL;simp only [Uz];rw [W9 (by omega),WQ (by omega),Uq,VQ (by omega),UI (by omega)]
def Ix {o:Ob} (ho:o.fit) (rest:a8):((bM o++rest).drop 17).take 2=be o.size 2:=by
 have:(be o.name.size 1++fL o.name).length=17:=by rw [Ua,aD,mh ho.name.2]
 unfold bM;rw [Uz,Uz,W9 (by omega),WQ (by omega),Uq,VQ (by rw [aD];exact TU _),UI (by rw [aD];exact TU _)]
def LG (l:a8) (j:Nat) (a:j<l.length) (r:a8):((l.flatMap (λs=>be s 4)++r).drop (4*j)).take 4=be l[j] 4:=by
 induction l generalizing j with
 | nil=>cases a
 | cons x l ih=>
  cases j with
  | zero=>rw [VE,Nat.mul_zero,Yn,Uz,VQ (by rw [aD];exact TU _),UI (by rw [aD];exact TU _)];rfl
  | succ j=>
   rw [VE,show 4*(j+1)=4+4*j by omega,Uz,CK _ _ 4 (4*j) (aD _ _)];exact ih j (by simpa using a)
def LH {o:Ob} (ho:o.fit):(be o.name.size 1++fL o.name++be o.size 2).length=19:=by rw [Ua,Ua,aD,aD,mh ho.name.2]
def CL {o:Ob} (ho:o.fit) (rest:a8) (j:Nat) (b:j<o.RK.length):((bM o++rest).drop (19+4*j)).take 4=be o.RK[j] 4:=by
 have a:=LH ho;unfold bM;rw [Uz,CK _ _ 19 (4*j) a,LG _ _ b]
def Iy {o:Ob} (ho:o.fit) (rest:a8):(bM o++rest).drop (19+4*o.RK.length)=rest:=by
 rw [<- cY ho,W9 lR,WQ lR,Uq]
def QP:Array ZS:=#[.string ⟨#[]⟩,Z7 Z9 0,Z5 ZX 0 0]
def LI {a:Act} (j:o.guard=ZX) (x y:Operand) (ho:o.op=.store 152 x y) {b:Nat} {cs cs':Array ZS}
 (k:a.eval x=Z6 (ZW ⟨b,0,ZX⟩)) (l:a.eval y=.agg cs') (g:w.heap[b]?=ZW (Z4 cs 152 (0,0))) (i:cs.size=3) (c:cs'.size=3) (e:cs'.all (·.oneCell')=ZV) (h:wpList ZN ops Q rest (a.put o.dst undef) (w.setRow b cs')):wpList ZN ops Q (o::rest) a w:=by
 have d:(ZN.info? 152).map (·.size)=ZW 3:=by kernel_rfl
 have f:(Instr.storeAt 152 (Z6 (ZW ⟨b,0,ZX⟩)) (.agg cs')).run ZN w=.ok () (w.setRow b cs'):=by
  simp only [Instr.storeAt,Instr.sureAddr,UE,VJ,UQ,XU w b 152 152 cs cs' g (by rw [c];exact d) (by rw [i,c]) e]
 refine VT j λK hK=>?_;unfold Oper.wp;simp [execOp,ho,k,l,f,Result.andThen];exact hK _ _ h
def CM {P:Program} {fn:Func} {p t u:Tmp} {ty:ZO} (h:fn.results=#[.cell p ty,.tmp t,.tmp u]) (tmps:Array ZS) (w:ZT) (g:Nat) (b:ZO) (cs:Array ZS) (a:Nat×Nat) (d:TypeDesc) (x y:ZS)
 (l:tmps.getD p undef=Z6 (ZW ⟨g,0,ZX⟩)) (n:tmps.getD t undef=x) (o:tmps.getD u undef=y) (j:w.heap[g]?=ZW (Z4 cs b a)) (m:P.underlying ty=ZW d) (i:(match d with|.struct _|.array _ _=>ZV|_=>ZU)=ZV) (k:(P.info? ty).map (·.size)=ZW cs.size) :
 (results fn tmps).run P w=.ok (ZY #[.agg cs,x,y]) w:=by
 have c:tmps[p]?.getD undef=Z6 (ZW ⟨g,0,ZX⟩):=by simpa using l
 have e:tmps[t]?.getD undef=x:=by simpa using n
 have f:tmps[u]?.getD undef=y:=by simpa using o
 simp [results,h,c,e,f,asAddr,Xa w g b ty cs a d j m i k]
def UoR (w:ZT) (nm:ByteArray) (sz:Nat) (st:a8) (i:ZS) (wr:ZT):Prop:=∃ (j:Nat) (sv:ZS),j<=st.length/\i=Z7 Z9 j/\wr.heap[w.heap.size]?=ZW (Z4 #[ZZ nm,Z7 Z9 (sz:Int),sv] 152 (0,0))/\wr.ownsRow w.heap.size 3 1 sv j (jR (st.take j))/\bW w wr
structure Qt (w:ZT) (b off bl c:Nat) (o:Ob) (rest:a8) (e:ZP) (w':ZT):Prop where
 out:∃ sa sc bv,e=Z3 (ZY #[.agg #[ZZ o.name,Z7 Z9 (o.size:Nat),.slice sa o.RK.length sc],bv,Z1 ZV])/\bf (λk=>w.heap.size<=k) w' (.slice sa o.RK.length sc) o.RK/\∀ w0,Bs w0 (Z5 (ZW ⟨b,off,ZX⟩) bl c) (bM o++rest)->Bs w0 bv rest
 below:bW w w'
theorem rI {b off:Nat} {o:Ob} {rest:a8} (ss:Nat) (p:Bs w (Z5 (ZW ⟨b,off,ZX⟩) bl c) (bM o++rest)) (g:bl=(bM o++rest).length) (ho:o.fit) (xa:1<=ss/\ss<=1000000) (l:o.RK.length=max 1 ((o.size+ss-1)/ss)) (hr:rest.length<=100000000) :
 ZQ ZN 185 #[Z5 (ZW ⟨b,off,ZX⟩) bl c,Z7 Z9 ss] w λe w'=>Qt w b off bl c o rest e w':=by
 have M:bl=19+4*o.RK.length+rest.length:=by rw [g,Ua,cY ho]
 have Y:=ho.len;have x2:=ho.name;have kr:=ho.size;obtain ⟨ao,c0,e0,kx,_,hx,hn⟩:=id p;injection e0 with S e2 e3;subst e3;rw [<- g] at kx hn;obtain ⟨b',o',x,qh⟩:=hn (λq=>by rw [q] at g;simp at g;omega);rw [<- S] at x;injection x with x;injection x with e5 e6;subst e5 e6;clear S e2;have d0:=qh 0 (by omega);rw [VN,LF ho] at d0;have kk:(w.alloc (Z4 QP 152)).heap[w.heap.size]?=ZW (Z4 QP 152 (0,0)):=Ug _ _;have O:bW w (w.alloc (Z4 QP 152)):=bA w _;have km:(w.alloc (Z4 QP 152)).heap.size=w.heap.size+1:=by simp
 obtain ⟨w1,qd⟩:=nM (w.alloc (Z4 QP 152));rw [qd] at kk O km;have xc:w.alloc (Z4 #[.string ⟨#[]⟩,Z7 Z9 0,Z5 ZX 0 0] 152)=w1:=qd;have x0:b<w.heap.size:=Uf d0;have c1:w1.cell? ⟨b,off,ZX⟩=ZW (Z7 .u8 (o.name.size:Nat)):=(Uk (O.block b x0)).trans d0;have X:=p.mono O;obtain ⟨m,A⟩:=nM (o.RK.length);obtain ⟨sz,t⟩:=nM (o.size);obtain ⟨J,r⟩:=nM (o.name.size);have q9:=ze (Z5 (ZW ⟨b,off+17,ZX⟩) 2 (c-17)) (be o.size 2) w1 (by rw [<- Ix ho rest];exact X.sub 17 2 _ (by omega) (by omega));rw [ld o.size 2 (by omega) (by omega),t] at q9;have q0:=mP sz ss (by omega) xa w1;rw [<- t,<- l,A] at q0;rw [t] at q0;rw [A] at M Y;rw [r] at c1 x2;have qa:=gv m (by omega) w1;obtain ⟨lo,Z⟩:=nM (19+4*m);rw [Z] at M qa;have xd:¬ ((bl:Nat):Int)<19:=by omega
 have qv:¬ c=17:=by omega
 have xf:¬ ((J:Nat):Int)<1:=by omega
 have xg:¬ ((J:Nat):Int)>16:=by omega
 have xi:¬ ((sz:Nat):Int)>1500:=by omega
 have hll:¬ ((bl:Nat):Int)<(lo:Int):=by omega
 have xk:IntKind.i64.wrap (J:Int)=J:=by rw [Ux];omega
 have H:=hide13 q9 q0 qa X kk O km A t r p g l;have HL:=a6 M Z Y kr kx;have qy:19<=bl:=by omega
 have qz:19<=c:=by omega
 clear M Z Y kr kx;clear q9 q0 qa X kk O km A t r p g l hn qh qd d0 hx;go_enter func185,ntmps185;go_wp2_with fail;refine H.o.1.mono ?_;rintro e w2 ⟨rfl,I⟩;obtain rfl:w1=w2:=I.symm;clear I;have xj:IntKind.i64.wrap (sz:Int)=sz:=by have:=HL.o.2.2.2.1;have:=H.o.2.2.2.2.2.2.2.2.1;rw [Ux];omega
 go_wp2_with fail;refine H.o.2.1.mono ?_;rintro e w2 ⟨rfl,I⟩;obtain rfl:w1=w2:=I.symm;clear I;go_wp2_with fail;refine H.o.2.2.1.mono ?_;rintro e w2 ⟨rfl,I⟩;obtain rfl:w1=w2:=I.symm;clear I;obtain ⟨_,_,_,X,kk,O,km,A,t,r,p,g,l⟩:=H.o;have qi:(convert 40 9 (Z5 (ZW ⟨b,off+1,ZX⟩) J (c-1))).run ZN w1=.ok (ZZ o.name) w1:=by
  have qm:o.name.toList.length=J:=by rw [Yi,WN,<- r];rfl
  have kv:=X.sub 1 J (c-1) (by rw [<- g];omega) (by omega);rw [<- r,Iw o rest] at kv;obtain ⟨ao,cc,S,_,_,_,T⟩:=kv;injection S with S e2 e3;have ky:o.name.toList.map (λ(b:UInt8)=>b.toNat)≠[]:=λe=>by
   have:=Uy YM e;rw [Ue,qm] at this;simp at this;omega
  obtain ⟨b',o',x,x1⟩:=T ky;rw [<- S] at x;injection x with x;injection x with e5 e6;subst e5 e6;have:=run_convert_bytes_back (P:=ZN) w1 40 9 5 ⟨b,off+1,ZX⟩ (c-1) o.name.toList Um Xg aaN (λj hj=>by
   have U:=x1 j (by rw [Ue];exact hj);have h8:(o.name.toList.map (λ(b:UInt8)=>b.toNat)).getD j 0=(o.name.toList[j]).toNat:=by
    rw [Ub,UG,Uc hj];rfl
   rw [h8] at U;unfold Addr.add;split
   . rename_i h0;subst h0;exact U
   . exact U)
  rw [qm] at this;rw [this];congr 2;rw [Yi]
 clear X p g l A t r O;have x7:¬ c=1:=by omega
 have HQ:=al kk km;clear kk km;obtain ⟨nm,q8⟩:=nM (o.name);rw [q8] at qi;have xh:1+J<=c:=by omega
 go_wp2_with (show wpList _ _ _ ({ dst:=ZX,op:=Op.store 152 (Z0 4) (Z0 50),type:=_,pos:=_,after:=_,guard:=_ }::_) _ _;refine LI (b:=w.heap.size) (cs:=QP) (cs':=#[ZZ nm,Z7 Z9 (sz:Int),Z5 ZX 0 0]) rfl (Z0 4) (Z0 50) rfl (by rfl) (by rfl) (by exact HQ.o.1) rfl rfl (by simp [Value.oneCell']) ?_);have qn:(w1.setRow w.heap.size #[ZZ nm,Z7 Z9 (sz:Int),Z5 ZX 0 0]).heap[w.heap.size]?=ZW (Z4 #[ZZ nm,Z7 Z9 (sz:Int),Z5 ZX 0 0] 152 (0,0)):=Vp _ _ _ _ _ _ HQ.o.1;have qg:bW w (w1.setRow w.heap.size #[ZZ nm,Z7 Z9 (sz:Int),Z5 ZX 0 0]):=H.o.2.2.2.2.2.1.grown (aX _ _ _) H.o.2.2.2.2.2.1.size (λk e=>by have:=UM e;omega);have H8:=al qn qg;have qs:=ak q8;clear qn qg qi q8;go_loopw [52] (λi wr=>UoR w nm sz o.RK i wr) (λi _=>m-(intOf i).toNat)
 case atStart=>exact ⟨0,_,T8 _,rfl,H8.o.1,UK _ _ _ _,H8.o.2⟩
 case round=>
  clear H8;obtain ⟨j,sv,hj,rfl,f,W,z⟩:=hrel;obtain ⟨_,_,_,_,_,_,_,A,t,r,p,g,l⟩:=H.o;obtain ⟨M,Z,Y,kr,kx⟩:=HL.o;have q1:=p.mono (w':=wr) z;have qe:=z.size;have kg:w.heap.size<wr.heap.size:=(T5.1 f).1;by_cases xe:j<m
  . have q6:j<o.RK.length:=(by omega);obtain ⟨ii,x5,q3,q4,q5⟩:=Ut Tryz.Sr;have x9:=ho.st _ (T6 q6);have Q:=q1.sub (19+4*j) 4 (c-(19+4*j)) (by rw [<- g];omega) (by omega);rw [CL ho rest j q6] at Q;obtain ⟨s,hs⟩:=nM (o.RK[j]);rw [hs] at x9 Q;have qq:jR (o.RK.take (j+1))=jR (o.RK.take j)++[Z7 Z9 (s:Int)]:=by
     rw [Vd,Uc q6,hs];unfold jR;rw [Uv];rfl
    obtain ⟨d,a,hq,D,ke,_,_⟩:=run_append_own_at (P:=ZN) (wr.drew.alloc (Z4 #[Z7 Z9 (s:Int)] 3)) w.heap.size 48 0 3 ii (Z7 Z9 0) 1 8 aaK x5 q3 q4 q5 rfl (by decide) sv j (jR (o.RK.take j)) ((show wr.drew.ownsRow w.heap.size 3 1 sv j (jR (o.RK.take j)) from W).alloc _) ⟨wr.heap.size,0,ZX⟩ 1 1 [Z7 Z9 (s:Int)] rfl (nG wr.drew _ _) (by intro u hu;simp at hu;subst hu;rfl) (by unfold maxLen;omega) (by omega) (by simp;omega);have qb:(wr.drew.alloc (Z4 #[Z7 Z9 (s:Int)] 3)).heap[w.heap.size]?=ZW (Z4 #[ZZ nm,Z7 Z9 (sz:Int),sv] 152 (0,0)):=(UB _ _ _ kg).trans f;have hp:(wr.drew.alloc (Z4 #[Z7 Z9 (s:Int)] 3)).ownsRow w.heap.size 3 1 sv j (jR (o.RK.take j)):=(show wr.drew.ownsRow w.heap.size 3 1 sv j (jR (o.RK.take j)) from W).alloc _;have E:=(ke.block w.heap.size (by simp;omega) (λe=>bC hp qb (by decide) e.symm)).trans qb;have hv:=bj D;have q2:bW w (wr.drew.alloc (Z4 #[Z7 Z9 (s:Int)] 3)):=z.drew.alloc qe _;have n:bW w a:=q2.grown ke q2.size (λk e=>ef hp e);rw [<- qq] at D;have qf:=hide7 f Q hq D E hv n;have x6:j<=100000:=(by omega);have x4:19+4*j+4<=bl:=(by omega);clear f W z A t r p g l M Z Y kr q1 Q hq D ke qb hp E hv q2 n qq hs qe kg;go_wp2_with fail;obtain ⟨f,Q,hq,D,E,⟨va,vc,hv⟩,n⟩:=qf.out;obtain ⟨B,ks⟩:=nM (19+4*j);obtain ⟨T,x3⟩:=nM (B+4);have R:=gv j (by omega) wr.drew;have p2:=gv (j+1) (by omega) wr.drew;have p3:=ze _ (be s 4) wr.drew Q;rw [ks] at R p3 x4;rw [show 19+4*(j+1)=T by omega] at p2;rw [ld s 4 (by omega) (by omega)] at p3;have L:wr.cell? ⟨w.heap.size,2,ZX⟩=ZW sv:=(by simp [World.cell?,f]);have hd:(wr.drew.alloc (Z4 #[Z7 Z9 (s:Int)] 3)).cell? ⟨w.heap.size,2,ZX⟩=ZW sv:=(World.cell?_alloc_some wr.drew _ _ (by rw [show wr.drew.cell? ⟨w.heap.size,2,ZX⟩=ZW sv from L];rfl)).trans L;have qr:a.cell? ⟨w.heap.size,2,ZX⟩=ZW sv:=(by simp [World.cell?,E]);have xm:a.frozen? ⟨w.heap.size,2,ZX⟩=ZU:=(by simp [World.frozen?,E]);have k1:B<=T:=(by omega);have k3:T<=c:=(by omega);have k4:T-B=4:=(by omega);have k5:¬ c=B:=(by omega);have k6:IntKind.i64.wrap (s:Int)=s:=(by rw [Ux];omega);have k7:IntKind.i64.wrap ((j:Int)+1)=(j:Int)+1:=(by rw [Ux];omega);have qo:∀ ty,(Builtin.append_ #[48,48] ty #[sv,Z5 (ZW ⟨wr.heap.size,0,ZX⟩) 1 1]).run ZN (wr.drew.alloc (Z4 #[Z7 Z9 (s:Int)] 3))=.ok d a:=λ_=>hq;refine du 14 [(0,ZV),(1,ZV),(2,ZV),(3,ZV),(5,ZV),(6,ZV),(4,ZU),(7,ZU),(8,ZV),(9,ZU),(10,ZV),(11,ZU),(12,ZU),(13,ZV),(14,ZU)] (λw'=>w'.cell? ⟨w.heap.size,2,ZX⟩=ZW sv) (by kernel_rfl) (by kernel_rfl) L ?_;iterate 6 (refine aC rfl rfl ?_;apply YJ;refine ⟨λw' F=>?_,?_⟩;(first|(go_simp;done)|(go_simp;exact rfl));simp only [Act.put,TX,TY,TZ])
    refine fF R rfl rfl (by go_simp) ?_;rintro e w3 ⟨rfl,rfl⟩;refine ⟨_,rfl,λ_=>L,?_⟩;simp only [Act.put,TX,TY,TZ];refine fF p2 rfl rfl (by go_simp) ?_;rintro e w3 ⟨rfl,rfl⟩;refine ⟨_,rfl,λ_=>L,?_⟩;simp only [Act.put,TX,TY,TZ];refine aC rfl rfl ?_;apply YJ;refine ⟨λw' F=>?_,?_⟩;(first|(go_simp;done)|(go_simp;exact rfl));simp only [Act.put,TX,TY,TZ];refine fF p3 rfl rfl (by go_simp) ?_;rintro e w3 ⟨rfl,rfl⟩;refine ⟨_,rfl,λ_=>L,?_⟩;simp only [Act.put,TX,TY,TZ];refine aC rfl rfl ?_;apply YJ;refine ⟨λw' F=>?_,?_⟩;(first|(go_simp;done)|(go_simp;exact rfl));simp only [Act.put,TX,TY,TZ];refine eK (v:=Z5 (ZW ⟨wr.heap.size,0,ZX⟩) 1 1) (w1:=wr.drew.alloc (Z4 #[Z7 Z9 (s:Int)] 3)) rfl rfl (by go_simp) (λ_=>hd) ?_;simp only [Act.put,TX,TY,TZ];refine eK (v:=d) (w1:=a) rfl rfl (by simp [execOp,Act.eval,resolve,invoke,builtin,qo]) (λ_=>qr) ?_;simp only [Act.put,TX,TY,TZ];refine aC rfl rfl ?_;apply YJ;refine ⟨λw' F=>?_,?_⟩;(first|(go_simp;done)|(go_simp;exact rfl));simp only [Act.put,TX,TY,TZ];refine jX (w1:=a.setCell ⟨w.heap.size,2,ZX⟩ d) rfl rfl (by subst hv;go_simp) AR (cB ?_);obtain ⟨w3,G⟩:∃ w3,w3=a.setCell ⟨w.heap.size,2,ZX⟩ d:=⟨_,rfl⟩;rw [<- G];clear R p2 p3 L hd qr xm k1 k3 k4 k5 k6 k7 qo ks x3;have kz:w3.heap[w.heap.size]?=ZW (Z4 #[ZZ nm,Z7 Z9 (sz:Int),d] 152 (0,0)):=(by rw [G];exact aaI a w.heap.size 2 _ _ d E);have N:aa (λk=>k=w.heap.size) a w3:=(by rw [G];exact aa.setCell _ _ _ rfl);have k0:w3.ownsRow w.heap.size 3 1 d (j+1) (jR (o.RK.take (j+1))):=bR D N (λk hk e=>bC D E (by decide) (by rw [hk,e]));have kp:bW w w3:=⟨N.os.trans n.os,N.tape.trans n.tape,N.output.trans n.output,TV n.size N.size,λk hk=>(N.block k (by have:=n.size;omega) (by omega)).trans (n.block k hk)⟩;have H3:=aE kz k0 kp;clear f Q hq D E hv n kz N k0 kp G qf;rename_i ko
    refine ko _ _ ?_;clear ko;simp only [Act.put];go_wp2;go_roundw
    case rel=>exact ⟨j+1,d,by have:=H.o.2.2.2.2.2.2.2.1;omega,by go_num,H3.o.1,H3.o.2.1,H3.o.2.2⟩
    case measure=>simp [intOf];omega
  . have q7:j=m:=(by omega);subst q7;obtain ⟨C,sc,xb⟩:=bj W;subst xb;have ky:o.RK≠[]:=λe=>by
     have y:=Uy YM e;have h2:1<=o.RK.length:=(by rw [l];exact Y6 _ _);rw [y] at h2;simp at h2
    have V:=Cp (K:=λk=>w.heap.size<=k) (show wr.ownsRow w.heap.size 3 1 (.slice C j sc) j (jR o.RK) by have y:=W;rw [UI (by omega)] at y;exact y) ky (by omega) (λk hk=>hk);have V:=V.choose_spec.choose_spec.2;obtain ⟨ra,qp⟩:∃ ra:Option Addr,(c=lo/\ra=ZW ⟨b,off,ZX⟩)\/(c≠lo/\ra=ZW ⟨b,off+lo,ZX⟩):=by
     by_cases U:c=lo
     . exact ⟨_,.inl ⟨U,rfl⟩⟩
     . exact ⟨_,.inr ⟨U,rfl⟩⟩
    have hf:∀ w0,Bs w0 (Z5 (ZW ⟨b,off,ZX⟩) bl c) (bM o++rest)->Bs w0 (.slice ra (bl-lo) (c-lo)) rest:=by
     intro w0 qx;have y:=qx.sub lo (bl-lo) (c-lo) (by rw [<- g];omega) (by omega);have h2:((bM o++rest).drop lo).take (bl-lo)=rest:=by
      rw [show lo=19+4*o.RK.length by omega,Iy ho,UI (by omega)]
     rw [h2] at y;rcases qp with ⟨h3,rfl⟩|⟨h3,rfl⟩
     . have x8:rest=[]:=Yd.1 (by omega);subst x8;refine ⟨ZW ⟨b,off,ZX⟩,c-lo,?_,by simp,by decide,λ_ h=>(by cases h),λh=>absurd rfl h⟩;simp only [UT];congr 1;omega
     . exact y
    have Hr:=a5 f V hf z;have x6:j<=100000:=(by omega);clear f W z A t r p g l M Y kr q1 V hf qe kg ky;go_wp2_with fail;have f:=Hr.o.1;have kf:(ZN.info? 152).map (·.size)=ZW 3:=(by kernel_rfl);have qj:(Instr.loadAt 152 (Z6 (ZW ⟨w.heap.size,0,ZX⟩))).run ZN wr.drew=.ok (.agg #[ZZ nm,Z7 Z9 (sz:Int),.slice C j sc]) wr.drew:=(by simp only [Instr.loadAt,Instr.sureAddr,UE,VJ,UQ,Xa wr.drew w.heap.size 152 152 #[ZZ nm,Z7 Z9 (sz:Int),.slice C j sc] (0,0) _ f underlying152 rfl kf]);have l:(Instr.storeAt 152 (Z6 (ZW ⟨w.heap.size,0,ZX⟩)) (.agg #[ZZ nm,Z7 Z9 (sz:Int),.slice C j sc])).run ZN wr.drew=.ok () wr.drew:=by
     simp only [Instr.storeAt,Instr.sureAddr,UE,VJ,UQ,XU wr.drew w.heap.size 152 152 #[ZZ nm,Z7 Z9 (sz:Int),.slice C j sc] #[ZZ nm,Z7 Z9 (sz:Int),.slice C j sc] f kf rfl (by simp [Value.oneCell'])];rw [setRow_self wr.drew w.heap.size _ 152 (0,0) f]
    have R:=gv j (by omega) wr.drew;rw [Z] at R;refine du 99 [(0,ZV),(1,ZV),(2,ZV),(3,ZU),(4,ZV),(5,ZU),(6,ZV),(7,ZV)] (λw'=>w'=wr.drew) (by kernel_rfl) (by kernel_rfl) rfl ?_;refine aC rfl rfl ⟨_,λw' F=>by subst F;simp [execOp,Act.eval,qj];rfl,?_⟩;simp only [Act.put,TX,TY,TZ];iterate 2 (refine aC rfl rfl ?_;apply YJ;refine ⟨λw' F=>?_,?_⟩;(first|(go_simp;done)|(go_simp;exact rfl));simp only [Act.put,TX,TY,TZ])
    refine fF R rfl rfl (by go_simp) ?_;rintro e w3 ⟨rfl,rfl⟩;refine ⟨_,rfl,λ_=>rfl,?_⟩;simp only [Act.put,TX,TY,TZ];refine aC rfl rfl ⟨.slice ra (bl-lo) (c-lo),λw' F=>by rcases qp with ⟨y,rfl⟩|⟨y,rfl⟩<;>go_simp,?_⟩;simp only [Act.put,TX,TY,TZ];refine jX (w1:=wr.drew) rfl rfl (by simp [execOp,Act.eval,l]) (λ_=>rfl) ?_;simp only [Act.put,TX,TY,TZ];iterate 2 (refine aC rfl rfl ?_;apply YJ;refine ⟨λw' F=>?_,?_⟩;(first|(go_simp;done)|(go_simp;exact rfl));simp only [Act.put,TX,TY,TZ])
    refine cB ?_;clear qj l R f kf;obtain ⟨w3,G⟩:∃ w3,w3=wr.drew:=⟨_,rfl⟩;rw [<- G];rename_i ko
    refine ko _ _ ?_;clear ko;go_wp2;obtain ⟨f,V,hf,z⟩:=Hr.o;have kz:w3.heap[w.heap.size]?=ZW (Z4 #[ZZ nm,Z7 Z9 (sz:Int),.slice C j sc] 152 (0,0)):=(by rw [G];exact f);refine Us (v:=ZY #[.agg #[ZZ nm,Z7 Z9 (sz:Int),.slice C j sc],.slice ra (bl-lo) (c-lo),Z1 ZV]) (CM results185 _ w3 w.heap.size 152 _ (0,0) _ _ _ rfl rfl rfl kz underlying152 rfl (by kernel_rfl)) rfl ?_;have qk:=H.o.2.2.2.2.2.2.2.1;have qc:=H.o.2.2.2.2.2.2.2.2.1;have kp:bW wr w3:=(by rw [G];exact (TW _ wr).drew);refine ⟨⟨C,sc,_,by rw [qs.out,qc,qk],?_,hf⟩,z.trans (kp.mono z.size)⟩;rw [qk];exact V.keep (eo.RM kp)
def Ry (l:a8):ByteArray:=⟨(l.map YU).toArray⟩
theorem uG (h:Bs w v l):(convert 40 9 v).run ZN w=.ok (ZZ (Ry l)) w:=by
 obtain ⟨ao,c,rfl,_,_,k,f⟩:=h;by_cases hl:l=[]
 . subst hl;exact Ai ao c w
 . obtain ⟨b,off,rfl,i⟩:=f hl;have:=run_convert_bytes_back (P:=ZN) w 40 9 5 ⟨b,off,ZX⟩ c (l.map YU) Um Xg aaN (λj a=>by
    rw [Ue] at a;have d:=i j a;have g:((l.map YU)[j]'(by rw [Ue];exact a)).toNat=l.getD j 0:=by
     rw [UN,Ub,Uc a];have:=k _ (T6 a);simp;omega
    rw [g];unfold Addr.add;split
    . rename_i e;subst e;exact d
    . exact d)
   rw [Ue] at this;exact this
theorem EM {v':ZS} (h:Bs w v l) (b:Bs w v' l):ZQ ZN 186 #[v,v'] w λe w'=>e=Z3 (Z1 ZV)/\w'=w:=by
 have g:=uG h;have i:=uG b;obtain ⟨ao,c,rfl,_⟩:=h;obtain ⟨j,d,rfl,_⟩:=b;obtain ⟨S,f⟩:=nM (Ry l);obtain ⟨N,a⟩:=nM (l.length);rw [f,a] at g i;rw [a];clear f a;go_enter func186,ntmps186;go_wp2;go_ret;exact ⟨rfl,rfl⟩
def CN (D:Nat) (l:a8) (os:List Ob):Prop:=∀ (w:ZT) (v:ZS),Bs w v l->ZQ ZN 155 #[v,Z7 Z9 ((D*44:Nat):Int)] w λe w'=>∃ o,e=Z3 (ZY #[o,Z1 ZV])/\eO (λk=>w.heap.size<=k) w' o os/\bW w w'
def Bs.Tr (h:w.ownsRow base 5 1 v n (aJ l)) (c:∀ x∈l,x<256) (hl:l.length<=1000000000):Bs w v l:=by
 have i:l.length=n:=by have:=h.1;rw [aW] at this;omega
 rcases h.2 with ⟨rfl,q⟩|⟨g,cap,cur,rfl,j,d,m,o,p,e⟩
 . have:l=[]:=Yd.1 (by omega);subst this;exact ⟨ZX,0,rfl,TU _,by decide,c,λh=>absurd rfl h⟩
 . refine ⟨ZW ⟨g,0,ZX⟩,cap,by rw [i],by omega,by omega,c,λ_=>⟨g,0,rfl,λk b=>?_⟩⟩;have a:=Uy (λl=>l[k]?) e;simp only [V9,aJ] at a;rw [VF (by omega),abc,UG,Uc b] at a;have f:l.getD k 0=l[k]:=(by simp [Ub,b]);rw [f];simp only [Uj,World.cell?,d];exact a
def Aj (os:List Ob) (sv:Nat->ZS) (k:Nat):List ZS:=(YF k).flatMap λi=>[ZZ (os.getD i FV).name,Z7 Z9 ((os.getD i FV).size:Nat),sv i]
def Gc (os:List Ob) (sv:Nat->ZS):∀ k,(Aj os sv k).length=k*3
 | 0=>rfl
 | k+1=>by
  unfold Aj;rw [Vr,WL,Ua];have:=Gc os sv k;unfold Aj at this;rw [this];simp;omega
def oL (os:List Ob) (sv:Nat->ZS) (k:Nat):Aj os sv (k+1)=Aj os sv k++[ZZ (os.getD k FV).name,Z7 Z9 ((os.getD k FV).size:Nat),sv k]:=by
 unfold Aj;rw [Vr,WL];simp
def Iz {os:List Ob} {sv':Nat->ZS} (h:∀ i,i<k->sv i=sv' i):Aj os sv k=Aj os sv' k:=by
 induction k with
 | zero=>rfl
 | succ k ih=>rw [oL,oL,ih (λi a=>h i (by omega)),h k (by omega)]
def EN (os:List Ob) (sv:Nat->ZS):∀ (k i:Nat),i<k->(Aj os sv k)[i*3]?=ZW (ZZ (os.getD i FV).name)/\(Aj os sv k)[i*3+1]?=ZW (Z7 Z9 ((os.getD i FV).size:Nat))/\(Aj os sv k)[i*3+2]?=ZW (sv i)
 | k+1,i,hi=>by
  have hl:=Gc os sv k;rw [oL];by_cases h:i<k
  . obtain ⟨a,b,c⟩:=EN os sv k i h;rw [Vv (by omega),Vv (by omega),Vv (by omega)];exact ⟨a,b,c⟩
  . have e:i=k:=(by omega);subst e;rw [U6 (by omega),U6 (by omega),U6 (by omega),hl,show i*3-i*3=0 by omega,show i*3+1-i*3=1 by omega,show i*3+2-i*3=2 by omega];exact ⟨rfl,rfl,rfl⟩
def EO {os:List Ob} (h:w.ownsRow base 152 3 v os.length (Aj os sv os.length)) (hl:os.length<=1000000) (hK:∀ k,base<=k->K k) (q:∀ i (a:i<os.length),bf K w (sv i) os[i].RK):eO K w v os:=by
 rcases h.2 with ⟨o,p⟩|⟨g,cap,cur,f,m,n,_⟩
 . have:os=[]:=Yd.1 p;subst this;rw [o];exact eO.nil _ _
 . refine ⟨ZW ⟨g,0,ZX⟩,cap,f,hl,λ_=>⟨g,0,rfl,hK g m,⟨_,_,_,n,by decide⟩,λi a=>?_⟩⟩;obtain ⟨c,d,l⟩:=EN os sv os.length i a;have e:os.getD i FV=os[i]:=(by simp [Ub,a]);rw [e] at c d;have b:∀ j u,(Aj os sv os.length)[j]?=ZW u->w.cell? ⟨g,j,ZX⟩=ZW u:=λj u r=>by
    have:=h.cells (g:=g) (by rw [f];rfl) j u r;rwa [jy] at this
   refine ⟨sv i,?_,?_,?_,q i a⟩
   . rw [Uj];exact b _ _ c
   . rw [Uj];exact b _ _ d
   . rw [Uj];exact b _ _ l
def packL_le:∀ {l:List Ob},(∀ o∈l,o.fit)->(an l).length<=l.length*5000
 | [],_=>by simp [an]
 | o::l,h=>by
  have:=packL_le (l:=l) (λx b=>h x (UJ _ b));have a:=h o (U7 ..);have:=a.len;have e:an (o::l)=bM o++an l:=rfl;rw [e,Ua,cY a,UA];omega
structure UpI (w:ZT) (os:List Ob) (k:Nat) (cv rv:ZS) (sv:Nat->ZS) (wr:ZT):Prop where
 rest:Bs w rv (an (os.drop k))
 own:wr.ownsRow w.heap.size 152 3 cv k (Aj os sv k)
 ints:∀ i (hi:i<os.length),i<k->bf (λb=>w.heap.size<=b/\cv.ownBlock≠ZW b) wr (sv i) os[i].RK
 below:bW w wr
def Gd {wr w4 w5:ZT} {os:List Ob} {sz sc:Nat} {cv v5 bv:ZS} {rv:ZS} {nm:ByteArray} {sa:Option Addr} (I:k<os.length) (g:UpI w os k cv rv sv wr) (y:bW wr w2) (H:bf (λb=>wr.heap.size<=b) w2 (.slice sa m sc) os[k].RK) (G:Bs w bv (an (os.drop (k+1))))
 (z:bW w2 w4) (J:os[k].name=nm) (L:os[k].size=sz) (K:w5.ownsRow w.heap.size 152 3 v5 (k+1) (Aj os sv k++[ZZ nm,Z7 Z9 (sz:Int),.slice sa m sc])) (f:(w4.alloc (Z4 #[ZZ nm,Z7 Z9 (sz:Int),.slice sa m sc] 152)).grownBy w5 cv.ownBlock)
 (u:v5.ownBlock=cv.ownBlock\/v5.ownBlock=ZW (w4.alloc (Z4 #[ZZ nm,Z7 Z9 (sz:Int),.slice sa m sc] 152)).heap.size):UpI w os (k+1) v5 bv (λi=>if i=k then .slice sa m sc else sv i) w5:=by
 have E:bW w4 (w4.alloc (Z4 #[ZZ nm,Z7 Z9 (sz:Int),.slice sa m sc] 152)):=bA w4 _;have:(w4.alloc (Z4 #[ZZ nm,Z7 Z9 (sz:Int),.slice sa m sc] 152)).heap.size=w4.heap.size+1:=by simp
 have M:=y.size;have N:=z.size;have O:=g.below.size;have v:bW w2 (w4.alloc (Z4 #[ZZ nm,Z7 Z9 (sz:Int),.slice sa m sc] 152)):=z.trans (E.mono N);have x:bW wr (w4.alloc (Z4 #[ZZ nm,Z7 Z9 (sz:Int),.slice sa m sc] 152)):=y.trans (v.mono M);have A:∀ b,cv.ownBlock=ZW b->b<wr.heap.size:=λb a=>by
  obtain ⟨cur,F⟩:=bw g.own a;exact (T5.1 F).1
 have e:os.getD k FV=os[k]:=by simp [Ub,I]
 refine ⟨G,?_,λi C hr=>?_,?_⟩
 . rw [oL,e,J,L,TT rfl];rw [Iz (sv':=sv) (λi C=>TS (by omega))];exact K
 . by_cases B:i=k
   . subst B;rw [TT rfl];have l:bf (λb=>wr.heap.size<=b/\b<w2.heap.size) w2 (.slice sa m sc) os[i].RK:=by
      obtain ⟨ao,c,n,o,p⟩:=H;refine ⟨ao,c,n,o,λhl=>?_⟩;obtain ⟨b,off,r,s,j,t⟩:=p hl;exact ⟨b,off,r,⟨s,j.lt⟩,j,t⟩
     refine (l.keep (w':=w5) ⟨by have:=f.size;omega,λb a d=>?_⟩).weaken λb d=>⟨by omega,λq=>?_⟩
     . exact (f.block b (by omega) (λq=>by have:=A b q.symm;omega)).trans (v.block b a)
     . rcases u with h|h
       . rw [h] at q;have:=A b q;omega
       . rw [h] at q;have:=UM q;omega
   . rw [TS B];have l:=g.ints i C (by omega);have D:bf (λb=>(w.heap.size<=b/\cv.ownBlock≠ZW b)/\b<wr.heap.size) wr (sv i) os[i].RK:=by
      obtain ⟨ao,c,n,o,p⟩:=l;refine ⟨ao,c,n,o,λhl=>?_⟩;obtain ⟨b,off,r,s,j,t⟩:=p hl;exact ⟨b,off,r,⟨s,j.lt⟩,j,t⟩
     refine (D.keep (w':=w5) ⟨by have:=f.size;omega,λb a d=>?_⟩).weaken λb d=>⟨d.1.1,λq=>?_⟩
     . exact (f.block b (by omega) (λq=>d.1.2 q.symm)).trans (x.block b a)
     . rcases u with h|h
       . rw [h] at q;exact d.1.2 q
       . rw [h] at q;have:=UM q;omega
 . exact (g.below.trans (x.mono O)).grown f (by omega) (λb a=>ef g.own a)
def UpR (w:ZT) (os:List Ob) (cv rv:ZS) (wr:ZT):Prop:=∃ (k:Nat) (sv:Nat->ZS),k<=os.length/\UpI w os k cv rv sv wr
def uH (w:ZT) (x y z:ZS) (t:ZO):∀ j u,[x,y,z][j]?=ZW u->(w.alloc (Z4 #[x,y,z] t)).cell? ((⟨w.heap.size,0,ZX⟩:Addr).add j)=ZW u:=by
 intro j u h;rw [jy];match j,h with
 | 0,h=>simp at h;subst h;simp only [World.cell?,Ug w (Z4 #[x,y,z] t)];rfl
 | 1,h=>simp at h;subst h;simp only [World.cell?,Ug w (Z4 #[x,y,z] t)];rfl
 | 2,h=>simp at h;subst h;simp only [World.cell?,Ug w (Z4 #[x,y,z] t)];rfl
 | j+3,h=>simp at h
def Qu (w:ZT) (os:List Ob) (e:ZP) (w':ZT):Prop:=∃ o,e=Z3 (ZY #[o,Z1 ZV])/\eO (λk=>w.heap.size<=k) w' o os/\bW w w'
def Qv:ZS->Nat
 | .slice _ n _=>n
 | _=>0
theorem EP {os:List Ob} (P:Nat) (qq:1<=P/\P<=1000000) (r:Bs w v (an os)) (n:∀ o∈os,o.fit) (C:∀ o∈os,o.RK.length=max 1 ((o.size+P-1)/P)) (hr:zX os) (qo:os.length<=10000) :
 ZQ ZN 155 #[v,Z7 Z9 P] w λe w'=>Qu w os e w':=by
 obtain ⟨ao,c,hv,_⟩:=id r;obtain ⟨M,s⟩:=nM ((an os).length);rw [s] at hv;subst hv;have X:=a6 r n C hr s;clear r n C hr s;go_enter func155,ntmps155;go_wp2_with fail;go_loopw [6,7] (λcv rv wr=>UpR w os cv rv wr) (λ_ rv _=>Qv rv)
 case atStart=>exact ⟨0,λ_=>Z5 ZX 0 0,T8 _,by rw [Yn];exact X.o.1,UK _ _ _ _,λi _ h=>absurd h (Xx _),TW _ _⟩
 case round=>
  obtain ⟨k,sv,hk,j⟩:=hrel;by_cases E:k<os.length
  . obtain ⟨r,n,C,hr,s⟩:=X.o;have he:os.drop k=os[k]::os.drop (k+1):=XZ E;have kf:an (os.drop k)=bM os[k]++an (os.drop (k+1)):=(by rw [he];rfl);have L:=n _ (T6 E);have h7:=j.rest;rw [kf] at h7;have D:Bs wr _ (an (os.drop k)):=j.rest.mono j.below;rw [kf] at D;obtain ⟨W,rc,O,q2,q3,_,ka⟩:=id D;have qb:bM os[k]++an (os.drop (k+1))≠[]:=λe=>by
     have:=Uy YM e;rw [Ua,cY L] at this;simp at this
    obtain ⟨rb,ro,rfl,_⟩:=ka qb;have qp:(an (os.drop (k+1))).length<=100000000:=by
     have G:=packL_le (l:=os.drop (k+1)) (λo ho=>n o (UZ ho));rw [Un] at G;omega
    obtain ⟨bl,K⟩:=nM ((bM os[k]++an (os.drop (k+1))).length);have qf:0<bl:=(by rw [<- K,Ua,cY L];omega);rw [K] at O;rw [O] at D;have qd:=rI P D K.symm L qq (C _ (T6 E)) qp;obtain ⟨F,cc,Z⟩:=bj j.own;have HR:=ak hr;have kk:(an (os.drop (k+1))).length<bl:=(by rw [<- K,Ua,cY L];omega);clear hr;have t:=a7 j qd L K kf h7;clear j r n C s he kf L D h7 q2 q3 ka qb qd K;subst O Z;go_wp2_with fail;refine t.o.2.1.mono ?_;rintro e w2 ⟨⟨y,sc,bv,rfl,kv,hz⟩,U⟩;have km:=hz w t.o.2.2.2.2.2;clear hz;obtain ⟨o,ho⟩:=nM (os[k]);rw [ho] at kv ⊢;have a:=a5 kv km U ho;obtain ⟨hd,bc,q9,_⟩:=id km;obtain ⟨bn,q8⟩:=nM ((an (os.drop (k+1))).length);rw [q8] at q9 kk;subst q9;clear kv km U ho q8;have ki:bW w2 (w2.alloc (Z4 #[ZZ o.name,Z7 Z9 (o.size:Nat),.slice y o.RK.length sc] 152)):=bA w2 _;have kg:(w2.alloc (Z4 #[ZZ o.name,Z7 Z9 (o.size:Nat),.slice y o.RK.length sc] 152)).heap[w2.heap.size]?=ZW (Z4 #[ZZ o.name,Z7 Z9 (o.size:Nat),.slice y o.RK.length sc] 152 (0,0)):=Ug _ _;obtain ⟨w3,kh⟩:=nM (w2.alloc (Z4 #[ZZ o.name,Z7 Z9 (o.size:Nat),.slice y o.RK.length sc] 152));rw [kh] at ki kg;have q0:w3.cell? ⟨w2.heap.size,0,ZX⟩=ZW (ZZ o.name):=(by simp [World.cell?,kg]);have z:=al ki kg;clear ki kg;obtain ⟨nm,ky⟩:=nM (o.name);obtain ⟨sz,q5⟩:=nM (o.size);obtain ⟨m,hm⟩:=nM (o.RK.length);rw [ky] at q0 kh ⊢;rw [q5] at kh ⊢;rw [hm] at kh ⊢;have f:=aE ky q5 hm;clear ky q5 hm;go_wp2_with fail;obtain ⟨io,qa,k5,k6,k7⟩:=Ut Tryz.RU;by_cases qi:k=0
    . subst qi;go_quiet (fail);have B:bW w3 (w3.drewN nq):=⟨rfl,rfl,rfl,TU _,λ_ _=>rfl⟩;obtain ⟨d,V⟩:=nM (w3.drewN nq);rw [V] at B ⊢;have q:=(B.block _ (T5.1 z.o.2).1).trans z.o.2;rw [f.o.1,f.o.2.1,f.o.2.2] at q;have r0:d.cell? ⟨w2.heap.size,0,ZX⟩=ZW (ZZ nm):=(by simp [World.cell?,q]);have r1:d.cell? ⟨w2.heap.size,1,ZX⟩=ZW (Z7 Z9 (sz:Int)):=(by simp [World.cell?,q]);have r2:d.cell? ⟨w2.heap.size,2,ZX⟩=ZW (.slice y m sc):=(by simp [World.cell?,q]);have A:bW w2 d:=z.o.1.trans (B.mono z.o.1.size);have I:bW wr (d.alloc (Z4 #[ZZ nm,Z7 Z9 (sz:Int),.slice y m sc] 152)):=(a.o.2.2.1.trans (A.mono a.o.2.2.1.size)).alloc (TV a.o.2.2.1.size A.size) _;have R:=bR t.o.1.own (aa.RL I (λ_=>False)) (λ_ _ h=>h);have q6:w.heap.size<=(d.alloc (Z4 #[ZZ nm,Z7 Z9 (sz:Int),.slice y m sc] 152)).heap.size:=TV t.o.1.below.size I.size;have Q:=al R A;clear R B V q q0 A I;go_wp2_with (show wpList _ _ _ ({ dst:=ZW 44,op:=_,type:=_,pos:=_,after:=_,guard:=_ }::_) _ _;refine Yq _ rfl (Z0 41) (Z0 43) 144 rfl w.heap.size 152 io (.agg #[ZZ YH,Z7 Z9 0,Z5 ZX 0 0]) 3 48 Vo qa k5 k6 k7 rfl (by decide) (.slice F 0 cc) 0 (Aj os sv 0) rfl (by exact Q.o.1) ⟨d.heap.size,0,ZX⟩ 1 1 _ rfl rfl (uH d _ _ _ _) (by intro u T;simp at T;rcases T with rfl|rfl|rfl<;>rfl) (by unfold maxLen;omega) (by omega) (by exact q6) ?_;intro v5 w5 kz ks qh hj);refine ⟨⟨0+1,_,E,Gd E t.o.1 a.o.2.2.1 (by have S:=a.o.1;rw [f.o.2.2,<- a.o.2.2.2] at S;exact S) a.o.2.1 Q.o.2 (by rw [a.o.2.2.2];exact f.o.1) (by rw [a.o.2.2.2];exact f.o.2.1) kz ks hj⟩,?_⟩;show bn<bl;omega
    . have qs:0<k:=(by omega);obtain ⟨pv,q1⟩:=nM ((os.getD (k-1) FV).name);obtain ⟨J,qg,kp⟩:∃ J,F=ZW ⟨J,0,ZX⟩/\wr.cell? ⟨J,(k-1)*3,ZX⟩=ZW (ZZ pv):=by
       rcases t.o.1.own.2 with ⟨_,h0⟩|⟨g,cap,cur,Y,_⟩
       . omega
       . injection Y with Y _ _;refine ⟨g,Y,?_⟩;have G:=(EN os sv k (k-1) (by omega)).1;have h2:=t.o.1.own.cells (g:=g) (by rw [Y];rfl) _ _ G;rw [jy,q1] at h2;exact h2
      subst qg;have k0:w3.cell? ⟨J,(k-1)*3,ZX⟩=ZW (ZZ pv):=((a.o.2.2.1.trans (z.o.1.mono a.o.2.2.1.size)).cell (p:=⟨J,(k-1)*3,ZX⟩) (Uf kp)).trans kp;have ke:OQ nm pv=ZU:=by
       have G:=HR.o (k-1) (by omega);rw [show k-1+1=k by omega,q1] at G;have e:os.getD k FV=os[k]:=(by simp [Ub,E]);rw [e,a.o.2.2.2,f.o.1] at G;exact G
      have kx:∀ w':ZT,(binOp .leq 9 (ZZ nm) (ZZ pv)).run ZN w'=.ok (Z1 ZU) w':=λw'=>by
       unfold OQ at ke;simp [binOp,Op.stringOp,ke]
      have k9:=ke;unfold OQ at k9;have qm:((k:Nat):Int)-1=((k-1:Nat):Int):=(by omega);have qn:(((k-1:Nat)):Int).toNat=k-1:=(by omega);obtain ⟨k1,k8⟩:=nM (k-1);rw [k8] at k0 qm qn;have qj:k1<k:=(by omega);clear kp ke q1 k8;go_quiet (fail);clear k0 kx k9;have B:bW w3 (w3.drewN nq):=⟨rfl,rfl,rfl,TU _,λ_ _=>rfl⟩;obtain ⟨d,V⟩:=nM (w3.drewN nq);rw [V] at B ⊢;have q:=(B.block _ (T5.1 z.o.2).1).trans z.o.2;rw [f.o.1,f.o.2.1,f.o.2.2] at q;have r0:d.cell? ⟨w2.heap.size,0,ZX⟩=ZW (ZZ nm):=(by simp [World.cell?,q]);have r1:d.cell? ⟨w2.heap.size,1,ZX⟩=ZW (Z7 Z9 (sz:Int)):=(by simp [World.cell?,q]);have r2:d.cell? ⟨w2.heap.size,2,ZX⟩=ZW (.slice y m sc):=(by simp [World.cell?,q]);have A:bW w2 d:=z.o.1.trans (B.mono z.o.1.size);have I:bW wr (d.alloc (Z4 #[ZZ nm,Z7 Z9 (sz:Int),.slice y m sc] 152)):=(a.o.2.2.1.trans (A.mono a.o.2.2.1.size)).alloc (TV a.o.2.2.1.size A.size) _;have R:=bR t.o.1.own (aa.RL I (λ_=>False)) (λ_ _ h=>h);have q6:w.heap.size<=(d.alloc (Z4 #[ZZ nm,Z7 Z9 (sz:Int),.slice y m sc] 152)).heap.size:=TV t.o.1.below.size I.size;have Q:=al R A;clear R B V q q0 A I;go_wp2_with (show wpList _ _ _ ({ dst:=ZW 44,op:=_,type:=_,pos:=_,after:=_,guard:=_ }::_) _ _;refine Yq _ rfl (Z0 41) (Z0 43) 144 rfl w.heap.size 152 io (.agg #[ZZ YH,Z7 Z9 0,Z5 ZX 0 0]) 3 48 Vo qa k5 k6 k7 rfl (by decide) (Z5 (ZW ⟨J,0,ZX⟩) k cc) k (Aj os sv k) rfl (by exact Q.o.1) ⟨d.heap.size,0,ZX⟩ 1 1 _ rfl rfl (uH d _ _ _ _) (by intro u T;simp at T;rcases T with rfl|rfl|rfl<;>rfl) (by unfold maxLen;omega) (by omega) (by exact q6) ?_;intro v5 w5 kz ks qh hj);refine ⟨⟨k+1,_,E,Gd E t.o.1 a.o.2.2.1 (by have S:=a.o.1;rw [f.o.2.2,<- a.o.2.2.2] at S;exact S) a.o.2.1 Q.o.2 (by rw [a.o.2.2.2];exact f.o.1) (by rw [a.o.2.2.2];exact f.o.2.1) kz ks hj⟩,?_⟩;show bn<bl;omega
  . have qk:k=os.length:=(by omega);subst qk;obtain ⟨r,n,C,hr,s⟩:=X.o;have D:=j.rest;rw [WQ lR] at D;obtain ⟨W,rc,O,_⟩:=D;have q4:u7=.slice W 0 rc:=O;have hn:eO (λk=>w.heap.size<=k) wr u6 os:=EO j.own (by omega) (λk hk=>hk) (λi hi=>(j.ints i hi hi).weaken λb hb=>hb.1);have qc:=xV hn n qo;obtain ⟨F,cc,Z⟩:=bj j.own;obtain ⟨N,hN⟩:=nM (os.length);rw [hN] at Z;have H:=a5 hn j.below qc hN;clear hn qc j r n C hr s O hN;subst q4 Z;go_wp2_with fail;refine H.o.2.2.1.mono ?_;rintro e w5 ⟨g,cap,rfl,hh,kj⟩;obtain ⟨r,n,C,hr,s⟩:=X.o;have hx:∀ x∈an os,x<256:=(by obtain ⟨_,_,_,_,_,h,_⟩:=r;exact h);have hl:(an os).length<=1000000000:=(by have:=packL_le n;omega);have q7:=Bs.Tr hh hx hl;have ko:bW w w5:=H.o.2.1.trans (kj.mono H.o.2.1.size);have U:=r.mono ko;have kr:=EM q7 U;rw [s] at kr;have H5:=aE kr kj ko;rw [s];clear r n C hr s q7 U kr hh kj ko hx hl;go_wp2_with fail;refine H5.o.1.mono ?_;rintro e w6 ⟨rfl,qe⟩;obtain rfl:w5=w6:=qe.symm;clear qe;go_wp2;go_ret2;exact ⟨_,rfl,H.o.1.keep (eo.RM H5.o.2.1),H5.o.2.2⟩
def Ak (D:Nat) (hD:1<=D/\D<=1000) {os:List Ob} (c:∀ o∈os,o.fit) (b:∀ o∈os,o.RK.length=max 1 ((o.size+D*44-1)/(D*44))) (hr:zX os) (a:os.length<=10000):CN D (an os) os:=λw v d=>EP (D*44) ⟨by omega,by omega⟩ d c b hr a
structure Rt where
 D:Nat
 L:Nat
 G:Nat
 t:Nat
 f:Nat
 n:Nat
def IA (x:Rt):Array ZS:=aj x.D x.L x.G x.t x.f x.n
def lO (x:Rt):Option bE->Rt
 | some (.root D L G t f n)=>if x.t<t then ⟨D,L,G,t,f,n⟩ else x
 | _=>x
def bm (R:Nat->Option bE):Nat->Rt
 | 0=>⟨0,0,0,0,0,0⟩
 | k+1=>lO (bm R k) (R k)
def ER (x k:Nat):Option bE->Nat
 | some .blank=>x|||2^k
 | _=>x
def cy (R:Nat->Option bE):Nat->Nat
 | 0=>0
 | k+1=>ER (cy R k) k (R k)
theorem iR (R:Nat->Option bE):∀ k,k<=60->cy R k<2^k
 | 0,_=>by simp [cy]
 | k+1,h=>by
  have:=iR R k (by omega);have a:2^k<2^(k+1):=Vx (by decide) (by omega);show ER (cy R k) k (R k)<2^(k+1);unfold ER;split
  . exact WJ (by omega) a
  . omega
def uI {a:Act} (e:o.guard=ZX) (x y:Operand) (ho:o.op=.store 142 x y) {b D L G t f n:Nat} {cs:Array ZS}
 (g:a.eval x=Z6 (ZW ⟨b,0,ZX⟩)) (i:a.eval y=.agg (aj D L G t f n)) (c:w.heap[b]?=ZW (Z4 cs 142 (0,0))) (d:cs.size=6) (h:wpList ZN ops Q rest (a.put o.dst undef) (w.setRow b (aj D L G t f n))):wpList ZN ops Q (o::rest) a w:=by
 refine VT e λK hK=>?_;unfold Oper.wp;simp [execOp,ho,g,i,tT c d,Result.andThen];exact hK _ _ h
def N2 (v:ZS) (w:ZT):(Instr.typeAssert (.iface 142 v) 215 142 ZV).run ZN w=.ok (ZY #[v,Z1 ZV]) w:=by
 simp [Instr.typeAssert,UL Xy]
def ES:Option bE->Bool
 | some (.root ..)=>ZV
 | _=>ZU
def ET {o:Option bE} (h:ES o=ZU) (w:ZT):(Instr.typeAssert (fT o) 215 142 ZV).run ZN w=.ok (ZY #[.agg (aj 0 0 0 0 0 0),Z1 ZU]) w:=by
 match o,h with
 | none,_|some .blank,_|some .filled,_|some (.shard _),_=>simp [fT,dK,Instr.typeAssert,UL Xy];rfl
def EU (w:ZT):(zeroValue 231).run ZN w=.ok (.agg #[]) w:=by
 obtain ⟨a,b,c⟩:∃ a,ZN.info? 231=ZW a/\a.zero=ZW (.agg #[]):=by
  have:(ZN.info? 231).map (λi=>i.zero)=ZW (ZW (.agg #[])):=by kernel_rfl
  rw [Wq] at this;exact this
 simp [zeroValue,typeInfo,UE,b,c]
def LJ (v:ZS) (w:ZT):(Instr.typeAssert (.iface 231 v) 215 231 ZV).run ZN w=.ok (ZY #[v,Z1 ZV]) w:=by
 simp [Instr.typeAssert,UL underlying231]
def sm:Option bE->Bool
 | some .blank=>ZV
 | _=>ZU
def CO {o:Option bE} (h:sm o=ZU) (w:ZT):(Instr.typeAssert (fT o) 215 231 ZV).run ZN w=.ok (ZY #[.agg #[],Z1 ZU]) w:=by
 match o,h with
 | none,_|some (.root ..),_|some .filled,_|some (.shard _),_=>simp [fT,dK,Instr.typeAssert,UL underlying231]
def Ge {o:Option bE} (h:sm o=ZU):ER x k o=x:=by
 match o,h with
 | none,_|some (.root ..),_|some .filled,_|some (.shard _),_=>rfl
def IB {x:Rt} {o:Option bE} (h:ES o=ZU):lO x o=x:=by
 match o,h with
 | none,_|some .blank,_|some .filled,_|some (.shard _),_=>rfl
def fQ (w:ZT) (D L G t f n:Nat):ZT:=(w.alloc (Z4 (aj 0 0 0 0 0 0) 142)).setRow w.heap.size (aj D L G t f n)
def uJ (w:ZT) (D L G t f n:Nat):(fQ w D L G t f n).heap[w.heap.size]?=ZW (Z4 (aj D L G t f n) 142 (0,0)):=Vp _ _ _ _ _ _ (Ug w (Z4 (aj 0 0 0 0 0 0) 142))
def eW (w:ZT) (D L G t f n:Nat):bW w (fQ w D L G t f n):=(bA w _).trans ⟨rfl,rfl,rfl,by unfold fQ;rw [iW];exact TU _,λk a=>(aX _ _ _).block k (by simp;omega) (λq=>by have:=UM q;omega)⟩
def Al {a:Act} (b:o.guard=ZX) (x y:Operand) (ho:o.op=.store 142 x y) {D L G t f n:Nat}
 (c:a.eval x=Z6 (ZW ⟨w.heap.size,0,ZX⟩)) (d:a.eval y=.agg (aj D L G t f n)) (h:wpList ZN ops Q rest (a.put o.dst undef) (fQ w D L G t f n)):wpList ZN ops Q (o::rest) a (w.alloc (Z4 (aj 0 0 0 0 0 0) 142)):=
 uI b x y ho c d (Ug _ _) rfl h
def BkR (w:ZT) (R:Nat->Option bE) (N:Nat) (s i:ZS) (wr:ZT):Prop:=∃ k:Nat,k<=N/\i=Z7 Z9 k/\s=Z7 Z8 (cy R k:Nat)/\bW w wr
theorem uK (R:Nat->Option bE) (v:N<=60) (d:w.rowIs g 215 N (λi=>fT (R i))) :
 ZQ ZN 93 #[Z5 (ZW ⟨g,0,ZX⟩) N N] w λe w'=>e=Z3 (Z7 Z8 (cy R N:Nat))/\bW w w':=by
 have q:=d.lt;have y:=EU;go_enter func93,ntmps93;go_wp2_with fail;go_loopw [2,9] (λs i wr=>BkR w R N s i wr) (λ_ i _=>N-(intOf i).toNat)
 case atStart=>exact ⟨0,T8 _,rfl,rfl,TW _ _⟩
 case round=>
  obtain ⟨k,x,rfl,rfl,a⟩:=hrel;by_cases t:k<N
  . have j:wr.rowIs g 215 N (λi=>fT (R i)):=d.of_block (a.block g q);have c:=j.cell (i:=k) t;have b:cy R (k+1)=ER (cy R k) k (R k):=rfl;have h:=iR R k (by omega);have p:cy R k<18446744073709551616:=Xb h (Bh (by omega));have l:=a.size;cases f:sm (R k) with
    | false=>
     have n:=CO f;rw [Ge f] at b;obtain ⟨u,m⟩:=nM (fT (R k));simp only [m] at c n;have H:=al a b;clear a j b h d m;go_wp2;refine ⟨⟨k+1,by omega,by go_num,by rw [H.o.2],H.o.1.alloc l _⟩,by simp [intOf];omega⟩
    | true=>
     have f:R k=ZW .blank:=by
      match R k,f with
      | some .blank,_=>rfl
     have n:=LJ;rw [f] at c b;simp only [fT,dK] at c;have H:=al a b;clear a j b h d;go_wp2_with fail;refine (eS _ k p (by omega) _).mono ?_;rintro e w2 ⟨rfl,rfl⟩;go_wp2;refine ⟨⟨k+1,by omega,by go_num,by rw [H.o.2];rfl,H.o.1.alloc l _⟩,by simp [intOf];omega⟩
  . have r:k=N:=(by omega);subst r;have H:=ak a;clear a d;go_wp2;go_ret;exact ⟨rfl,H.o⟩
def LrR (w:ZT) (R:Nat->Option bE) (N:Nat) (i:ZS) (wr:ZT):Prop:=∃ k:Nat,k<=N/\i=Z7 Z9 k/\wr.heap[w.heap.size]?=ZW (Z4 (IA (bm R k)) 142 (0,0))/\bW w wr
theorem Am (R:Nat->Option bE) (W:N<=60) (h:w.rowIs g 215 N (λi=>fT (R i))) :
 ZQ ZN 90 #[Z5 (ZW ⟨g,0,ZX⟩) N N] w λe w'=>e=Z3 (.agg (IA (bm R N)))/\bW w w':=by
 have Q:=h.lt;have E:(w.alloc (Z4 (aj 0 0 0 0 0 0) 142)).heap[w.heap.size]?=ZW (Z4 (IA (bm R 0)) 142 (0,0)):=Ug _ _;have I:bW w (w.alloc (Z4 (aj 0 0 0 0 0 0) 142)):=bA w _;have X:=pP;go_enter func90,ntmps90;go_wp2_with fail;go_loopw [9] (λi wr=>LrR w R N i wr) (λi _=>N-(intOf i).toNat)
 case atStart=>exact ⟨0,T8 _,rfl,E,I⟩
 case round=>
  clear E I;obtain ⟨k,p,rfl,d,a⟩:=hrel;by_cases T:k<N
  . have z:wr.rowIs g 215 N (λi=>fT (R i)):=h.of_block (a.block g Q);have c:=z.cell (i:=k) T;have hl:bm R (k+1)=lO (bm R k) (R k):=rfl;have K:=a.size;have F:w.heap.size<wr.heap.size:=(T5.1 d).1;have x:(fQ wr 0 0 0 0 0 0).heap[w.heap.size]?=ZW (Z4 (IA (bm R k)) 142 (0,0)):=((eW wr 0 0 0 0 0 0).block _ F).trans d;have s:bW w (fQ wr 0 0 0 0 0 0):=a.trans ((eW wr 0 0 0 0 0 0).mono K);cases j:ES (R k) with
    | false=>
     have t1:=ET j;rw [IB j] at hl;obtain ⟨u,M⟩:=nM (fT (R k));simp only [M] at c t1;have H:=aE x s hl;clear d a z hl h x s M;go_wp2_with (show wpList _ _ _ ({ dst:=ZX,op:=Op.store 142 (Z0 5) (Z0 16),type:=_,pos:=_,after:=_,guard:=_ }::_) _ _;refine Al (w:=wr) (D:=0) (L:=0) (G:=0) (t:=0) (f:=0) (n:=0) rfl (Z0 5) (Z0 16) rfl (by rfl) (by rfl) ?_);refine ⟨⟨k+1,by omega,by go_num,by rw [H.o.2.2];exact H.o.1,H.o.2.1⟩,by simp [intOf];omega⟩
    | true=>
     obtain ⟨D,L,G,t,f,n,j⟩:∃ D L G t f n,R k=ZW (.root D L G t f n):=by
      match R k,j with
      | some (.root ..),_=>exact ⟨_,_,_,_,_,_,rfl⟩
     have t1:=N2;rw [j] at c hl;simp only [fT,dK] at c;have m:=uJ wr D L G t f n;have l:(fQ wr D L G t f n).heap[w.heap.size]?=ZW (Z4 (IA (bm R k)) 142 (0,0)):=((eW wr D L G t f n).block _ F).trans d;have y:bW w (fQ wr D L G t f n):=a.trans ((eW wr D L G t f n).mono K);obtain ⟨O,A⟩:=nM (fQ wr D L G t f n);rw [A] at m l y;have V:O.cell? ⟨wr.heap.size,3,ZX⟩=ZW (Z7 Z8 t):=(by simp [World.cell?,m,aj]);have c0:O.cell? ⟨w.heap.size,3,ZX⟩=ZW (Z7 Z8 (bm R k).t):=(by simp [World.cell?,l,IA,aj]);have H:=a6 A m l y hl;clear d a z hl h A m l y x s;by_cases J:(bm R k).t<t
     . go_wp2_with (first|(show wpList _ _ _ ({ dst:=ZX,op:=Op.store 142 (Z0 5) (Z0 16),type:=_,pos:=_,after:=_,guard:=_ }::_) _ _;refine Al (w:=wr) (D:=D) (L:=L) (G:=G) (t:=t) (f:=f) (n:=n) rfl (Z0 5) (Z0 16) rfl (by rfl) (by rfl) ?_;rw [H.o.1])|(show wpList _ _ _ ({ dst:=ZW 26,op:=_,type:=_,pos:=_,after:=_,guard:=_ }::_) _ _;refine kJ (D:=D) (L:=L) (G:=G) (t:=t) (f:=f) (n:=n) (b:=wr.heap.size) rfl (Z0 5) rfl rfl (by rfl) (by exact H.o.2.1) ?_)|(show wpList _ _ _ ({ dst:=ZX,op:=Op.store 142 (Z0 2) (Z0 26),type:=_,pos:=_,after:=_,guard:=_ }::_) _ _;refine uI (D:=D) (L:=L) (G:=G) (t:=t) (f:=f) (n:=n) (b:=w.heap.size) (cs:=IA (bm R k)) rfl (Z0 2) (Z0 26) rfl (by rfl) (by rfl) (by exact H.o.2.2.1) rfl ?_));obtain ⟨_,U,B,r,C⟩:=H.o;refine ⟨⟨k+1,by omega,by go_num,?_,r.trans ⟨rfl,rfl,rfl,by rw [iW];exact TU _,λk p=>(aX _ _ _).block k (T7 p r.size) (λq=>by have:=UM q;omega)⟩⟩,by simp [intOf];omega⟩;rw [C];rw [show lO (bm R k) (ZW (.root D L G t f n))=⟨D,L,G,t,f,n⟩ from TT J];exact Vp _ _ _ _ _ _ B
     . go_wp2_with (show wpList _ _ _ ({ dst:=ZX,op:=Op.store 142 (Z0 5) (Z0 16),type:=_,pos:=_,after:=_,guard:=_ }::_) _ _;refine Al (w:=wr) (D:=D) (L:=L) (G:=G) (t:=t) (f:=f) (n:=n) rfl (Z0 5) (Z0 16) rfl (by rfl) (by rfl) ?_;rw [H.o.1]);obtain ⟨_,U,B,r,C⟩:=H.o;refine ⟨⟨k+1,by omega,by go_num,?_,r⟩,by simp [intOf];omega⟩;rw [C];rw [show lO (bm R k) (ZW (.root D L G t f n))=bm R k from TS J];exact B
  . have S:k=N:=(by omega);subst S;have H:=al d a;clear d a h;go_wp2_with (first|(show wpList _ _ _ ({ dst:=ZW 28,op:=_,type:=_,pos:=_,after:=_,guard:=_ }::_) _ _;refine kJ (b:=w.heap.size) (ra:=IA (bm R k)) rfl (Z0 2) rfl rfl (by rfl) (by exact H.o.1) ?_)|(show wpList _ _ _ ({ dst:=ZX,op:=Op.store 142 (Z0 2) (Z0 28),type:=_,pos:=_,after:=_,guard:=_ }::_) _ _;refine uI (b:=w.heap.size) (cs:=IA (bm R k)) (D:=(bm R k).D) (L:=(bm R k).L) (G:=(bm R k).G) (t:=(bm R k).t) (f:=(bm R k).f) (n:=(bm R k).n) rfl (Z0 2) (Z0 28) rfl (by rfl) (by rfl) (by exact H.o.1) rfl ?_));have P:=Vp _ _ _ (IA (bm R k)) _ _ H.o.1;refine Us (v:=.agg (IA (bm R k))) (Wk results90 _ _ w.heap.size 142 (IA (bm R k)) (0,0) _ rfl P Xy rfl (kI _ _ _ _ _ _)) rfl ?_;exact ⟨rfl,H.o.2.trans ⟨rfl,rfl,rfl,by rw [iW];exact TU _,λk p=>(aX _ _ _).block k (T7 p H.o.2.size) (λq=>by have:=UM q;omega)⟩⟩
section
variable {X:ZT} {p:Nat} {A:eJ} {F:aK}
def gN (f:Nat->a8) (nb:Nat):List ZS:=(YF (64*nb)).map λk=>Z7 .u8 (((f (k/64)).getD (k%64) 0:Nat):Int)
def gO (g:Nat->Bool) (nb:Nat):List ZS:=(YF nb).map λk=>Z1 (g k)
def uL (f:Nat->a8) (nb:Nat):(gN f nb).length=64*nb:=by unfold gN;rw [Ue,Vn]
def uM (g:Nat->Bool) (nb:Nat):(gO g nb).length=nb:=by unfold gO;rw [Ue,Vn]
theorem ah.setBlks (h:ah X p A F) (i:Nat) (a:i<A.n) (f:Nat->a8) (hl:∀ j,(f j).length=64/\∀ x∈f j,x<256):ah (X.setCells (F.bb i) 0 (gN f A.nb)) p (A.RT i f) F:=by
 refine h.RT a ((fD (gN f A.nb) 0 X _ (h.blk i a)).congr λm c=>?_) (λk b=>aR _ _ _ _ _ b) hl;rw [TT ⟨T8 _,by rw [uL];omega⟩,Yp,Ub];unfold gN;rw [UG,WK c];rfl
theorem ah.setBads (h:ah X p A F) (i:Nat) (a:i<A.n) (g:Nat->Bool):ah (X.setCells (F.bd i) 0 (gO g A.nb)) p (A.RY i g) F:=by
 refine h.RY a ((fD (gO g A.nb) 0 X _ (h.bad i a)).congr λm c=>?_) (λk b=>aR _ _ _ _ _ b);rw [TT ⟨T8 _,by rw [uM];omega⟩,Yp,Ub];unfold gO;rw [UG,WK c];rfl
def jQ (A:eJ) (k:Nat):eJ:=⟨A.n,A.nb,λi=>if i<k then A.lost i else ZU,λi=>if i<k then A.bad i else λ_=>ZU,λi=>if i<k then A.blk i else λ_=>zb⟩
theorem LK (k:Nat) (f:Nat->α) (z:α):(λi=>if i=k then f k else if i<k then f i else z)=λi=>if i<k+1 then f i else z:=by
 funext i;by_cases e:i=k
 . subst e;simp
 . rw [TS e];by_cases q:i<k
   . rw [TT q,TT (by omega)]
   . rw [TS q,TS (by omega)]
def IC (A:eJ):jQ A 0=pF A.n A.nb:=by unfold jQ pF;simp
def ID (A:eJ) (k:Nat):(({ jQ A k with lost:=λi=>if i=k then A.lost k else (jQ A k).lost i }:eJ).RT k (A.blk k)).RY k (A.bad k)=jQ A (k+1):=by
 unfold jQ eJ.RT eJ.RY;simp only [eJ.mk.injEq,true_and];exact ⟨LK k A.lost ZU,LK k A.bad _,LK k A.blk _⟩
def Tryz.Tv:(ZN.info? 114).map (·.size)=ZW 64:=by kernel_rfl
def Tryz.Ti:(ZN.info? 4).map (·.size)=ZW 1:=by kernel_rfl
def uN {b:Nat} (h:w.rowIs b t n f):∃ cur:List ZS,ai w b t cur/\cur.length=n:=by
 obtain ⟨c,a,d,_⟩:=h;refine ⟨c.toList,?_,by simpa using d⟩;unfold ai;rw [a,Array.toArray_toList]
def LL {B:eJ} (h:ah w p A F) (k:ah w q B E) (i:Nat) (o:i<A.n) (r:i<B.n) (l:B.nb=A.nb) (f:ZO) :
 (Builtin.copy_ #[76,76] f #[Z5 (ZW ⟨E.bb i,0,ZX⟩) A.nb A.nb,Z5 (ZW ⟨F.bb i,0,ZX⟩) A.nb A.nb]).run ZN w=.ok (goInt A.nb) (w.setCells (E.bb i) 0 (gN (A.blk i) A.nb)):=by
 obtain ⟨cur,m,g⟩:=uN (k.blk i r);have b:=uL (A.blk i) A.nb;have d:YI A.nb A.nb=A.nb:=YR _;have:=ea (P:=ZN) w 76 76 f 114 64 (E.bb i) 0 A.nb A.nb (F.bb i) 0 A.nb A.nb 114 cur (gN (A.blk i) A.nb) underlying76 Tryz.Tv (by rw [b,d];omega) (λj v a=>by
  unfold gN at a;rw [UG] at a;by_cases c:j<64*A.nb
  . rw [WK c] at a;rw [Uj,(h.blk i o).cell c];exact a
  . rw [Vj (by rw [Vn];omega)] at a;cases a) m (by rw [b,g,l];omega) (λv e=>by
  unfold gN at e;obtain ⟨x,_,rfl⟩:=T9.1 e;rfl)
 rw [d] at this;exact this
def LM {B:eJ} (h:ah w p A F) (k:ah w q B E) (i:Nat) (o:i<A.n) (r:i<B.n) (l:B.nb=A.nb) (f:ZO) :
 (Builtin.copy_ #[77,77] f #[Z5 (ZW ⟨E.bd i,0,ZX⟩) A.nb A.nb,Z5 (ZW ⟨F.bd i,0,ZX⟩) A.nb A.nb]).run ZN w=.ok (goInt A.nb) (w.setCells (E.bd i) 0 (gO (A.bad i) A.nb)):=by
 obtain ⟨cur,m,g⟩:=uN (k.bad i r);have b:=uM (A.bad i) A.nb;have d:YI A.nb A.nb=A.nb:=YR _;have:=ea (P:=ZN) w 77 77 f 4 1 (E.bd i) 0 A.nb A.nb (F.bd i) 0 A.nb A.nb 4 cur (gO (A.bad i) A.nb) underlying77 Tryz.Ti (by rw [b,d];omega) (λj v a=>by
  unfold gO at a;rw [UG] at a;by_cases c:j<A.nb
  . rw [WK c] at a;rw [Uj,(h.bad i o).cell c];exact a
  . rw [Vj (by rw [Vn];omega)] at a;cases a) m (by rw [b,g,l];omega) (λv e=>by
  unfold gO at e;obtain ⟨x,_,rfl⟩:=T9.1 e;rfl)
 rw [d] at this;exact this
structure LN (w:ZT) (p c:Nat) (A B:eJ) (F E:aK):Prop where
 a:ah w p A F
 b:ah w c B E
 n:B.n=A.n
 nb:B.nb=A.nb
 ap:∀ k,F.S k->¬ E.S k
def LN.facts {B:eJ} (h:LN w p c A B F E) (i:Nat) (o:i<A.n) :
 (w.cell? ⟨p,0,ZX⟩=ZW (Z5 (ZW ⟨F.g,0,ZX⟩) A.n F.cap)/\w.cell? ⟨c,0,ZX⟩=ZW (Z5 (ZW ⟨E.g,0,ZX⟩) A.n E.cap))/\(p≠E.g/\c≠E.g/\F.g≠E.g)/\(p≠E.bb i/\c≠E.bb i/\F.g≠E.bb i/\E.g≠E.bb i)/\(p≠E.bd i/\c≠E.bd i/\F.g≠E.bd i/\E.g≠E.bd i):=by
 obtain ⟨c0,_⟩:=h.a.RQ;obtain ⟨c1,_⟩:=h.b.RQ;rw [h.n] at c1;have d:i<B.n:=by rw [h.n];exact o
 have a:=(h.b.apart.2.1 i d);have j:=h.a.sp;have f:=h.a.sg;have k:=h.b.sb d;have l:=h.b.sd d;have m:=h.b.sg;exact ⟨⟨c0,c1⟩,⟨λe=>h.ap _ j (e▸m),h.b.apart.1,λe=>h.ap _ f (e▸m)⟩,⟨λe=>h.ap _ j (e▸k),Vk a.1,λe=>h.ap _ f (e▸k),Vk a.2.1⟩,⟨λe=>h.ap _ j (e▸l),Vk a.2.2.1,λe=>h.ap _ f (e▸l),Vk a.2.2.2⟩⟩
def CpR (w:ZT) (c:Nat) (A:eJ) (E:aK) (i:ZS) (wr:ZT):Prop:=∃ k:Nat,k<=A.n/\i=Z7 Z9 (k:Nat)/\bW w wr/\ah wr c (jQ A k) E
def Rz (w:ZT) (A:eJ) (e:ZP) (w':ZT):Prop:=∃ E:aK,e=Z3 (Z6 (ZW ⟨w.heap.size,0,ZX⟩))/\bW w w'/\ah w' w.heap.size (jQ A A.n) E/\∀ k,E.S k->w.heap.size<=k
theorem CP (h:ah w p A F) (W:0<A.n) :
 ZQ ZN 36 #[Z6 (ZW ⟨p,0,ZX⟩)] w (Rz w A):=by
 have U:=h.n;have ka:=h.nb;have l:=aE h U ka;clear h;go_enter func36,ntmps36;have r:=l.o.1.RQ.1;have k7:=iH (l.o.1.keep (Y:=w.drew) λ_ _=>rfl) W;have kb:=kC A.n A.nb w.drew W U ka;go_upto_region 1 with fail;go_cut [3] from 5 to 72 (λv3 wx=>v3=Z6 (ZW ⟨w.heap.size,0,ZX⟩)/\KF A.n A.nb w.drew (Z3 (Z6 (ZW ⟨w.heap.size,0,ZX⟩))) wx)
 case first=>
  go_region_with (first|(go_at_call 38;refine k7.mono ?_;rintro e wz ⟨rfl,rfl⟩)|(go_at_call 8;refine kb.mono ?_;rintro e wz R;obtain ⟨rfl,_⟩:=id R;have HZ:=ak R;clear R));all_goals (go_wp2_with fail;go_meet;case rel=>exact ⟨rfl,HZ.o⟩)
 case rest=>
 obtain ⟨rfl,ki,k5,E,y,D⟩:=hcut;clear ki k7 kb r;change ah _ w.heap.size (pF A.n A.nb) E at y;change ∀ k,E.S k->w.heap.size<=k at D;have J:bW w wc:=((TW _ w).drew).trans k5;have X:ah wc p A F:=l.o.1.below J lR;have q0:=X.RQ.1;have Z:∀ k,F.S k->k<w.heap.size:=λk V=>l.o.1.RN V;obtain ⟨c,C⟩:=nM (w.heap.size);rw [<- IC] at y;rw [C] at y D;have f:=a6 y D J Z C;rw [C];clear y D k5 J X Z C;go_wp2_with fail;go_loopw [18] (λi wr=>CpR w c A E i wr) (λi _=>A.n-(intOf i).toNat)
 case atStart=>exact ⟨0,T8 _,rfl,f.o.2.2.1,f.o.1⟩
 case round=>
  obtain ⟨k,V,rfl,z,G⟩:=hrel;by_cases d:k<A.n
  . have kj:(k:Int)<(A.n:Int):=(by omega);have u:LN wr p c A (jQ A k) F E:=⟨l.o.1.below z lR,G,rfl,rfl,λj h1 h2=>by have:=f.o.2.2.2.1 j h1;have:=f.o.2.1 j h2;have:=f.o.2.2.2.2;omega⟩;obtain ⟨⟨r,B⟩,_,_,_⟩:=u.facts k d;have l0:=(u.a.R4 k d).1;have m0:=(u.b.R4 k d).1;have f0:=u.b.Se (k*4);have x:=al u z;clear z G u;go_wp2_with fail;go_region;clear r B l0 m0 f0;have t:ah (wr.setCell ⟨E.g,k*4,ZX⟩ (Z1 (A.lost k))).drew c ({ jQ A k with lost:=λi=>if i=k then A.lost k else (jQ A k).lost i }:eJ) E:=(x.o.1.b.S4 k (A.lost k)).keep λ_ _=>rfl;have N:aa (λj=>j=E.g) wr (wr.setCell ⟨E.g,k*4,ZX⟩ (Z1 (A.lost k))).drew:=(aa.setCell (S:=λj=>j=E.g) wr ⟨E.g,k*4,ZX⟩ _ rfl).trans (aa.drew _);obtain ⟨w2,kc⟩:=nM ((wr.setCell ⟨E.g,k*4,ZX⟩ (Z1 (A.lost k))).drew);rw [kc] at t N ⊢;have H:∀ j,E.S j->w.heap.size<=j:=λj s=>by have:=f.o.2.1 j s;have:=f.o.2.2.2.2;omega
    have kg:=H _ t.sg;have k8:=H _ (t.sb d);have k9:=H _ (t.sd d);have P:bW w w2:=x.o.2.trans (N.below λj s=>⟨T7 s x.o.2.size,λe=>by omega⟩);have m:LN w2 p c A ({ jQ A k with lost:=λi=>if i=k then A.lost k else (jQ A k).lost i }:eJ) F E:=⟨l.o.1.below P lR,t,rfl,rfl,x.o.1.ap⟩;have K:=LL (m.a.keep (Y:=w2.drew) λ_ _=>rfl) (m.b.keep (Y:=w2.drew) λ_ _=>rfl) k d d rfl;obtain ⟨⟨r,B⟩,_,_,_⟩:=m.facts k d;have l1:=(m.a.R4 k d).2.1;have m1:w2.cell? ⟨E.g,k*4+1,ZX⟩=ZW (Z5 (ZW ⟨E.bb k,0,ZX⟩) A.nb A.nb):=(m.b.R4 k d).2.1;have v:=a5 m P k8 k9;clear t N kc H kg k8 k9 P m;go_wp2_with fail;go_region;clear r B l1 m1 K;have L:ah (w2.drew.setCells (E.bb k) 0 (gN (A.blk k) A.nb)) c (({ jQ A k with lost:=λi=>if i=k then A.lost k else (jQ A k).lost i }:eJ).RT k (A.blk k)) E:=(v.o.1.b.keep (Y:=w2.drew) λ_ _=>rfl).setBlks k d (A.blk k) (l.o.1.len k);have hr:aa (λj=>j=E.bb k) w2 (w2.drew.setCells (E.bb k) 0 (gN (A.blk k) A.nb)):=(aa.drew w2).trans (aa.setCells _ _ _ _ rfl);obtain ⟨w3,ke⟩:=nM (w2.drew.setCells (E.bb k) 0 (gN (A.blk k) A.nb));rw [ke] at L hr ⊢;have Q:bW w w3:=v.o.2.1.trans (hr.below λj s=>⟨T7 s v.o.2.1.size,λe=>by have:=v.o.2.2.1;omega⟩);have q:LN w3 p c A (({ jQ A k with lost:=λi=>if i=k then A.lost k else (jQ A k).lost i }:eJ).RT k (A.blk k)) F E:=⟨l.o.1.below Q lR,L,rfl,rfl,x.o.1.ap⟩;have K:=LM (q.a.keep (Y:=w3.drew) λ_ _=>rfl) (q.b.keep (Y:=w3.drew) λ_ _=>rfl) k d d rfl;obtain ⟨⟨r,B⟩,_,_,_⟩:=q.facts k d;have l2:=(q.a.R4 k d).2.2.1;have m2:w3.cell? ⟨E.g,k*4+2,ZX⟩=ZW (Z5 (ZW ⟨E.bd k,0,ZX⟩) A.nb A.nb):=(q.b.R4 k d).2.2.1;have I:=al q Q;clear L hr ke Q q;go_wp2_with fail;go_region;clear r B l2 m2 K;have M:ah (w3.drew.setCells (E.bd k) 0 (gO (A.bad k) A.nb)) c (jQ A (k+1)) E:=by
     have:=(I.o.1.b.keep (Y:=w3.drew) λ_ _=>rfl).setBads k d (A.bad k);rw [ID] at this;exact this
    have O:aa (λj=>j=E.bd k) w3 (w3.drew.setCells (E.bd k) 0 (gO (A.bad k) A.nb)):=(aa.drew w3).trans (aa.setCells _ _ _ _ rfl);obtain ⟨w4,kf⟩:=nM (w3.drew.setCells (E.bd k) 0 (gO (A.bad k) A.nb));rw [kf] at M O ⊢;have k6:bW w w4:=I.o.2.trans (O.below λj s=>⟨T7 s I.o.2.size,λe=>by have:=v.o.2.2.2;omega⟩);have T:CpR w c A E (Z7 Z9 ((k:Int)+1)) w4:=⟨k+1,by omega,rfl,k6,M⟩;have H4:=ak T;clear M O kf k6 T;go_wp2;exact ⟨H4.o,by simp [intOf];omega⟩
  . have kh:k=A.n:=(by omega);subst kh;have HK:=al z G;clear z G;go_wp2;go_ret;have e:=f.o.2.2.2.2;subst e;exact ⟨E,rfl,HK.o.1,HK.o.2,f.o.2.1⟩
def aar (w:ZT) (A:aB) (e:ZP) (w':ZT):Prop:=∃ E:aK,e=Z3 (Z6 (ZW ⟨w.heap.size,0,ZX⟩))/\bW w w'/\az w' w.heap.size A E/\∀ k,E.S k->w.heap.size<=k
def CQ {A:aB} (h:az w p A F) (g:0<A.n) :
 ZQ ZN 36 #[Z6 (ZW ⟨p,0,ZX⟩)] w (aar w A):=by
 obtain ⟨R,f,a⟩:=h;refine (CP f (by rw [a.n];exact g)).mono ?_;rintro e w' ⟨E,j,k,l,m⟩;refine ⟨E,j,k,⟨_,l,a.n,a.nb,λi c=>?_,λi b c d=>?_,λi b c d=>?_⟩,m⟩
 . show (if i<R.n then R.lost i else ZU)=A.lost i;rw [a.n,TT c,a.lost i c]
 . rw [<- a.rd i b c d];unfold eJ.rd jQ;rw [a.n];simp only [TT c]
 . have q:=a.tn i b c d;unfold jQ;rw [a.n];simpa only [TT c] using q
end
