import Derived.WalkKit
import Derived.Test.YtfbmmcnpjhmjaaaGreatDoorRows
import Derived.ProofKit
import Derived.OpenShut
import Derived.WalkSpells
import Derived.Deep.OwnRows
import Derived.Deep.Slices
import Derived.Deep.Matrix
import Derived.Deep.MidRow
import Derived.Test.YtfbmmcnpjhmjaaaGreatDoorM01
import Derived.Laws.BitsLemmas
import Derived.Deep.QuietTactic
import Derived.BigQuiet
import Derived.Maps.AppendAt
import Derived.Laws.Bits64b
import Derived.Laws.CopyOwn
import Derived.Deep.RegionWith
import Derived.RegionTactic
import Derived.Laws.Tables
import Derived.Deep.WholeRow
import Derived.Deep.AppendSrc
import Derived.RangeFuncNested
import Derived.RangeFuncBound
import Derived.RangeFuncLeaves
import Derived.Shelf.Abstract
import Derived.Shelf.RegionOpen
import Derived.OwnWalkIn
import Derived.TacticsInMore
import Derived.LoopNIn
import Derived.LoopIn
import Derived.Lib.SliceRun
set_option maxRecDepth 100000
set_option linter.defProp false
set_option maxHeartbeats 8000000
open Go.IntKind renaming i64 -> Z9
open Go.Value renaming int -> Z8, pointer -> Z7, slice -> Z6, bool -> Z3
open Go.Obj renaming cells -> Z5
open Go.Ending renaming returned -> Z4
open Go.Operand renaming tmp -> Z2
open Go renaming undef -> Z1, World -> ZW, Value -> ZV, Calls -> ZT, Exit -> ZS, Oper -> ZR, Act -> ZQ, TypeId -> ZP, Operand -> ZO
open Option renaming none -> Z0, some -> ZZ
open Bool renaming true -> ZY, false -> ZX
open Go.RowKit renaming Below -> ZU
open Array renaming getElem?_eq_some_iff -> XG, getD_eq_getD_getElem? -> XJ, replicate -> XQ, getElem?_modify -> XZ, getElem?_eq_getElem -> X3, ext -> Yo, getElem?_setIfInBounds -> YC, all_eq_true' -> YJ, toList_setIfInBounds -> YK
open Nat renaming le_refl -> XH, mod_eq_of_lt -> XK, lt_of_lt_of_le -> XL, zero_le -> XO, mod_lt -> XR, xor_lt_two_pow -> XU, le_trans -> XX, zero_add -> X1, add_sub_cancel_left -> X4, sub_self -> X7, add_mul -> Yc, pow_le_pow_right -> Yr
open List renaming replicate -> XI, getElem?_eq_getElem -> XM, getD_eq_getElem?_getD -> XN, range -> XP, mem_append -> XS, length_cons -> XT, mem_map -> XV, eq_nil_of_length_eq_zero -> XW, getElem?_map -> XY, length_map -> X0, ext_getElem -> X2, mem_cons -> X5, getElem_mem -> X6, getElem_set -> X8, mem_range -> X9, eq_of_mem_replicate -> Yd, length_append -> Ye, length_nil -> Yf, append_assoc -> Yg, take_of_length_le -> Yh, length_set -> Yi, getElem?_eq_some_iff -> Yj, take_add_one -> Yn, mem_filter -> Yp, all_eq_true -> Yq, getElem?_eq_none -> Ys, not_mem_nil -> Yt, cons_append -> Yu, nil_append -> Yw, take_append_of_le_length -> Yx, drop_append_of_le_length -> Yy, drop_of_length_le -> Yz, length_replicate -> YA, mem_of_mem_take -> YF, take_length -> YG, set_append_right -> YH, length_eq_zero_iff -> YL, filter_eq_nil_iff -> YM, getElem?_range -> YN, map_toArray -> YO, map_cons -> YP, size_toArray -> YQ, getElem?_toArray -> YR
open Bool renaming and_eq_true_iff -> Ya, eq_iff_iff -> YE
open Option renaming map_some -> Yb, map_eq_some_iff -> YB, getD_some -> YI
open BitVec renaming ofInt_natCast -> Yk, toNat_xor -> Yl, toNat_ofNat -> Ym
open Int renaming natCast_nonneg -> YD
open Go.Proofs.Tryz renaming prog -> ZN
open Go.Proofs.Tryz
namespace Go.Proofs.YtfbmmcnpjhmjaaaGreatDoor
open Go.RowKit Go.Deep Gf Go.Shelf
variable {listed:Array Bool} {ops:Array ZR} {args cs:Array ZV} {R R':Ending->ZW->Prop} {f:FuncId} {kk:IntKind} {D:List (List Nat)} {L:List (Nat×Nat×List Nat)} {sh:List (Op×Option Nat×List Nat)} {k:List Item} {l l':List Nat} {rest:List ZR} {xs:List ZV} {r b n base base' p B t q g lo hi i m c:Nat} {S T:Nat->Prop} {o:ZR} {x:ZO} {P:Program} {α:Type} {e:ZP} {v y:ZV} {Vi:ZV->ZW->Prop} {w w' w'' a w0 w1:ZW}
def nM {α:Type _} (a:α):∃ x,a=x:=⟨a,rfl⟩
def lR {n:Nat}:n<=n:=XH n
def bA (w:Go.World) (o:Go.Obj):Go.RowKit.Below w.heap.size w (w.alloc o):=(Go.RowKit.Below.refl _ w).alloc (XH _) o
abbrev bW (w v:Go.World):Prop:=Go.RowKit.Below w.heap.size w v
def be (n:Nat):Nat->List Nat
 | 0=>[]
 | s+1=>n/256^s%256::be n s
def bY (n s:Nat):(be n s).length=s:=by induction s with
 | zero=>rfl
 | succ s ih=>simp [be,ih]
def sC (n s:Nat):∀ x∈be n s,x<256:=by induction s with
 | zero=>intro x a;simp [be] at a
 | succ s ih=>
  intro x a;simp only [be,X5] at a;rcases a with rfl|a
  . exact XR _ (by decide)
  . exact ih x a
def gD (l:List Nat):Nat:=l.foldl (λn x=>(n*256+x)%18446744073709551616) 0
def Ai (l:List Nat) (x:Nat):gD (l++[x])=(gD l*256+x)%18446744073709551616:=by simp [gD]
theorem Me (n:Nat) (e:n<18446744073709551616):∀ (s a:Nat),s<=8->a=n/256^s->(be n s).foldl (λn x=>(n*256+x)%18446744073709551616) a=n:=by
 intro s;induction s with
 | zero=>intro a _ b;simpa [be] using b
 | succ s ih=>
  intro a f b;simp only [be,List.foldl_cons];refine ih _ (by omega) ?_;subst b;have c:n/256^(s+1)=n/256^s/256:=by rw [Nat.pow_succ,Nat.div_div_eq_div_mul]
  rw [c];have d:n/256^s<=n:=Nat.div_le_self _ _;generalize n/256^s=q at *;omega
def CK (n s:Nat) (a:s<=8) (h:n<256^s):gD (be n s)=n:=by
 have b:(256:Nat)^s<=256^8:=Yr (by decide) a;have c:(256:Nat)^8=18446744073709551616:=by decide
 exact Me n (by omega) s 0 a (Nat.div_eq_of_lt h).symm
def dW:List Nat:=[0x00000000,0x1db71064,0x3b6e20c8,0x26d930ac,0x76dc4190,0x6b6b51f4,0x4db26158,0x5005713c,0xedb88320,0xf00f9344,0xd6d6a3e8,0xcb61b38c,0x9b64c2b0,0x86d3d2d4,0xa00ae278,0xbdbdf21c]
def fy (r:Nat):Nat:=(r/16)^^^dW.getD (r%16) 0
def mj (r b:Nat):Nat:=fy (fy (r^^^b))
def eI (l:List Nat):Nat:=l.foldl mj 4294967295
def I6 (l:List Nat):Nat:=4294967295-eI l
def pO:∀ i,dW.getD i 0<4294967296:=by
 intro i;by_cases h:i<16
 . have:∀ j:Fin 16,dW.getD j.1 0<4294967296:=by decide
   exact this ⟨i,h⟩
 . have:dW.getD i 0=0:=by simp [dW,Ys (show ([0x00000000,0x1db71064,0x3b6e20c8,0x26d930ac,0x76dc4190,0x6b6b51f4,0x4db26158,0x5005713c,0xedb88320,0xf00f9344,0xd6d6a3e8,0xcb61b38c,0x9b64c2b0,0x86d3d2d4,0xa00ae278,0xbdbdf21c]:List Nat).length<=i by simp;omega)]
   omega
def lD (h:r<4294967296):fy r<4294967296:=by
 unfold fy;exact XU (n:=32) (by omega) (pO _)
def CL (h:r<4294967296) (a:b<256):mj r b<4294967296:=
 lD (lD (XU (n:=32) h (by omega)))
def Mf:∀ (l:List Nat) (r:Nat),r<4294967296->(∀ x∈l,x<256)->l.foldl mj r<4294967296:=by
 intro l;induction l with
 | nil=>intro r h _;exact h
 | cons b l ih=>intro r h a;exact ih _ (CL h (a b (by simp))) (λx c=>a x (by simp [c]))
def sD (h:∀ x∈l,x<256):eI l<4294967296:=Mf l _ (by decide) h
def Ov (l:List Nat):I6 l<4294967296:=by unfold I6;omega
inductive aX where
 | blank
 | root (D L G turn first len:Nat)
 | filled
 | shard (l:List Nat)
deriving DecidableEq
def aX.body:aX->List Nat
 | .blank=>[]
 | .root D L G t f n=>[1,D%256,L%256,G%256]++(be t 8++(be f 4++be n 4))
 | .filled=>[2]
 | .shard l=>3::(XI 15 0++l)
def cY (body:List Nat):List Nat:=be (I6 (body++XI (60-body.length) 0)) 4++(body++XI (60-body.length) 0)
def aX.blk (r:aX):List Nat:=if r.body.length=0 then XI 64 0 else cY r.body
def aX.ok:aX->Prop
 | .blank=>True
 | .root D L G t f n=>D<256/\L<256/\G<256/\t<18446744073709551616/\f<4294967296/\n<4294967296
 | .filled=>True
 | .shard l=>l.length=44/\∀ x∈l,x<256
def FO (b:List Nat):aX:=
 if b.getD 4 0=1 then .root (gD [b.getD 5 0]) (gD [b.getD 6 0]) (gD [b.getD 7 0]) (gD ((b.drop 8).take 8)) (gD ((b.drop 16).take 4)) (gD ((b.drop 20).take 4))
 else if b.getD 4 0=2 then .filled else if b.getD 4 0=3 then .shard (b.drop 20) else .blank
def jP {r:aX} (h:r.ok):r.body.length<=60:=by
 cases r with
 | blank=>simp [aX.body]
 | root D L G t f n=>simp [aX.body,bY]
 | filled=>simp [aX.body]
 | shard l=>simp [aX.body,h.1]
theorem eJ {r:aX} (h:r.ok):r.blk.length=64:=by
 have:=jP h;unfold aX.blk cY;split
 . simp
 . simp [bY];omega
def ml {r:aX} (h:r.ok):∀ x∈r.body,x<256:=by
 cases r with
 | blank=>intro x a;simp [aX.body] at a
 | root D L G t f n=>
  intro x a;simp only [aX.body,XS,X5,Yt,or_false] at a;rcases a with (rfl|rfl|rfl|rfl)|a|a|a
  . omega
  . omega
  . omega
  . omega
  all_goals exact sC _ _ x a
 | filled=>
  intro x a;simp only [aX.body,X5,Yt,or_false] at a;omega
 | shard l=>
  intro x a;simp only [aX.body,XS,X5] at a;rcases a with rfl|a|a
  . decide
  . have:=Yd a;omega
  . exact h.2 x a
def FP (h:∀ x∈l,x<256):∀ x∈cY l,x<256:=by
 intro x a;unfold cY at a;simp only [XS] at a;rcases a with a|a|a
 . exact sC _ _ x a
 . exact h x a
 . have:=Yd a;omega
theorem jv {r:aX} (h:r.ok):∀ x∈r.blk,x<256:=by
 unfold aX.blk;split
 . intro x a;have:=Yd a;omega
 . exact FP (ml h)
def Ox (n:Nat):be n 4=[n/256^3%256,n/256^2%256,n/256^1%256,n/256^0%256]:=rfl
def yw (x:Nat) (h:x<256):gD [x]=x:=by simp [gD];omega
theorem Mg {r:aX} (h:r.ok):FO r.blk=r:=by
 cases r with
 | blank=>rfl
 | root D L G t f n=>
  obtain ⟨d,g,i,j,k,o⟩:=h;have e:aX.blk (.root D L G t f n)=cY (aX.body (.root D L G t f n)):=by unfold aX.blk;rw [if_neg (by simp [aX.body])]
  rw [e];unfold cY;generalize I6 _=c;simp only [aX.body,Ox c,Ye,XT,Yf,bY];unfold FO;simp only [Yu,Yw,List.getD_cons_succ,List.getD_cons_zero,if_true,List.drop_succ_cons,List.drop_zero,Yg];have t8:∀ R:List Nat,(be t 8++R).take 8=be t 8:=λR=>by rw [Yx (by simp [bY])];exact Yh (by simp [bY])
  have a:∀ R:List Nat,(be t 8++R).drop 8=R:=λR=>by rw [Yy (by simp [bY]),Yz (by simp [bY])];rfl
  have b:∀ (m:Nat) (R:List Nat),(be m 4++R).take 4=be m 4:=λm R=>by rw [Yx (by simp [bY])];exact Yh (by simp [bY])
  have d12:∀ R:List Nat,(be t 8++(be f 4++R)).drop 12=R:=λR=>by
   rw [show (12:Nat)=8+4 from rfl,<- List.drop_drop,a,Yy (by simp [bY]),Yz (by simp [bY])];rfl
  rw [t8,a,b,d12,b,CK t 8 (by decide) j,CK f 4 (by decide) k,CK n 4 (by decide) o];rw [yw _ (by omega),yw _ (by omega),yw _ (by omega),XK d,XK g,XK i]
 | filled=>
  have e:aX.blk .filled=cY (aX.body .filled):=by unfold aX.blk;rw [if_neg (by simp [aX.body])]
  rw [e];unfold cY;generalize I6 _=c;simp only [aX.body,Ox c,XT,Yf];unfold FO;simp
 | shard l=>
  have e:aX.blk (.shard l)=cY (aX.body (.shard l)):=by unfold aX.blk;rw [if_neg (by simp [aX.body])]
  rw [e];unfold cY;generalize I6 _=c;have p:=h.1;simp only [aX.body,Ox c,Ye,XT,YA,p];unfold FO;simp [XI]
def nj (h:n<=1000000000000):wrap64 (n:Int)=(n:Int):=by unfold wrap64;omega
def vb (l:List Nat) (i:Nat):ZV:=Z8 .u8 ((l.getD i 0:Nat):Int)
def aL (w:ZW) (b:Nat) (l:List Nat):Prop:=w.rowIs b 5 l.length (vb l)
def lB (p:Nat×Nat×List Nat):ZV:=Z6 (ZZ ⟨p.1,0,Z0⟩) p.2.1 p.2.2.length
structure iV (w:ZW) (base:Nat) (v:ZV) (L:List (Nat×Nat×List Nat)):Prop where
 own:w.ownsRow base 34 1 v L.length (L.map lB)
 row:∀ p∈L,base<=p.1/\aL w p.1 p.2.2/\p.2.1<=p.2.2.length/\(p.2.1<=140737488355328/\p.2.2.length<=9223372036854775807)/\∀ x∈p.2.2,x<256
 nodup:(L.map (λp=>p.1)).Nodup
def eG (h:∀ x∈l,x<256) (i:Nat):l.getD i 0<256:=by
 by_cases hi:i<l.length
 . have e:l.getD i 0=l[i]:=(by simp [hi]);rw [e];exact h _ (X6 hi)
 . have e:l.getD i 0=0:=(by simp [Ys (show l.length<=i by omega)]);rw [e];decide
def aL.below (h:aL w b l) (a:ZU w.heap.size w w'):aL w' b l:=
 World.rowIs.of_block h (a.block b h.lt)
def aL.cell (h:aL w b l) (i:Nat) (hi:i<l.length):w.cell? ⟨b,i,Z0⟩=ZZ (Z8 .u8 ((l.getD i 0:Nat):Int)):=
 World.rowIs.cell h hi
def aL.frozen (h:aL w b l) (i:Nat):w.frozen? ⟨b,i,Z0⟩=ZX:=World.rowIs.frozen h i
theorem aL.set (h:aL w b l) (i x:Nat):aL (w.setCell ⟨b,i,Z0⟩ (Z8 .u8 (x:Int))) b (l.set i x):=by
 have a:=World.rowIs.set h i (Z8 .u8 (x:Int));unfold aL;rw [Yi];refine a.congr λj c=>?_;unfold vb;by_cases e:j=i
 . subst e;simp [c]
 . simp only [if_neg e];rw [XN,XN,List.getElem?_set_ne (λh=>e h.symm)]
def aL.other (h:aL w b l) {a:Addr} (c:b≠a.block) (v:ZV):aL (w.setCell a v) b l:=World.rowIs.setOther h c v
def aL.alloc (h:aL w b l) (o:Obj):aL (w.alloc o) b l:=World.rowIs.alloc h o
def aL.lt (h:aL w b l):b<w.heap.size:=World.rowIs.lt h
def aL.grown {row:Option Nat} (h:aL w b l) (c:w.grownBy w' row) (a:ZZ b≠row):aL w' b l:=
 World.rowIs.of_block h (c.block b h.lt a)
theorem aL.made (w:ZW) (n:Nat):aL (w.alloc (Z5 (madeCells #[Z8 .u8 0] n) 5)) w.heap.size (XI n 0):=by
 have h:=World.rowIs_made w (Z8 .u8 0) n 5;unfold aL;rw [YA];refine h.congr λi hi=>?_;simp [vb,hi]
def aB {size:Nat} (h:w.ownsRow base e size v n xs) (j:ZU w.heap.size w w'):w'.ownsRow base e size v n xs:=by
 refine ⟨h.1,?_⟩;rcases h.2 with f|⟨g,cap,cur,b,c,a,d⟩
 . exact .inl f
 . refine .inr ⟨g,cap,cur,b,c,?_,d⟩;obtain ⟨i,_⟩:=XG.1 a;rw [j.block g i];exact a
def cW {size:Nat} (h:w.ownsRow base e size v n xs) (f:base'<=base):w.ownsRow base' e size v n xs:=by
 refine ⟨h.1,?_⟩;rcases h.2 with c|⟨g,cap,cur,a,d,b⟩
 . exact .inl c
 . exact .inr ⟨g,cap,cur,a,by omega,b⟩
def yu (h:w.ownsRow base 34 1 v n xs) {b:Nat} {l:List Nat} (i:aL w b l):v.ownBlock≠ZZ b:=by
 intro e;rcases h.2 with ⟨f,_⟩|⟨g,cap,cur,d,k,a,m⟩
 . rw [f] at e;simp [Value.ownBlock] at e
 . rw [d] at e;simp [Value.ownBlock] at e;subst e;obtain ⟨c,j,_⟩:=i;rw [j] at a;simp at a
def iV.weaken (h:iV w base v L) (c:base'<=base):iV w base' v L:=
 ⟨cW h.own c,λp d=>by obtain ⟨a,b⟩:=h.row p d;exact ⟨by omega,b⟩,h.nodup⟩
def iV.below (h:iV w base v L) (d:ZU w.heap.size w w'):iV w' base v L:=
 ⟨aB h.own d,λp e=>by obtain ⟨a,b,c⟩:=h.row p e;exact ⟨a,b.below d,c⟩,h.nodup⟩
def iV.alloc (h:iV w base v L) (o:Obj):iV (w.alloc o) base v L:=
 h.below (bA _ _)
def iV.push {v':ZV} {p:Nat×Nat×List Nat} (h:iV w base v L) (i:w.grownBy w' v.ownBlock) (j:w'.ownsRow base 34 1 v' (L.length+1) (L.map lB++[lB p]))
 (f:base<=p.1/\aL w p.1 p.2.2/\p.2.1<=p.2.2.length/\(p.2.1<=140737488355328/\p.2.2.length<=9223372036854775807)/\∀ x∈p.2.2,x<256) (k:∀ q∈L,q.1≠p.1):iV w' base v' (L++[p]):=by
 refine ⟨by simpa using j,λq d=>?_,?_⟩
 . rcases XS.1 d with d|d
   . obtain ⟨a,b,c⟩:=h.row q d;exact ⟨a,b.grown i (λe=>yu h.own b e.symm),c⟩
   . simp at d;subst d;exact ⟨f.1,f.2.1.grown i (λe=>yu h.own f.2.1 e.symm),f.2.2⟩
 . rw [List.map_append,List.nodup_append];refine ⟨h.nodup,by simp,?_⟩;intro a l b g;obtain ⟨q,d,rfl⟩:=XV.1 l;simp at g;subst g;exact k q d
theorem mN (g i:Nat):(⟨g,0,Z0⟩:Addr).add i=⟨g,i,Z0⟩:=by
 unfold Addr.add;split
 . rename_i h;simp_all
 . simp
def iV.shape (h:iV w base v L):(v=Z6 Z0 0 0/\L=[])\/∃ g cap,v=Z6 (ZZ ⟨g,0,Z0⟩) L.length cap/\base<=g/\L.length<=cap/\cap<=maxLen/\g<w.heap.size/\(∀ i (hi:i<L.length),w.cell? ⟨g,i,Z0⟩=ZZ (lB L[i]))/\(∀ i,w.frozen? ⟨g,i,Z0⟩=ZX)/\∀ p∈L,p.1≠g:=by
 rcases h.own.2 with ⟨j,k⟩|⟨g,cap,cur,a,c,b,d,f,n,o⟩
 . exact .inl ⟨j,XW k⟩
 . obtain ⟨l,_⟩:=XG.1 b;refine .inr ⟨g,cap,a,c,d,f,l,λi hi=>?_,λi=>?_,λp m e=>?_⟩
   . have:=h.own.cells (g:=g) (by rw [a];rfl) i (lB L[i]) (by simp [hi]);rw [mN] at this;exact this
   . simp [World.frozen?,b]
   . have:=yu h.own (h.row p m).2.1;rw [a] at this;exact this (by rw [e];rfl)
def Tryz.TW:(ZN.info? 5).map (λi=>(i.zero,i.size,i.bytes))=ZZ (ZZ (Z8 .u8 0),1,1):=by kernel_rfl
def Tryz.Uc:(ZN.info? 34).map (λi=>(i.zero,i.size,i.bytes))=ZZ (ZZ (Z6 Z0 0 0),1,24):=by kernel_rfl
def eH (w:ZW) {ops:Array ZR} {rest:List ZR} {o:ZR} {a:ZQ} {Q:ZS->ZQ->ZW->Prop}
 (h:o.guard=Z0) (l c:ZO) (e:o.op=Op.makeSlice 34 l c) (C:Int) (n:Nat) (i:a.eval l=Z8 Z9 C) (g:a.eval c=Z8 Z9 C) (f:C=(n:Int)) (j:n<=140737488355328)
 (hK:∀ w',aL w' w.heap.size (XI n 0)->ZU w.heap.size w w'->w'.heap.size=w.heap.size+1->wpList ZN ops Q rest (a.put o.dst (Z6 (ZZ ⟨w.heap.size,0,Z0⟩) n n)) w') :
 wpList ZN ops Q (o::rest) a w:=by
 refine wpList_plain h λK d=>?_;have b:=run_make_row' (P:=ZN) 34 5 (Z8 .u8 0) 1 underlying34 Tryz.TW rfl .i64 .i64 n (by omega) (by omega) w;subst f;unfold Oper.wp;simp [execOp,e,i,g,b,Result.andThen];exact d _ _ (hK _ (aL.made w n) (bA _ _) (nblk_alloc _ _))
section
structure aa (S:Nat->Prop) (w w':ZW):Prop where
 os:w'.os=w.os
 tape:w'.tape=w.tape
 output:w'.output=w.output
 size:w.heap.size<=w'.heap.size
 block:∀ k,k<w.heap.size->¬ S k->w'.heap[k]?=w.heap[k]?
def aa.refl (S:Nat->Prop) (w:ZW):aa S w w:=⟨rfl,rfl,rfl,XH _,λ_ _ _=>rfl⟩
def aa.mono (h:aa S w w') (b:∀ k,k<w.heap.size->S k->T k):aa T w w':=
 ⟨h.os,h.tape,h.output,h.size,λk a c=>h.block k a (λs=>c (b k a s))⟩
def aa.trans (h:aa S w w') (a:aa S w' w''):aa S w w'':=
 ⟨a.os.trans h.os,a.tape.trans h.tape,a.output.trans h.output,XX h.size a.size,λk b c=>(a.block k (XL b h.size) c).trans (h.block k b c)⟩
def aa.later (h:aa S w w') (a:aa T w' w'') (d:∀ k,k<w.heap.size->T k->S k):aa S w w'':=
 ⟨a.os.trans h.os,a.tape.trans h.tape,a.output.trans h.output,XX h.size a.size,λk b c=>(a.block k (XL b h.size) (λt=>c (d k b t))).trans (h.block k b c)⟩
def aa.TF (h:ZU B w w') (S:Nat->Prop) (a:∀ k,k<w.heap.size->¬ S k->k<B):aa S w w':=
 ⟨h.os,h.tape,h.output,h.size,λk b c=>h.block k (a k b c)⟩
def aa.TG (h:ZU w.heap.size w w') (S:Nat->Prop):aa S w w':=.TF h S λ_ a _=>a
def aa.below (h:aa S w w') {B:Nat} (a:∀ k,k<B->k<w.heap.size/\¬ S k):ZU B w w':=
 ⟨h.os,h.tape,h.output,h.size,λk b=>h.block k (a k b).1 (a k b).2⟩
def aa.setCell (w:ZW) (a:Addr) (v:ZV) (h:S a.block):aa S w (w.setCell a v):=
 ⟨rfl,rfl,rfl,by simp [World.setCell],λk _ b=>blk_setCell_other _ _ _ _ (λe=>b (e▸h))⟩
def aa.alloc (w:ZW) (o:Obj):aa S w (w.alloc o):=.TG (bA _ _) S
def aa.drew (w:ZW):aa S w w.drew:=⟨rfl,rfl,rfl,XH _,λ_ _ _=>rfl⟩
def bD (b:Nat):∀ (a:List ZV) (o:Nat) (w:ZW) (k:Nat),k≠b->(w.setCells b o a).heap[k]?=w.heap[k]?
 | [],_,_,_,_=>rfl
 | v::r,o,w,k,h=>by
  show ((w.setCell ⟨b,o,Z0⟩ v).setCells b (o+1) r).heap[k]?=_;rw [bD b r _ _ k h];exact blk_setCell_other _ _ _ _ (by exact h)
def jq (b:Nat):∀ (a:List ZV) (o:Nat) (w:ZW),(w.setCells b o a).heap.size=w.heap.size
 | [],_,_=>rfl
 | v::r,o,w=>by
  show ((w.setCell ⟨b,o,Z0⟩ v).setCells b (o+1) r).heap.size=_;rw [jq b r];simp [World.setCell]
def jr (b:Nat):∀ (a:List ZV) (o:Nat) (w:ZW),(w.setCells b o a).os=w.os/\(w.setCells b o a).tape=w.tape/\(w.setCells b o a).output=w.output
 | [],_,_=>⟨rfl,rfl,rfl⟩
 | v::r,o,w=>jr b r (o+1) (w.setCell ⟨b,o,Z0⟩ v)
def aa.setCells (w:ZW) (b o:Nat) (a:List ZV) (h:S b):aa S w (w.setCells b o a):=by
 obtain ⟨c,d,f⟩:=jr b a o w;exact ⟨c,d,f,by rw [jq];exact XH _,λk _ g=>bD b a o w k (λe=>g (e▸h))⟩
theorem lC:∀ (a:List ZV) (o:Nat) (w:ZW) (f:Nat->ZV),w.rowIs b t n f ->
 (w.setCells b o a).rowIs b t n (λk=>if o<=k/\k<o+a.length then a.getD (k-o) Z1 else f k)
 | [],o,w,f,h=>h.congr λi hi=>by
  show f i=if o<=i/\i<o+0 then _ else f i;rw [if_neg (by omega)]
 | v::r,o,w,f,h=>by
  have d:=lC r (o+1) _ _ (h.set o v);refine World.rowIs.congr d λk g=>?_;simp only [XT];by_cases e:k=o
  . subst e;rw [if_neg (by omega),if_pos rfl,if_pos (by omega),X7];rfl
  . by_cases c:o+1<=k/\k<o+1+r.length
    . rw [if_pos c,if_pos (by omega),show k-o=(k-(o+1))+1 by omega];rfl
    . rw [if_neg c,if_neg e,if_neg (by omega)]
structure ay where
 n:Nat
 nb:Nat
 wait:Int
 lost:Nat->Bool
 bad:Nat->Nat->Bool
 blk:Nat->Nat->List Nat
 reads:Nat->Int
structure bh where
 g:Nat
 cap:Nat
 bb:Nat->Nat
 bd:Nat->Nat
def bh.has (F:bh) (p n k:Nat):Prop:=k=p\/k=F.g\/∃ i,i<n/\(k=F.bb i\/k=F.bd i)
def mO (A:ay) (F:bh) (k:Nat):ZV:=
 if k%4=0 then Z3 (A.lost (k/4)) else if k%4=1 then Z6 (ZZ ⟨F.bb (k/4),0,Z0⟩) A.nb A.nb else if k%4=2 then Z6 (ZZ ⟨F.bd (k/4),0,Z0⟩) A.nb A.nb else Z8 Z9 (A.reads (k/4))
def Qk (A:ay) (i k:Nat):ZV:=Z8 .u8 (((A.blk i (k/64)).getD (k%64) 0:Nat):Int)
structure aA (X:ZW) (p:Nat) (A:ay) (F:bh):Prop where
 top:X.heap[p]?=ZZ (Z5 #[Z6 (ZZ ⟨F.g,0,Z0⟩) A.n F.cap,Z8 Z9 A.wait] 57 (0,0))
 Vt:∃ cs,X.heap[F.g]?=ZZ (Z5 cs 61 (0,0))/\∀ k,k<4*A.n->cs[k]?=ZZ (mO A F k)
 blk:∀ i,i<A.n->X.rowIs (F.bb i) 255 (64*A.nb) (Qk A i)
 bad:∀ i,i<A.n->X.rowIs (F.bd i) 4 A.nb (λj=>Z3 (A.bad i j))
 inj:∀ i j,i<A.n->j<A.n->(F.bb i=F.bb j->i=j)/\(F.bd i=F.bd j->i=j)
structure ay.fit (A:ay):Prop where
 n:A.n<=1000
 nb:A.nb<=1000000
 len:∀ i j,(A.blk i j).length=64
 byt:∀ i j,∀ x∈A.blk i j,x<256
variable {X Y:ZW} {p:Nat} {A:ay} {F:bh}
def aA.VE (h:aA X p A F):p<X.heap.size:=(XG.1 h.top).1
def aA.VO (h:aA X p A F):F.g<X.heap.size:=by obtain ⟨cs,a,_⟩:=h.Vt;exact (XG.1 a).1
def aA.TH (h:aA X p A F) {k:Nat} (a:F.has p A.n k):k<X.heap.size:=by
 rcases a with rfl|rfl|⟨i,hi,rfl|rfl⟩
 . exact h.VE
 . exact h.VO
 . exact (h.blk i hi).lt
 . exact (h.bad i hi).lt
def aA.keep (h:aA X p A F) (a:∀ k,F.has p A.n k->Y.heap[k]?=X.heap[k]?):aA Y p A F:=by
 obtain ⟨cs,b,c⟩:=h.Vt;exact ⟨(a _ (.inl rfl)).trans h.top,⟨cs,(a _ (.inr (.inl rfl))).trans b,c⟩,λi hi=>(h.blk i hi).of_block (a _ (.inr (.inr ⟨i,hi,.inl rfl⟩))),λi hi=>(h.bad i hi).of_block (a _ (.inr (.inr ⟨i,hi,.inr rfl⟩))),h.inj⟩
def aA.below (h:aA X p A F) {B:Nat} (b:ZU B X Y) (a:X.heap.size<=B):aA Y p A F:=h.keep λk c=>b.block k (XL (h.TH c) a)
def aA.alloc (h:aA X p A F) (o:Obj):aA (X.alloc o) p A F:=h.below (bA _ _) lR
def aA.apart (h:aA X p A F):p≠F.g/\(∀ i,i<A.n->F.bb i≠p/\F.bb i≠F.g/\F.bd i≠p/\F.bd i≠F.g)/\∀ i j,i<A.n->j<A.n->F.bb i≠F.bd j:=by
 obtain ⟨cs,k,_⟩:=h.Vt;have f:=h.top;refine ⟨λe=>?_,λi hi=>?_,λi j hi l e=>?_⟩
 . rw [e,k] at f;simp at f
 . obtain ⟨c,a,_⟩:=h.blk i hi;obtain ⟨d,b,_⟩:=h.bad i hi;refine ⟨λe=>?_,λe=>?_,λe=>?_,λe=>?_⟩
   . rw [e,f] at a;simp at a
   . rw [e,k] at a;simp at a
   . rw [e,f] at b;simp at b
   . rw [e,k] at b;simp at b
 . obtain ⟨c,a,_⟩:=h.blk i hi;obtain ⟨d,b,_⟩:=h.bad j l;rw [e,b] at a;simp at a
theorem aA.Ud (h:aA X p A F) (i:Nat) (hi:i<A.n):X.cell? ⟨F.g,i*4,Z0⟩=ZZ (Z3 (A.lost i))/\X.cell? ⟨F.g,i*4+1,Z0⟩=ZZ (Z6 (ZZ ⟨F.bb i,0,Z0⟩) A.nb A.nb) /\
 X.cell? ⟨F.g,i*4+2,Z0⟩=ZZ (Z6 (ZZ ⟨F.bd i,0,Z0⟩) A.nb A.nb)/\X.cell? ⟨F.g,i*4+3,Z0⟩=ZZ (Z8 Z9 (A.reads i)):=by
 obtain ⟨cs,b,c⟩:=h.Vt;have a:∀ k,k<4*A.n->X.cell? ⟨F.g,k,Z0⟩=ZZ (mO A F k):=λk d=>by simp [World.cell?,b,c k d]
 refine ⟨?_,?_,?_,?_⟩
 . rw [a _ (by omega)];unfold mO;rw [if_pos (by omega),show i*4/4=i by omega]
 . rw [a _ (by omega)];unfold mO;rw [if_neg (by omega),if_pos (by omega),show (i*4+1)/4=i by omega]
 . rw [a _ (by omega)];unfold mO;rw [if_neg (by omega),if_neg (by omega),if_pos (by omega),show (i*4+2)/4=i by omega]
 . rw [a _ (by omega)];unfold mO;rw [if_neg (by omega),if_neg (by omega),if_neg (by omega),show (i*4+3)/4=i by omega]
def aA.Ug (h:aA X p A F) (k:Nat):X.frozen? ⟨F.g,k,Z0⟩=ZX:=by obtain ⟨cs,a,_⟩:=h.Vt;simp [World.frozen?,a]
def aA.TS (h:aA X p A F):X.cell? ⟨p,0,Z0⟩=ZZ (Z6 (ZZ ⟨F.g,0,Z0⟩) A.n F.cap)/\X.cell? ⟨p,1,Z0⟩=ZZ (Z8 Z9 A.wait)/\X.frozen? ⟨p,0,Z0⟩=ZX/\X.frozen? ⟨p,1,Z0⟩=ZX:=by simp [World.cell?,World.frozen?,h.top]
def aA.VR (h:aA X p A F) (i j:Nat) (hi:i<A.n) (a:j<A.nb):X.cell? ⟨F.bd i,j,Z0⟩=ZZ (Z3 (A.bad i j)):=(h.bad i hi).cell a
def aH (l:List Nat):List ZV:=l.map λ(x:Nat)=>Value.int .u8 (x:Int)
def aA.range (h:aA X p A F) (c:A.fit) (i j:Nat) (hi:i<A.n) (f:j<A.nb):X.rangeAt (F.bb i) (j*64) (aH (A.blk i j)):=by
 intro k v a;unfold aH at a;rw [XY,YB] at a;obtain ⟨x,b,rfl⟩:=a;obtain ⟨d,e⟩:=Yj.1 b;rw [c.len] at d;rw [(h.blk i hi).cell (i:=j*64+k) (by omega)];unfold Qk;rw [show (j*64+k)/64=j by omega,show (j*64+k)%64=k by omega,XN,b];rfl
def aA.there (h:aA X p A F) (i j:Nat) (hi:i<A.n) (a:j<A.nb):X.there (F.bb i) (j*64) 64:=λk b=>by
 rw [(h.blk i hi).cell (i:=j*64+k) (by omega)];exact ⟨rfl,(h.blk i hi).frozen _⟩
def ay.TI (A:ay) (i:Nat) (r:Int):ay:={ A with reads:=λk=>if k=i then r else A.reads k }
def ay.TP (A:ay) (i:Nat) (t:Bool):ay:={ A with lost:=λk=>if k=i then t else A.lost k }
def ay.TN (A:ay) (i j:Nat) (t:Bool):ay:={ A with bad:=λk m=>if k=i/\m=j then t else A.bad k m }
def ay.TK (A:ay) (i j:Nat) (l:List Nat):ay:={ A with blk:=λk m=>if k=i/\m=j then l else A.blk k m }
theorem aA.U8 (h:aA X p A F) (k:Nat) (v:ZV) (b:ay) (c:b.n=A.n) (l:b.nb=A.nb) (r:b.wait=A.wait) (s:b.bad=A.bad) (t:b.blk=A.blk) (w:∀ j,j<4*A.n->mO b F j=if j=k then v else mO A F j) :
 aA (X.setCell ⟨F.g,k,Z0⟩ v) p b F:=by
 obtain ⟨o,f,x⟩:=h.apart;have d:∀ j,j≠F.g->(X.setCell ⟨F.g,k,Z0⟩ v).heap[j]?=X.heap[j]?:=λj a=>blk_setCell_other _ _ _ _ a;obtain ⟨cs,u,m⟩:=h.Vt;refine ⟨?_,⟨cs.setIfInBounds k v,by simp [World.setCell,XZ,u],λj a=>?_⟩,λi hi=>?_,λi hi=>?_,λi j hi a=>h.inj i j (by omega) (by omega)⟩
 . rw [c,r];exact (d _ o).trans h.top
 . rw [c] at a;rw [w j a,YC];by_cases e:k=j
   . subst e;rw [if_pos rfl,if_pos rfl];have:=m k a;obtain ⟨q,_⟩:=XG.1 this;simp [q]
   . rw [if_neg e,if_neg (λq=>e q.symm)];exact m j a
 . rw [c] at hi;have:=(h.blk i hi).of_block (d _ (f i hi).2.1);rw [l];exact this.congr λj a=>by unfold Qk;rw [t]
 . rw [c] at hi;rw [l,s];exact (h.bad i hi).of_block (d _ (f i hi).2.2.2)
theorem aA.TI (h:aA X p A F) (i:Nat) (r:Int):aA (X.setCell ⟨F.g,i*4+3,Z0⟩ (Z8 Z9 r)) p (A.TI i r) F:=
 h.U8 (i*4+3) (Z8 Z9 r) (A.TI i r) rfl rfl rfl rfl rfl λj c=>by
  by_cases e:j=i*4+3
  . subst e;rw [if_pos rfl];unfold mO;rw [if_neg (by omega),if_neg (by omega),if_neg (by omega)];show Value.int .i64 (if (i*4+3)/4=i then r else _)=_;rw [if_pos (by omega)]
  . rw [if_neg e];unfold mO;show (if j%4=0 then Value.bool (A.lost (j/4)) else if j%4=1 then _ else if j%4=2 then _ else Value.int .i64 (if j/4=i then r else A.reads (j/4)))=_;by_cases q:j%4=3
    . rw [if_neg (show ¬ j/4=i by omega)];rfl
    . by_cases a:j%4=0
      . rw [if_pos a,if_pos a]
      . by_cases b:j%4=1
        . rw [if_neg a,if_neg a,if_pos b,if_pos b];rfl
        . rw [if_neg a,if_neg a,if_neg b,if_neg b,if_pos (by omega),if_pos (by omega)];rfl
def aA.TP (h:aA X p A F) (i:Nat) (t:Bool):aA (X.setCell ⟨F.g,i*4,Z0⟩ (Z3 t)) p (A.TP i t) F:=
 h.U8 (i*4) (Z3 t) (A.TP i t) rfl rfl rfl rfl rfl λj a=>by
  by_cases e:j=i*4
  . subst e;rw [if_pos rfl];unfold mO;rw [if_pos (by omega)];show Value.bool (if (i*4)/4=i then t else _)=_;rw [if_pos (by omega)]
  . rw [if_neg e];unfold mO;show (if j%4=0 then Value.bool (if j/4=i then t else A.lost (j/4)) else _)=_;by_cases q:j%4=0
    . rw [if_pos q,if_pos q,if_neg (show ¬ j/4=i by omega)]
    . rw [if_neg q,if_neg q];rfl
theorem aA.TN (h:aA X p A F) (i j:Nat) (hi:i<A.n) (t:Bool):aA (X.setCell ⟨F.bd i,j,Z0⟩ (Z3 t)) p (A.TN i j t) F:=by
 obtain ⟨r,d,f⟩:=h.apart;have b:∀ k,k≠F.bd i->(X.setCell ⟨F.bd i,j,Z0⟩ (Z3 t)).heap[k]?=X.heap[k]?:=λk b=>blk_setCell_other _ _ _ _ b;obtain ⟨cs,g,l⟩:=h.Vt;refine ⟨(b _ (λe=>(d i hi).2.2.1 e.symm)).trans h.top,⟨cs,(b _ (λe=>(d i hi).2.2.2 e.symm)).trans g,l⟩,λk a=>(h.blk k a).of_block (b _ (f k i a hi)),λk a=>?_,h.inj⟩;by_cases e:k=i
 . subst e;refine ((h.bad k a).set j (Z3 t)).congr λm o=>?_;show _=Value.bool (if k=k/\m=j then t else A.bad k m);by_cases c:m=j
   . rw [if_pos c,if_pos ⟨rfl,c⟩]
   . rw [if_neg c,if_neg (λq=>c q.2)]
 . refine ((h.bad k a).of_block (b _ (λq=>e ((h.inj k i a hi).2 q)))).congr λm o=>?_;show _=Value.bool (if k=i/\m=j then t else A.bad k m);rw [if_neg (λq=>e q.1)]
theorem aA.TK (h:aA X p A F) (i j:Nat) (hi:i<A.n) (l:List Nat) (t:l.length=64):aA (X.setCells (F.bb i) (j*64) (aH l)) p (A.TK i j l) F:=by
 obtain ⟨v,c,f⟩:=h.apart;have b:∀ k,k≠F.bb i->(X.setCells (F.bb i) (j*64) (aH l)).heap[k]?=X.heap[k]?:=λk b=>bD _ _ _ _ _ b;obtain ⟨cs,g,o⟩:=h.Vt;refine ⟨(b _ (λe=>(c i hi).1 e.symm)).trans h.top,⟨cs,(b _ (λe=>(c i hi).2.1 e.symm)).trans g,o⟩,λk a=>?_,λk a=>(h.bad k a).of_block (b _ (λe=>f i k hi a e.symm)),h.inj⟩;by_cases e:k=i
 . subst e;refine (lC (aH l) (j*64) X _ (h.blk k a)).congr λm u=>?_;have r:(aH l).length=64:=(by unfold aH;rw [X0,t]);rw [r];unfold Qk;show _=Value.int .u8 (((if k=k/\m/64=j then l else A.blk k (m/64)).getD (m%64) 0:Nat):Int);by_cases d:m/64=j
   . rw [if_pos (by omega),if_pos ⟨rfl,d⟩,show m-j*64=m%64 by omega];unfold aH;have s:m%64<l.length:=(by omega);rw [XN,XY,XN,XM s];rfl
   . rw [if_neg (by omega),if_neg (λq=>d q.2)]
 . refine ((h.blk k a).of_block (b _ (λq=>e ((h.inj k i a hi).1 q)))).congr λm u=>?_;unfold Qk;show _=Value.int .u8 (((if k=i/\m/64=j then l else A.blk k (m/64)).getD (m%64) 0:Nat):Int);rw [if_neg (λq=>e q.1)]
def ay.fit.TI (h:A.fit) (i:Nat) (r:Int):(A.TI i r).fit:=⟨h.n,h.nb,h.len,h.byt⟩
def ay.fit.TP (h:A.fit) (i:Nat) (t:Bool):(A.TP i t).fit:=⟨h.n,h.nb,h.len,h.byt⟩
def ay.fit.TN (h:A.fit) (i j:Nat) (t:Bool):(A.TN i j t).fit:=⟨h.n,h.nb,h.len,h.byt⟩
theorem ay.fit.TK (h:A.fit) (i j:Nat) (l:List Nat) (b:l.length=64) (a:∀ x∈l,x<256):(A.TK i j l).fit:=by
 refine ⟨h.n,h.nb,λk m=>?_,λk m=>?_⟩
 . show (if k=i/\m=j then l else A.blk k m).length=64;split
   . exact b
   . exact h.len k m
 . show ∀ x∈(if k=i/\m=j then l else A.blk k m),x<256;split
   . exact a
   . exact h.byt k m
structure jN (R A:ay):Prop where
 n:R.n=A.n
 nb:R.nb=A.nb
 wait:R.wait=A.wait
 lost:R.lost=A.lost
 reads:R.reads=A.reads
 here:∀ i,A.lost i=ZX->R.blk i=A.blk i/\R.bad i=A.bad i
def jN.refl (A:ay):jN A A:=⟨rfl,rfl,rfl,rfl,rfl,λ_ _=>⟨rfl,rfl⟩⟩
def aq (X:ZW) (p:Nat) (A:ay) (F:bh):Prop:=∃ R,aA X p R F/\R.fit/\jN R A
def aA.at (h:aA X p A F) (a:A.fit):aq X p A F:=⟨A,h,a,jN.refl A⟩
def aq.TH (h:aq X p A F) {k:Nat} (c:F.has p A.n k):k<X.heap.size:=by
 obtain ⟨R,a,_,b⟩:=h;exact a.TH (by rw [b.n];exact c)
def aq.keep (h:aq X p A F) (d:∀ k,F.has p A.n k->Y.heap[k]?=X.heap[k]?):aq Y p A F:=by
 obtain ⟨R,b,c,a⟩:=h;exact ⟨R,b.keep (by rw [a.n];exact d),c,a⟩
def aq.below (h:aq X p A F) {B:Nat} (b:ZU B X Y) (a:X.heap.size<=B):aq Y p A F:=h.keep λk c=>b.block k (XL (h.TH c) a)
def aq.outside (h:aq X p A F) (c:aa S X Y) (b:∀ k,F.has p A.n k->¬ S k):aq Y p A F:=h.keep λk a=>c.block k (h.TH a) (b k a)
def aq.alloc (h:aq X p A F) (o:Obj):aq (X.alloc o) p A F:=h.below (bA _ _) lR
def aq.TS (h:aq X p A F):X.cell? ⟨p,0,Z0⟩=ZZ (Z6 (ZZ ⟨F.g,0,Z0⟩) A.n F.cap)/\X.cell? ⟨p,1,Z0⟩=ZZ (Z8 Z9 A.wait)/\X.frozen? ⟨p,0,Z0⟩=ZX/\X.frozen? ⟨p,1,Z0⟩=ZX:=by
 obtain ⟨R,b,_,a⟩:=h;rw [<- a.n,<- a.wait];exact b.TS
def aq.Ud (h:aq X p A F) (i:Nat) (hi:i<A.n):X.cell? ⟨F.g,i*4,Z0⟩=ZZ (Z3 (A.lost i))/\X.cell? ⟨F.g,i*4+1,Z0⟩=ZZ (Z6 (ZZ ⟨F.bb i,0,Z0⟩) A.nb A.nb) /\
 X.cell? ⟨F.g,i*4+2,Z0⟩=ZZ (Z6 (ZZ ⟨F.bd i,0,Z0⟩) A.nb A.nb)/\X.cell? ⟨F.g,i*4+3,Z0⟩=ZZ (Z8 Z9 (A.reads i)):=by
 obtain ⟨R,b,_,a⟩:=h;rw [<- a.nb,<- a.lost,<- a.reads];exact b.Ud i (by rw [a.n];exact hi)
theorem aq.UN (h:aq X p A F) {d:Nat} (k:A.lost d=ZY) (b:Nat) (l:List Nat):aq X p ((A.TK d b l).TN d b ZX) F:=by
 obtain ⟨R,f,g,a⟩:=h;refine ⟨R,f,g,a.n,a.nb,a.wait,a.lost,a.reads,λi hi=>?_⟩;have c:i≠d:=λe=>by rw [e] at hi;exact absurd hi (by show ¬ A.lost d=ZX;rw [k];decide)
 obtain ⟨m,o⟩:=a.here i hi;refine ⟨m.trans (funext λj=>?_),o.trans (funext λj=>?_)⟩
 . exact (if_neg (λq:i=d/\j=b=>c q.1)).symm
 . exact (if_neg (λq:i=d/\j=b=>c q.1)).symm
def jN.TI {R A:ay} (h:jN R A) (d:Nat) (x:Int):jN (R.TI d x) (A.TI d x):=⟨h.n,h.nb,h.wait,h.lost,by show (λk=>if k=d then x else R.reads k)=_;rw [h.reads];rfl,h.here⟩
def jN.V3 {R A:ay} (h:jN R A) (d:Nat):jN (R.TP d ZY) (A.TP d ZY):=by
 refine ⟨h.n,h.nb,h.wait,by show (λk=>if k=d then ZY else R.lost k)=_;rw [h.lost];rfl,h.reads,λi hi=>h.here i ?_⟩;have a:(if i=d then ZY else A.lost i)=ZX:=hi;by_cases e:i=d
 . rw [if_pos e] at a;cases a
 . rwa [if_neg e] at a
theorem jN.put {R A:ay} (h:jN R A) (d b:Nat) (l:List Nat):jN ((R.TK d b l).TN d b ZX) ((A.TK d b l).TN d b ZX):=by
 refine ⟨h.n,h.nb,h.wait,h.lost,h.reads,λi hi=>?_⟩;obtain ⟨a,c⟩:=h.here i hi;refine ⟨funext λj=>?_,funext λj=>?_⟩
 . show (if i=d/\j=b then l else R.blk i j)=if i=d/\j=b then l else A.blk i j;rw [a]
 . show (if i=d/\j=b then ZX else R.bad i j)=if i=d/\j=b then ZX else A.bad i j;rw [c]
end
def an (l:List Nat):Array ZV:=(aH l).toArray
def bB (l:List Nat):(an l).size=l.length:=by unfold an aH;simp
def vR (l:List Nat):(an l).toList=aH l:=by unfold an;rfl
def bp (l:List Nat):(aH l).length=l.length:=by unfold aH;simp
def Ab (l:List Nat):(an l).all (λv=>v.oneCell')=ZY:=all_oneCell_toArray λv a=>by
 unfold aH at a;rw [XV] at a;obtain ⟨x,_,rfl⟩:=a;rfl
def Tryz.UM:(ZN.info? 255).map (λi=>i.size)=ZZ 64:=by kernel_rfl
def fm (h:l.length=64):(ZN.info? 255).map (λi=>i.size)=ZZ (an l).size:=by rw [bB,h];exact Tryz.UM
def zb:List Nat:=XI 64 0
def bE:zb.length=64:=by simp [zb]
def Tryz.zeroBlk:(ZN.info? 255).map (λi=>(i.zero,i.size,i.bytes))=ZZ (ZZ (.agg (an zb)),64,64):=by kernel_rfl
def zeroBlk (w:ZW):(zeroValue 255).run ZN w=.ok (.agg (an zb)) w:=by
 obtain ⟨c,a,b,_,_⟩:=info_parts Tryz.zeroBlk;simp [zeroValue,typeInfo,Sem.run_bind,a,b]
def bJ (w:ZW) (b:Nat) (l:List Nat):Prop:=w.heap[b]?=ZZ (Z5 (an l) 255 (0,0))
def bJ.lt (h:bJ w b l):b<w.heap.size:=(XG.1 h).1
def bJ.new (w:ZW) (l:List Nat):bJ (w.alloc (Z5 (an l) 255)) w.heap.size l:=blk_alloc_new _ _
def bJ.keep (h:bJ w b l) (e:w'.heap[b]?=w.heap[b]?):bJ w' b l:=e.trans h
def bJ.setRow (l:List Nat) (h:bJ w b l'):bJ (w.setRow b (an l)) b l:=setRow_heap w b (an l') (an l) _ _ h
def aI (w:ZW) (b:Nat) (cs:Array ZV):w.grownBy (w.setRow b cs) (ZZ b):=
 ⟨rfl,rfl,rfl,by simp,λk _ a=>by
  have:b≠k:=λe=>a (by rw [e]);simp [World.setRow,XZ,this]⟩
def aa.setRow (w:ZW) (b:Nat) (cs:Array ZV) (h:S b):aa S w (w.setRow b cs):=
 have g:=aI w b cs
 ⟨g.os,g.tape,g.output,g.size,λk a c=>g.block k a (λe=>c (by cases e;exact h))⟩
def gn (w:ZW) (b:Nat) (cs:Array ZV):(w.setRow b cs).heap.size=w.heap.size:=by simp [World.setRow]
def np (h:bJ w b l) (a:l.length=64):(Instr.loadAt 255 (Z7 (ZZ ⟨b,0,Z0⟩))).run ZN w=.ok (.agg (an l)) w:=by
 simp only [Instr.loadAt,Instr.sureAddr,Sem.run_bind,Sem.run_pure,Result.andThen_ok,run_loadVar_row w b 255 255 (an l) (0,0) _ h underlying255 rfl (fm a)]
def qU (h:bJ w b l) (a:l.length=64):(loadVar 255 ⟨b,0,Z0⟩).run ZN w=.ok (.agg (an l)) w:=
 run_loadVar_row w b 255 255 (an l) (0,0) _ h underlying255 rfl (fm a)
def Ac (l:List Nat) (h:bJ w b l') (c:l'.length=64) (a:l.length=64):(Instr.storeAt 255 (Z7 (ZZ ⟨b,0,Z0⟩)) (.agg (an l))).run ZN w=.ok () (w.setRow b (an l)):=by
 simp only [Instr.storeAt,Instr.sureAddr,Sem.run_bind,Sem.run_pure,Result.andThen_ok,run_storeVar_row w b 255 255 (an l') (an l) h (fm a) (by rw [bB,bB,a,c]) (Ab l)]
def mi {a:ZQ} {Q:ZS->ZQ->ZW->Prop} (d:o.guard=Z0) (x:ZO) (ho:o.op=.load 255 x) (b:Nat) (l:List Nat)
 (f:a.eval x=Z7 (ZZ ⟨b,0,Z0⟩)) (c:bJ w b l) (e:l.length=64) (h:wpList ZN ops Q rest (a.put o.dst (.agg (an l))) w):wpList ZN ops Q (o::rest) a w:=by
 refine wpList_plain d λK hK=>?_;unfold Oper.wp;simp [execOp,ho,f,np c e,Result.andThen];exact hK _ _ h
def gq {a:ZQ} {Q:ZS->ZQ->ZW->Prop} (e:o.guard=Z0) (x y:ZO) (ho:o.op=.store 255 x y) (b:Nat) (l l':List Nat)
 (g:a.eval x=Z7 (ZZ ⟨b,0,Z0⟩)) (i:a.eval y=.agg (an l)) (d:bJ w b l') (c:l'.length=64) (f:l.length=64) (h:wpList ZN ops Q rest (a.put o.dst Z1) (w.setRow b (an l))):wpList ZN ops Q (o::rest) a w:=by
 refine wpList_plain e λK hK=>?_;unfold Oper.wp;simp [execOp,ho,g,i,Ac l d c f,Result.andThen];exact hK _ _ h
def CG {a:ZQ} {Q:ZS->ZQ->ZW->Prop} (d:o.guard=Z0) (x:ZO) (ho:o.op=.load 255 x) (b k:Nat) (l:List Nat)
 (f:a.eval x=Z7 (ZZ ⟨b,k,Z0⟩)) (c:w.rangeAt b k (aH l)) (e:l.length=64) (h:wpList ZN ops Q rest (a.put o.dst (.agg (an l))) w):wpList ZN ops Q (o::rest) a w:=
 wpList_load_mid d 255 x ho b k f (aH l) _ c underlying255 rfl (by rw [bp,e];exact Tryz.UM) h
def iY {fn:Func} {p q:Tmp} {ty:ZP} (h:fn.results=#[.cell p ty,.tmp q]) (tmps:Array ZV) (w:ZW) (a:Addr) (v u:ZV)
 (e:tmps.getD p Z1=Z7 (ZZ a)) (f:tmps.getD q Z1=u) (d:(loadVar ty a).run P w=.ok v w):(results fn tmps).run P w=.ok (.tuple #[v,u]) w:=by
 have b:tmps[p]?.getD Z1=Z7 (ZZ a):=by simpa using e
 have c:tmps[q]?.getD Z1=u:=by simpa using f
 simp [results,h,b,c,asAddr,d]
theorem hide {p:Prop} (h:p):Hid p:=h
theorem hide2 {p0 p1:Prop} (a:p0) (b:p1):Go.RowKit.Hid (p0/\p1):=hide ⟨a,b⟩
theorem hide3 {p0 p1 p2:Prop} (a:p0) (b:p1) (c:p2):Go.RowKit.Hid (p0/\p1/\p2):=hide ⟨a,b,c⟩
theorem hide4 {p0 p1 p2 p3:Prop} (a:p0) (b:p1) (c:p2) (d:p3):Go.RowKit.Hid (p0/\p1/\p2/\p3):=hide ⟨a,b,c,d⟩
theorem hide5 {p0 p1 p2 p3 p4:Prop} (a:p0) (b:p1) (c:p2) (d:p3) (e:p4):Go.RowKit.Hid (p0/\p1/\p2/\p3/\p4):=hide ⟨a,b,c,d,e⟩
theorem hide6 {p0 p1 p2 p3 p4 p5:Prop} (a:p0) (b:p1) (c:p2) (d:p3) (e:p4) (f:p5):Go.RowKit.Hid (p0/\p1/\p2/\p3/\p4/\p5):=hide ⟨a,b,c,d,e,f⟩
theorem hide7 {p0 p1 p2 p3 p4 p5 p6:Prop} (a:p0) (b:p1) (c:p2) (d:p3) (e:p4) (f:p5) (g:p6):Go.RowKit.Hid (p0/\p1/\p2/\p3/\p4/\p5/\p6):=hide ⟨a,b,c,d,e,f,g⟩
theorem hide8 {p0 p1 p2 p3 p4 p5 p6 p7:Prop} (a:p0) (b:p1) (c:p2) (d:p3) (e:p4) (f:p5) (g:p6) (h:p7):Go.RowKit.Hid (p0/\p1/\p2/\p3/\p4/\p5/\p6/\p7):=hide ⟨a,b,c,d,e,f,g,h⟩
theorem hide9 {p0 p1 p2 p3 p4 p5 p6 p7 p8:Prop} (a:p0) (b:p1) (c:p2) (d:p3) (e:p4) (f:p5) (g:p6) (h:p7) (i:p8):Go.RowKit.Hid (p0/\p1/\p2/\p3/\p4/\p5/\p6/\p7/\p8):=hide ⟨a,b,c,d,e,f,g,h,i⟩
theorem hide10 {p0 p1 p2 p3 p4 p5 p6 p7 p8 p9:Prop} (a:p0) (b:p1) (c:p2) (d:p3) (e:p4) (f:p5) (g:p6) (h:p7) (i:p8) (j:p9):Go.RowKit.Hid (p0/\p1/\p2/\p3/\p4/\p5/\p6/\p7/\p8/\p9):=hide ⟨a,b,c,d,e,f,g,h,i,j⟩
theorem hide11 {p0 p1 p2 p3 p4 p5 p6 p7 p8 p9 p10:Prop} (b:p0) (c:p1) (d:p2) (e:p3) (f:p4) (g:p5) (h:p6) (i:p7) (j:p8) (k:p9) (a:p10):Go.RowKit.Hid (p0/\p1/\p2/\p3/\p4/\p5/\p6/\p7/\p8/\p9/\p10):=hide ⟨b,c,d,e,f,g,h,i,j,k,a⟩
theorem hide12 {p0 p1 p2 p3 p4 p5 p6 p7 p8 p9 p10 p11:Prop} (c:p0) (d:p1) (e:p2) (f:p3) (g:p4) (h:p5) (i:p6) (j:p7) (k:p8) (l:p9) (a:p10) (b:p11):Go.RowKit.Hid (p0/\p1/\p2/\p3/\p4/\p5/\p6/\p7/\p8/\p9/\p10/\p11):=hide ⟨c,d,e,f,g,h,i,j,k,l,a,b⟩
theorem hide13 {p0 p1 p2 p3 p4 p5 p6 p7 p8 p9 p10 p11 p12:Prop} (d:p0) (e:p1) (f:p2) (g:p3) (h:p4) (i:p5) (j:p6) (k:p7) (l:p8) (m:p9) (a:p10) (b:p11) (c:p12):Go.RowKit.Hid (p0/\p1/\p2/\p3/\p4/\p5/\p6/\p7/\p8/\p9/\p10/\p11/\p12):=hide ⟨d,e,f,g,h,i,j,k,l,m,a,b,c⟩
def rS {k:IntKind} {a b:Int} (h:a=b):Ending.returned (.int k a)=Z4 (.int k b):=by rw [h]
def I7 (a b:Nat) (c:a<256) (d:b<256):bits .and .u8 (a:Int) (b:Int)=((a &&& b:Nat):Int):=
 (bits_nat .u8 8 (by decide) wraps_u8 a b c d).1
def nt (a b:Nat) (c:a<256) (d:b<256):bits .xor .u8 (a:Int) (b:Int)=((a^^^b:Nat):Int):=by
 have e:a%2^IntKind.u8.bits=a:=XK c;have f:b%2^IntKind.u8.bits=b:=XK d;simp only [bits,Yk,Yl,Ym,e,f];have:=j8 c d;exact wraps_u8 _ (YD _) (by omega)
def vW (n:Int) (a:0<=n) (b:n<2^62):IntKind.i64.wrap n=n:=by rw [IntKind.wrap_i64];omega
def Mh (a b:Nat) (c:a<2^62) (d:b<2^62):bits .and .i64 (a:Int) (b:Int)=((a &&& b:Nat):Int):=
 (bits_nat .i64 62 (by decide) vW a b c d).1
def Mi (a b:Nat) (c:a<2^62) (d:b<2^62):bits .xor .i64 (a:Int) (b:Int)=((a^^^b:Nat):Int):=by
 have e:(2:Nat)^62<2^IntKind.i64.bits:=by decide
 have f:a%2^IntKind.i64.bits=a:=XK (Nat.lt_trans c e);have g:b%2^IntKind.i64.bits=b:=XK (Nat.lt_trans d e);simp only [bits,Yk,Yl,Ym,f,g];have:=XU (n:=62) c d;exact vW _ (YD _) (by exact_mod_cast this)
def Oy:∀ a,a<256->((a &&& 128=0)↔a<128):=by decide +kernel
def Mj (a:Nat) (h:a<256):(bits .and .u8 (a:Int) 128 != 0)=decide (128<=a):=by
 have e:=I7 a 128 h (by decide);rw [show ((128:Nat):Int)=128 from rfl] at e;rw [e];have:=Oy a h;rw [YE];simp;omega
def Qm (a:Nat):a &&& 1=a%2:=Nat.and_one_is_mod a
def Qn (a:Nat) (h:a<256):(bits .and .u8 (a:Int) 1 != 0)=decide (a%2=1):=by
 have e:=I7 a 1 h (by decide);rw [show ((1:Nat):Int)=1 from rfl] at e;rw [e,Qm];rw [YE];simp;omega
def Qo {a:Nat} (h:a<256) (b:128<=a):bits .xor .u8 ((a:Int)*2%256) 29=(tx a:Int):=by
 have e:((a:Int)*2%256)=((2*a-256:Nat):Int):=by omega
 rw [e,show (29:Int)=((29:Nat):Int) from rfl,nt _ _ (by omega) (by decide)];unfold tx;rw [if_neg (by omega)]
def Qp {a:Nat} (b:a<128):(a:Int)*2=(tx a:Int):=by
 unfold tx;rw [if_pos b];omega
theorem nu (a:Nat) (h:a<256) (w:ZW) :
 ZT ZN 135 #[Z8 .u8 a] w λe w'=>e=Z4 (Z8 .u8 (tx a))/\w'=w:=by
 have c:=Mj a h;by_cases b:128<=a
 . rw [decide_eq_true b] at c;go_enter func135,ntmps135;go_wp2;go_ret;exact ⟨rS (Qo h b),rfl⟩
 . rw [decide_eq_false b] at c;go_enter func135,ntmps135;go_wp2;go_ret;exact ⟨rS (Qp (by omega)),rfl⟩
def I8 (n:Nat):∀ a p,yv n a 0 p=p:=by
 induction n with
 | zero=>intro a p;rfl
 | succ n ih=>intro a p;simp only [yv];exact ih _ _
theorem mn (a b:Nat) (o:a<256) (j:b<256) (w:ZW) :
 ZT ZN 92 #[Z8 .u8 a,Z8 .u8 b] w λe w'=>e=Z4 (Z8 .u8 (gm a b))/\w'=w:=by
 go_enter func92,ntmps92;go_wp2;go_loop [0,1,5] (λs t u=>∃ n x y z:Nat,x<256/\y<256/\z<256/\y<2^n/\Hid (yv n x y z=gm a b)/\s=Z8 .u8 x/\t=Z8 .u8 y/\u=Z8 .u8 z) (λ_ t _=>(intOf t).toNat)
 case atStart=>exact ⟨8,a,b,0,o,j,by decide,j,rfl,rfl,rfl,rfl⟩
 case round=>
  obtain ⟨n,x,y,z,c,p,h,k,g,rfl,rfl,rfl⟩:=hrel;by_cases m:y=0
  . subst m;go_wp2;go_ret;exact ⟨rS (by rw [<- g.out,I8]),rfl⟩
  . have r:((y:Int) != 0)=ZY:=(by rw [bne_iff_ne];omega);have l:=Qn y p;cases n with
    | zero=>exact absurd k (by simp;omega)
    | succ n=>
    have i:y/2<2^n:=(by rw [Nat.pow_succ] at k;omega);by_cases d:y%2=1
    . rw [decide_eq_true d] at l;have f:Hid (yv n (tx x) (y/2) (z^^^x)=gm a b):=(by have:=g.out;simp only [yv] at this;rw [if_pos d] at this;exact this);have q:=nt z x h c;go_wp2_with (go_at_call 135;refine (nu _ c _).mono ?_;rintro e w' ⟨rfl,rfl⟩);go_round
      case rel=>exact ⟨n,tx x,y/2,z^^^x,Ad c,by omega,j8 h c,i,f,rfl,by go_num,rfl⟩
      case measure=>simp [intOf];omega
    . rw [decide_eq_false d] at l;have f:Hid (yv n (tx x) (y/2) z=gm a b):=(by have:=g.out;simp only [yv] at this;rw [if_neg d] at this;exact this);go_wp2_with (go_at_call 135;refine (nu _ c _).mono ?_;rintro e w' ⟨rfl,rfl⟩);go_round
      case rel=>exact ⟨n,tx x,y/2,z,Ad c,by omega,h,i,f,rfl,by go_num,rfl⟩
      case measure=>simp [intOf];omega
def I9 (n p v:Nat):NX (n+1) p v=NX n (gm p p) (gm v (gm p p)):=rfl
theorem rT (a:Nat) (h:a<256) (w:ZW) :
 ZT ZN 90 #[Z8 .u8 a] w λe w'=>e=Z4 (Z8 .u8 (gi a))/\w'=w:=by
 go_enter func90,ntmps90;go_wp2;go_loop [3,4,6] (λs t u=>∃ k p v:Nat,k<=7/\p<256/\v<256/\Hid (NX (7-k) p v=gi a)/\s=Z8 .u8 v/\t=Z8 .u8 p/\u=Z8 Z9 k) (λ_ _ u=>7-(intOf u).toNat)
 case atStart=>exact ⟨0,a,1,by decide,h,by decide,rfl,rfl,rfl,rfl⟩
 case round=>
  obtain ⟨k,p,v,j,b,d,c,rfl,rfl,rfl⟩:=hrel;by_cases i:k<7
  . have f:Hid (NX (7-(k+1)) (gm p p) (gm v (gm p p))=gi a):=by
     have:=c.out;rw [show 7-k=(7-(k+1))+1 from by omega,I9] at this;exact this
    go_wp2_with fail;refine (mn p p b b _).mono ?_;rintro e w' ⟨rfl,rfl⟩;go_wp2_with fail;refine (mn v (gm p p) d (aV _ b) _).mono ?_;rintro e w' ⟨rfl,rfl⟩;go_wp2_with fail;go_round
    case rel=>exact ⟨k+1,gm p p,gm v (gm p p),by omega,aV _ b,aV _ d,f,rfl,rfl,by go_num⟩
    case measure=>simp [intOf];omega
  . have g:k=7:=(by omega);subst g;go_wp2;go_ret;exact ⟨rS (by rw [<- c.out];rfl),rfl⟩
def Bs (w:ZW) (v:ZV) (l:List Nat):Prop:=
 ∃ ao c,v=.slice ao l.length c/\l.length<=c/\l.length<=140737488355328/\(∀ x∈l,x<256)/\(l≠[]->∃ b off,ao=ZZ ⟨b,off,Z0⟩/\∀ k,k<l.length->w.cell? ⟨b,off+k,Z0⟩=ZZ (Z8 .u8 ((l.getD k 0:Nat):Int)))
def Bs.mono (h:Bs w v l) (j:ZU w.heap.size w w'):Bs w' v l:=by
 obtain ⟨ao,c,a,d,f,g,i⟩:=h;refine ⟨ao,c,a,d,f,g,λo=>?_⟩;obtain ⟨b,off,e,m⟩:=i o;refine ⟨b,off,e,λk n=>?_⟩;have:=m k n;rw [j.cell (block_lt_of_cell this)];exact this
def Bs.Uj (h:aL w b l) (f:n<=l.length) (e:n<=140737488355328) (d:∀ x∈l,x<256):Bs w (Z6 (ZZ ⟨b,0,Z0⟩) n l.length) (l.take n):=by
 have c:(l.take n).length=n:=by rw [List.length_take];omega
 refine ⟨ZZ ⟨b,0,Z0⟩,l.length,by rw [c],by omega,by omega,λx h=>d x (YF h),λ_=>⟨b,0,rfl,λk a=>?_⟩⟩;rw [c] at a;have:=h.cell k (by omega);rw [X1,this];simp [a]
def Qq (w:ZW) (n:Nat) (i:ZV) (wr:ZW):Prop:=∃ k m:Nat,k<=n/\i=Z8 Z9 k/\wr=w.drewN m
theorem EU (n vb:ZV) (l:List Nat) (w:ZW) (u:Bs w n l) (v:Bs w vb l) :
 ZT ZN 19 #[n,vb] w λe w'=>e=Z4 (Z3 ZY)/\∃ m,w'=w.drewN m:=by
 obtain ⟨ao,A,rfl,p,r,F,c⟩:=u;obtain ⟨z,B,rfl,q,s,_,d⟩:=v;have C:l.length<=140737488355328:=by omega
 clear p r q s;by_cases a:l=[]
 . subst a;clear c d;go_enter func19,ntmps19;go_wp2;refine wp_loop_rounds 1 ?_;rw [rounds_succ];go_wp2;go_ret;exact ⟨rfl,0,rfl⟩
 . obtain ⟨b,off,rfl,f⟩:=c a;obtain ⟨y,j,rfl,g⟩:=d a;clear a c d;have D:(((l.length:Nat):Int) != ((l.length:Nat):Int))=ZX:=(by simp);go_enter func19,ntmps19;go_wp2;go_loopw [5] (λi wr=>Qq w l.length i wr) (λi _=>l.length-(intOf i).toNat)
   case atStart=>exact ⟨0,0,XO _,rfl,rfl⟩
   case round=>
    obtain ⟨k,m,E,rfl,rfl⟩:=hrel;by_cases h:k<l.length
    . have c1:=f k h;have o:=g k h;have t:(((l.getD k 0:Nat):Int) != ((l.getD k 0:Nat):Int))=ZX:=(by simp);generalize l.getD k 0=x at c1 o t;clear f g;go_wp2;go_quiet (fail);go_wp2;go_roundw
      case rel=>exact ⟨k+1,_,by omega,by go_num,rfl⟩
      case measure=>simp [intOf];omega
    . go_wp2;go_ret;exact ⟨rfl,_,rfl⟩
def cd (a b:List Nat):aH (a++b)=aH a++aH b:=by simp [aH]
def EV (n:Nat):∀ (s k:Nat),k<s->(be n s).take (s-k)=(be n s).take (s-(k+1))++[n/256^k%256]
 | 0,k,h=>absurd h (by omega)
 | s+1,k,h=>by
  by_cases e:k=s
  . subst e;rw [show k+1-k=1 by omega,X7];simp [be]
  . have ih:=EV n s k (by omega);rw [show s+1-k=(s-k)+1 by omega,show s+1-(k+1)=(s-(k+1))+1 by omega];simp only [be,List.take_succ_cons,Yu,ih]
def Ml (n k:Nat):((n:Int)/2^(8*k)%256)=((n/256^k%256:Nat):Int):=by
 have e:(2:Nat)^(8*k)=256^k:=by rw [Nat.pow_mul]
 have a:((2:Int)^(8*k))=((256^k:Nat):Int):=by rw [<- e];norm_cast
 rw [a];omega
def sH (w:ZW) (x:ZV) (t:ZP):∀ j u,[x][j]?=ZZ u->(w.alloc (Z5 #[x] t)).cell? ((⟨w.heap.size,0,Z0⟩:Addr).add j)=ZZ u:=by
 intro j u h;rw [mN];match j,h with
 | 0,h=>simp at h;subst h;simp only [World.cell?,blk_alloc_new w (Z5 #[x] t)];rfl
 | j+1,h=>simp at h
def Rv (w:ZW) (base:Nat) (n s k0:Nat) (xs:List ZV) (v0:ZV) (b i:ZV) (wr:ZW):Prop:=
 ∃ (k:Nat) (v:ZV),k<=s/\i=Z8 Z9 ((k:Int)-1)/\b=v/\wr.ownsRow base 5 1 v (k0+(s-k)) (xs++aH ((be n s).take (s-k)))/\aa (λj=>v0.ownBlock=ZZ j) w wr/\(∀ j,v.ownBlock=ZZ j->v0.ownBlock=ZZ j\/w.heap.size<=j)
theorem eY (base:Nat) (d:ZV) (c:Nat) (xs:List ZV) (n s:Nat) (w:ZW) (z:w.ownsRow base 5 1 d c xs) (x:base<=w.heap.size) (q:s<=8) (K:c<=1000000000) :
 ZT ZN 149 #[d,Z8 .u64 n,Z8 Z9 s] w λe w'=>∃ l,e=Z4 l/\w'.ownsRow base 5 1 l (c+s) (xs++aH (be n s))/\aa (λj=>d.ownBlock=ZZ j) w w'/\(∀ j,l.ownBlock=ZZ j->d.ownBlock=ZZ j\/w.heap.size<=j):=by
 obtain ⟨G,B,D,E,F⟩:=info_parts Tryz.TW;go_enter func149,ntmps149;go_wp2;go_loopw [0,7] (λb i wr=>Rv w base n s c xs d b i wr) (λ_ i _=>(intOf i+1).toNat)
 case atStart=>exact ⟨s,d,XH _,by go_num,rfl,by rw [X7];simpa [aH] using z,aa.refl _ _,λj h=>.inl h⟩
 case round=>
  obtain ⟨k,v,L,rfl,rfl,m,a,f⟩:=hrel;cases k with
  | zero=>
   have p:((0:Nat):Int)-1=-1:=(by omega);rw [p];have t:=hide3 m a f;clear m a f;go_wp2;go_ret;obtain ⟨m,a,f⟩:=t.out;refine ⟨_,rfl,?_,a,f⟩;rwa [Nat.sub_zero,Yh (by rw [bY];exact XH _)] at m
  | succ k=>
   have p:((k+1:Nat):Int)-1=(k:Int):=(by omega);rw [p];have I:¬ (8*(k:Int))<0:=(by omega);have J:=XX x a.size;go_wp2_with (at_builtin;refine wpList_append_own_at _ rfl (Z2 14) (Z2 20) 34 rfl base 5 G (Z8 .u8 0) 1 1 underlying34 B D E F rfl (by decide) u0 (c+(s-(k+1))) _ rfl (m.alloc _) ⟨wr.heap.size,0,Z0⟩ 1 1 _ rfl rfl (sH wr _ _) (by intro u r;simp at r;subst r;rfl) (by unfold maxLen;omega) (by omega) (by simp;omega) ?_;intro l w' ho o H A);have C:(wr.alloc (Z5 #[Z8 .u8 ((n:Int)/2^(8*k)%256)] 5)).heap.size=wr.heap.size+1:=(by simp);have M:=a.size;have y:∀ j,l.ownBlock=ZZ j->d.ownBlock=ZZ j\/w.heap.size<=j:=λj g=>by
    rcases A with e|e
    . exact f j (e▸g)
    . rw [e] at g;cases g;rw [C];exact .inr (by omega)
   refine ⟨⟨k,l,by omega,by go_num,rfl,?_,?_,y⟩,by simp [intOf]⟩
   . rw [Ml] at ho;rw [EV n s k (by omega),cd,<- Yg,show c+(s-k)=c+(s-(k+1))+1 by omega];exact ho
   . exact (a.later (aa.alloc (S:=λ_=>False) _ _) (λ_ _ h=>h.elim)).later (T:=λj=>u0.ownBlock=ZZ j) ⟨o.os,o.tape,o.output,o.size,λj g q=>o.block j g (λe=>q e.symm)⟩ (λj g h=>by
      rcases f j h with e|e
      . exact e
      . omega)
theorem Oz (n x:Nat) (c:x<256):bits .or .u64 (IntKind.u64.wrap ((n:Int)*256)) (x:Int)=(((n*256+x)%18446744073709551616:Nat):Int):=by
 have a:IntKind.u64.wrap ((n:Int)*256)=((n*256%18446744073709551616:Nat):Int):=by rw [IntKind.wrap_u64];omega
 rw [a,bits_or_u64_nat _ _ (XR _ (by decide)) (by omega)];congr 1;have b:n*256%18446744073709551616=2^8*(n%72057594037927936):=by omega
 rw [b,<- Nat.two_pow_add_eq_or_of_lt (i:=8) (by omega)];omega
def EX (a b:Nat) (c:a<4294967296) (d:b<4294967296):bits .xor .u32 (a:Int) (b:Int)=((a^^^b:Nat):Int):=by
 have e:a%2^IntKind.u32.bits=a:=XK c;have f:b%2^IntKind.u32.bits=b:=XK d;have g:a^^^b<2^32:=XU c d;simp only [bits,Yk,Yl,Ym,e,f];rw [IntKind.wrap_u32];omega
theorem OA (r:Nat) (a:r<4294967296):bits .xor .u32 IntKind.u32.max (r:Int)=((4294967295-r:Nat):Int):=by
 have e:IntKind.u32.max=((4294967295:Nat):Int):=rfl;rw [e,EX _ _ (by decide) a];congr 1;refine Nat.eq_of_testBit_eq λi=>?_;have b:=Nat.testBit_two_pow_sub_succ (n:=32) (x:=r) a i;have c:=Nat.testBit_two_pow_sub_one 32 i;rw [Nat.testBit_xor,show (4294967295:Nat)-r=2^32-(r+1) by omega,b,show (4294967295:Nat)=2^32-1 from rfl,c];by_cases hi:i<32
 . simp [hi]
 . have:r.testBit i=ZX:=Nat.testBit_lt_two_pow (XL a (by have:=Yr (n:=2) (by decide) (show 32<=i by omega);omega));simp [hi,this]
def NY (a b:Nat) (c:a<4294967296) (d:b<4294967296):bits .and .u32 (a:Int) (b:Int)=((a &&& b:Nat):Int):=(bits_nat .u32 32 (by decide) (λn e f=>by rw [IntKind.wrap_u32];omega) a b c d).1
def Qs (a:Nat):a &&& 15=a%16:=Nat.and_two_pow_sub_one_eq_mod a 4
def FQ (l:List Nat) (k:Nat) (h:k<l.length):eI (l.take (k+1))=mj (eI (l.take k)) (l.getD k 0):=by
 rw [Yn,XM h];unfold eI;rw [List.foldl_append,XN,XM h];rfl
def Ja (l:List Nat) (k:Nat) (h:k<l.length):gD (l.take (k+1))=(gD (l.take k)*256+l.getD k 0)%18446744073709551616:=by
 rw [Yn,XM h,XN,XM h];exact Ai _ _
def Qt (w:ZW) (l:List Nat) (n i _x:ZV) (wr:ZW):Prop:=∃ k:Nat,k<=l.length/\n=Z8 .u64 (gD (l.take k):Nat)/\i=Z8 Z9 k/\wr=w
theorem OB (v:ZV) (l:List Nat) (w:ZW) (h:Bs w v l):ZT ZN 177 #[v] w λe w'=>e=Z4 (Z8 .u64 (gD l:Nat))/\w'=w:=by
 obtain ⟨ao,c,rfl,q,s,p,d⟩:=h;go_enter func177,ntmps177;go_wp2;go_loopw [3,8,5] (λn i x wr=>Qt w l n i x wr) (λ_ i _ _=>l.length-(intOf i).toNat)
 case atStart=>exact ⟨0,XO _,rfl,rfl,rfl⟩
 case round=>
  obtain ⟨k,r,rfl,rfl,rfl⟩:=hrel;by_cases a:k<l.length
  . obtain ⟨b,off,rfl,f⟩:=d (by intro e;rw [e] at a;simp at a);have c1:=f k a;have ho:Qt wr l (Z8 .u64 (((gD (l.take k)*256+l.getD k 0)%18446744073709551616:Nat):Int)) (Z8 Z9 ((k:Int)+1)) (Z8 .u8 (l.getD k 0:Nat)) wr:=⟨k+1,by omega,by rw [Ja l k a],rfl,rfl⟩;have o:l.getD k 0<256:=eG p k;have g:=Oz (gD (l.take k)) (l.getD k 0) o;rw [<- g] at ho;have j:=hide ho;clear ho g d f;generalize l.getD k 0=x at *;generalize gD (l.take k)=n at *;go_wp2;exact ⟨j.out,by simp [intOf];omega⟩
  . have m:k=l.length:=(by omega);subst m;rw [YG];clear d;go_wp2;go_ret;exact ⟨rfl,rfl⟩
def bk (w:ZW):Prop:=∀ j,j<16->w.cell? ⟨2,j,Z0⟩=ZZ (Z8 .u32 ((dW.getD j 0:Nat):Int))
def Su (w:ZW) (l:List Nat) (n i _x:ZV) (wr:ZW):Prop:=∃ k:Nat,k<=l.length/\n=Z8 .u32 (eI (l.take k):Nat)/\i=Z8 Z9 k/\wr=w
theorem Mm (v:ZV) (l:List Nat) (w:ZW) (h:Bs w v l) (y:bk w):ZT ZN 175 #[v] w λe w'=>e=Z4 (Z8 .u32 (I6 l:Nat))/\w'=w:=by
 obtain ⟨ao,c,rfl,N,P,p,o⟩:=h;go_enter func175,ntmps175;go_wp2;go_loopw [3,8,5] (λn i x wr=>Su w l n i x wr) (λ_ i _ _=>l.length-(intOf i).toNat)
 case atStart=>exact ⟨0,XO _,rfl,rfl,rfl⟩
 case round=>
  obtain ⟨k,O,rfl,rfl,rfl⟩:=hrel;by_cases g:k<l.length
  . obtain ⟨b,off,rfl,q⟩:=o (by intro e;rw [e] at g;simp at g);have c1:=q k g;have ho:Su wr l (Z8 .u32 ((mj (eI (l.take k)) (l.getD k 0):Nat):Int)) (Z8 Z9 ((k:Int)+1)) (Z8 .u8 (l.getD k 0:Nat)) wr:=⟨k+1,by omega,by rw [FQ l k g],rfl,rfl⟩;have M:l.getD k 0<256:=eG p k;have j:eI (l.take k)<4294967296:=sD (λx h=>p x (YF h));unfold mj at ho;clear o q;generalize l.getD k 0=x at *;generalize eI (l.take k)=r at *;have z:(x:Int)%4294967296=(x:Int):=(by omega);have T:=EX r x j (by omega);have m:r^^^x<4294967296:=XU (n:=32) j (by omega);generalize r^^^x=a at *;have U:bits .and .u32 (a:Int) 15=((a%16:Nat):Int):=(by have:=NY a 15 m (by decide);rw [Qs] at this;exact this);have V:(a:Int)/16=((a/16:Nat):Int):=(by omega);have F:=y (a%16) (XR _ (by decide));have s:=pO (a%16);have I:=EX (a/16) (dW.getD (a%16) 0) (by omega) s;have u:fy a<4294967296:=lD m;have f:a/16^^^dW.getD (a%16) 0=fy a:=rfl;rw [f] at I;have Q:a%16<16:=XR _ (by decide);clear f;generalize fy a=d at *;generalize dW.getD (a%16) 0=K at *;generalize a%16=B at *;generalize a/16=b1 at *;have W:bits .and .u32 (d:Int) 15=((d%16:Nat):Int):=(by have:=NY d 15 u (by decide);rw [Qs] at this;exact this);have X:(d:Int)/16=((d/16:Nat):Int):=(by omega);have G:=y (d%16) (XR _ (by decide));have t:=pO (d%16);have J:=EX (d/16) (dW.getD (d%16) 0) (by omega) t;have f:d/16^^^dW.getD (d%16) 0=fy d:=rfl;rw [f] at J;have R:d%16<16:=XR _ (by decide);clear f;generalize fy d=S at *;generalize dW.getD (d%16) 0=L at *;generalize d%16=D at *;generalize d/16=b2 at *;have A:=hide ho;have C:(B:Int)<16:=(by omega);have E:(D:Int)<16:=(by omega);clear ho m u s t;go_wp2;exact ⟨A.out,by simp [intOf];omega⟩
  . have H:k=l.length:=(by omega);subst H;rw [YG];have j:eI l<4294967296:=sD p;clear o;have z:=OA (eI l) j;rw [show 4294967295-eI l=I6 l from rfl] at z;generalize eI l=r at *;go_wp2;go_ret;exact ⟨rfl,rfl⟩
def fp (h:w.grownBy w' (ZZ b)) (i:Nat) (v:ZV):w.grownBy (w'.setCell ⟨b,i,Z0⟩ v) (ZZ b):=
 ⟨h.os,h.tape,h.output,by rw [nblk_setCell];exact h.size,λk c a=>by
  rw [blk_setCell_other _ _ _ _ (by intro e;exact a (by rw [e]))];exact h.block k c a⟩
def CM {r:Option Nat} (h:w.grownBy w' r) (n:Nat):w.grownBy (w'.drewN n) r:=
 ⟨h.os,h.tape,h.output,h.size,h.block⟩
def gu {r:Option Nat} (h:w.grownBy w' r) (k:w'.grownBy w'' r):w.grownBy w'' r:=
 ⟨k.os.trans h.os,k.tape.trans h.tape,k.output.trans h.output,XX h.size k.size,λj b a=>(k.block j (XL b h.size) a).trans (h.block j b a)⟩
def iZ (h:ZU B w0 w) (c:w.grownBy w' (ZZ b)) (a:B<=w.heap.size) (e:B<=b):ZU B w0 w':=
 h.grown c a (λk d=>by simp at d;omega)
def CN (h:w.ownsRow base 34 1 v n xs) (c:w.grownBy w' (ZZ b)) (a:v.ownBlock≠ZZ b):w'.ownsRow base 34 1 v n xs:=
 h.kept c (.inr a)
theorem iV.wrote (h:iV w base v L) {i:Nat} (hi:i<L.length) {l':List Nat} (d:w.grownBy w' (ZZ L[i].1)) (s:aL w' L[i].1 l') (o:l'.length=L[i].2.2.length) (t:∀ x∈l',x<256) :
 iV w' base v (L.set i (L[i].1,L[i].2.1,l')):=by
 have r:=X6 hi;obtain ⟨f,g,u,y,z⟩:=h.row _ r;have n:(L.set i (L[i].1,L[i].2.1,l')).map lB=L.map lB:=by
  apply X2
  . simp
  . intro j l m;simp [X8];by_cases e:i=j
    . subst e;simp [lB,o]
    . simp [e]
 have k:(L.set i (L[i].1,L[i].2.1,l')).map (λp=>p.1)=L.map (λp=>p.1):=by
  apply X2
  . simp
  . intro j l m;simp [X8];by_cases e:i=j
    . subst e;simp
    . simp [e]
 refine ⟨?_,λp b=>?_,by rw [k];exact h.nodup⟩
 . rw [n,Yi];exact CN h.own d (yu h.own g)
 . obtain ⟨j,a,rfl⟩:=List.mem_iff_getElem.1 b;rw [Yi] at a;rw [X8];by_cases e:i=j
   . rw [if_pos e];exact ⟨f,s,by show L[i].2.1<=l'.length;omega,⟨by show L[i].2.1<=140737488355328;omega,by show l'.length<=9223372036854775807;omega⟩,t⟩
   . rw [if_neg e];obtain ⟨b1,b2,b3⟩:=h.row _ (X6 a);refine ⟨b1,b2.grown d ?_,b3⟩;intro q;simp at q;have b:=List.pairwise_iff_getElem.1 h.nodup;rcases Nat.lt_or_gt_of_ne e with c|c
     . exact b i j (by simpa using hi) (by simpa using a) c (by simp [q])
     . exact b j i (by simpa using a) (by simpa using hi) c (by simp [q])
def iV.UB (h:iV w base v L) {i:Nat} (hi:i<L.length):Bs w (lB L[i]) (L[i].2.2.take L[i].2.1):=by
 obtain ⟨e,a,b,c,d⟩:=h.row _ (X6 hi);exact Bs.Uj a b c.1 d
def Mk (w:ZW) (n:Nat) (a:n=w.heap.size) (x:ZV) (t:ZP):∀ j u,[x][j]?=ZZ u->(w.alloc (Z5 #[x] t)).cell? ((⟨n,0,Z0⟩:Addr).add j)=ZZ u:=by
 subst a;exact cell_one_new _ _ _
def kl {w2:ZW} {T:List (Nat×Nat×List Nat)} {o:Obj} (h:iV w B v T) (b:ZU B w0 w) (a:ZU w.heap.size w w1) (d:B<=w.heap.size) (e:(w1.alloc o).grownBy w2 v.ownBlock):ZU B w0 w2:=by
 have c:=b.trans (a.mono d);have g:=a.size;refine (c.alloc (by omega) o).grown e (by rw [nblk_alloc];omega) ?_;intro k f;exact (h.own.lt k f).1
def xr (c:Nat) (l:List Nat):List Nat:=l.map (λx=>x^^^c)
def rH (c k:Nat) (l:List Nat):List Nat:=(XP l.length).map λj=>if j<k then l.getD j 0^^^c else l.getD j 0
theorem FR (c:Nat) (l:List Nat):rH c 0 l=l:=by
 unfold rH;apply X2
 . simp
 . intro j b a;simp [a]
theorem Jb (c:Nat) (l:List Nat):rH c l.length l=xr c l:=by
 unfold rH xr;apply X2
 . simp
 . intro j a b;simp at a;simp [a]
def Jc (c k:Nat) (l:List Nat):(rH c k l).length=l.length:=by simp [rH]
def Jd (c k:Nat) (l:List Nat) (a:k<l.length):(rH c k l).getD k 0=l.getD k 0:=by simp [rH,a]
theorem FS (c k:Nat) (l:List Nat):(rH c k l).set k (l.getD k 0^^^c)=rH c (k+1) l:=by
 unfold rH;apply X2
 . simp
 . intro j b d;simp [X8];by_cases e:k=j
   . subst e;simp
   . simp only [if_neg e];by_cases a:j<k
     . rw [if_pos a,if_pos (by omega)]
     . rw [if_neg a,if_neg (by omega)]
def S4 (wo:ZW) (b c:Nat) (l:List Nat) (i:ZV) (wr:ZW):Prop:=
 ∃ k:Nat,k<=l.length/\i=Z8 Z9 k/\wo.grownBy wr (ZZ b)/\aL wr b (rH c k l)
def Rd (w:ZW) (v:ZV) (D:List (List Nat)):Prop:=
 ∃ ao c,v=.slice ao D.length c/\D.length<=5864062014805/\(D≠[]->∃ b off,ao=ZZ ⟨b,off,Z0⟩/\∀ i (hi:i<D.length),∃ u,w.cell? ⟨b,off+i,Z0⟩=ZZ u/\Bs w u D[i])
def Bs.lt (h:Bs w v l):∀ x∈l,x<256:=by
 obtain ⟨_,_,_,_,_,a,_⟩:=h;exact a
def Rd.mono (h:Rd w v D) (a:ZU w.heap.size w w'):Rd w' v D:=by
 obtain ⟨ao,c,f,g,j⟩:=h;refine ⟨ao,c,f,g,λl=>?_⟩;obtain ⟨b,off,e,m⟩:=j l;refine ⟨b,off,e,λi hi=>?_⟩;obtain ⟨u,d,k⟩:=m i hi;exact ⟨u,by rw [a.cell (block_lt_of_cell d)];exact d,k.mono a⟩
def Rd.cases (h:Rd w v D):(D=[]/\∃ ao c,v=.slice ao 0 c)\/∃ b off c,v=Z6 (ZZ ⟨b,off,Z0⟩) D.length c/\D.length<=5864062014805/\∀ i (hi:i<D.length),∃ u,w.cell? ⟨b,off+i,Z0⟩=ZZ u/\Bs w u D[i]:=by
 obtain ⟨ao,c,a,e,f⟩:=h;by_cases d:D=[]
 . subst d;exact .inl ⟨rfl,ao,c,a⟩
 . obtain ⟨b,off,rfl,g⟩:=f d;exact .inr ⟨b,off,c,a,e,g⟩
theorem aL.heap (h:aL w b l):w.heap[b]?=ZZ (Z5 (l.map (λx=>Value.int .u8 ((x:Nat):Int))).toArray 5 (0,0)):=by
 obtain ⟨c,d,f,e⟩:=h;have:c=(l.map (λx=>Value.int .u8 ((x:Nat):Int))).toArray:=by
  apply Yo
  . simp [f]
  . intro i a g;have:=e i (by omega);rw [X3 a] at this;simp [vb] at this;have hi:i<l.length:=(by omega);simp [this,hi]
 rw [<- this];exact d
def aL.of_heap (h:w.heap[b]?=ZZ (Z5 (l.map (λx=>Value.int .u8 ((x:Nat):Int))).toArray 5 (0,0))):aL w b l:=
 ⟨_,h,by simp,λi hi=>by simp [vb,hi]⟩
theorem FT {a:ZQ} {Q:ZS->ZQ->ZW->Prop} (r:o.guard=Z0) (d s:ZO)
 (ho:o.op=.call { callee:=.builtin .copy,args:=#[d,s],argTypes:=#[34,34] }) (g n cap:Nat) (v:ZV) (hd:a.eval d=Z6 (ZZ ⟨g,0,Z0⟩) n cap) (hs:a.eval s=v)
 (old src:List Nat) (hB:aL w g old) (hS:Bs w v src) (h9:src.length<=n) (hn:n<=old.length) (B:Nat) (w0:ZW) (hb:ZU B w0 w) (h5:B<=g)
 (h:∀ w',aL w' g (src++old.drop src.length)->ZU B w0 w'->wpList ZN ops Q rest (a.put o.dst (goInt src.length)) w'):wpList ZN ops Q (o::rest) a w:=by
 obtain ⟨ao,c,rfl,A,C,D,m⟩:=hS;refine wpList_copy_splice r d s 34 34 ho 5 underlying34 (by kernel_rfl) (ZZ ⟨g,0,Z0⟩) ao n cap src.length c hd hs g 0 _ 5 hB.heap (src.map (λx=>Value.int .u8 ((x:Nat):Int))) ?_ ?_ ?_ ?_ B w0 hb h5 ?_
 . rw [X0];show src.length=min src.length n;omega
 . intro k;rw [X0] at k;obtain ⟨b,off,rfl,y⟩:=m (by intro e;rw [e] at k;simp at k);refine ⟨rfl,_,rfl,λj u i=>?_⟩;have f:j<src.length:=by
    have:=Yj.1 i;obtain ⟨q,_⟩:=this;simpa using q
   rw [Addr.add_mid,y j f];simp [f] at i;simp [f,i]
 . simp;omega
 . intro u z;obtain ⟨x,_,rfl⟩:=XV.1 z;rfl
 . intro w' t p;have e:(splice (old.map (λx=>Value.int .u8 ((x:Nat):Int))) 0 (src.map (λx=>Value.int .u8 ((x:Nat):Int))))=(src++old.drop src.length).map (λx=>Value.int .u8 ((x:Nat):Int)):=by
    simp [splice]
   have l:=t.out;rw [e] at l;rw [X0];exact h w' (aL.of_heap l) p
def CQ (l:List Nat):l++(XI (l.length+2) 0).drop l.length=l++[0,0]:=by
 rw [List.drop_replicate,X4];rfl
def Je (l:List Nat):((l++[0,0]).set l.length 71).set (l.length+1) 72=l++[71,72]:=by
 rw [YH _ _ lR,YH _ _ (by omega)];simp
theorem FU (v:ZV) (l:List Nat) (w:ZW) (h:Bs w v l) (s:l.length<=1000000) :
 ZT ZN 31 #[v] w λe w'=>∃ b,e=Z4 (Z6 (ZZ ⟨b,0,Z0⟩) l.length (l.length+2))/\w.heap.size<=b/\aL w' b (l++[71,72])/\ZU w.heap.size w w':=by
 have n:=h;obtain ⟨ao,c,rfl,f,g,i,j⟩:=h;clear f g i j;go_enter func31,ntmps31;go_wp2_with (first
  | (at_make;refine eH _ rfl (Z2 8) (Z2 8) rfl _ (l.length+2) rfl rfl (by omega) (by omega) ?_;intro w1 m d o;clear o)
  | (refine FT rfl (Z2 10) (Z2 11) rfl w.heap.size (l.length+2) (l.length+2) _ rfl rfl _ l m (n.mono d) (by omega) (by simp) w.heap.size w d lR ?_;intro w2 a k;rw [CQ] at a;have c1:=a.cell l.length (by simp);have p:=a.cell (l.length+1) (by simp);have q:=a.frozen l.length;have r:=a.frozen (l.length+1)))
 go_ret;refine ⟨w.heap.size,rfl,XH _,?_,?_⟩
 . have:=(a.set l.length 71).set (l.length+1) 72;rw [Je] at this;exact this
 . exact (k.setCell (by simp) _).setCell (by simp) _
theorem FV (b:Nat) (vb:ZV) (l:List Nat) (w:ZW) (g:aL w b (l++[71,72])) (o:Bs w vb l) (K:l.length<=1000000) :
 ZT ZN 33 #[Z6 (ZZ ⟨b,0,Z0⟩) l.length (l.length+2),vb] w λe w'=>e=Z4 (Z3 ZY)/\w.grownBy w' (ZZ b)/\aL w' b (xr 85 (l++[71,72])):=by
 have z:=o.lt;have i:(l++[71,72]).length=l.length+2:=by simp
 have t:Bs w (Z6 (ZZ ⟨b,0,Z0⟩) l.length (l.length+2)) l:=by
  have:=Bs.Uj (n:=l.length) g (by simp) (by omega) (by intro x d;rcases XS.1 d with q|q;exact z x q;simp at q;omega);rw [i,List.take_left'] at this;exact this;rfl
 have c1:=g.cell l.length (by simp);have p:=g.cell (l.length+1) (by simp);have r:(l++[71,72]).getD l.length 0=71:=by simp
 have s:(l++[71,72]).getD (l.length+1) 0=72:=by simp
 rw [r] at c1;rw [s] at p;have u:=o;have d:∀ x∈l++[71,72],x<256:=by intro x d;rcases XS.1 d with q|q;exact z x q;simp at q;omega
 obtain ⟨ao,c,rfl,A,B,C,D⟩:=o;clear A B C D r s;generalize hL:l++[71,72]=L at *;go_enter func33,ntmps33;go_wp2_with fail;refine (EU _ _ l _ t u).mono ?_;rintro e w1 ⟨rfl,m,rfl⟩;clear t u hL;have h:=hide i;clear i;go_wp2;clear c1 p;go_loopw [8] (λj wr=>S4 w b 85 L j wr) (λj _=>L.length-(intOf j).toNat)
 case atStart=>exact ⟨0,XO _,rfl,CM (World.grownBy.refl _ _) _,by rw [FR];exact g⟩
 case round=>
  obtain ⟨j,H,rfl,k,a⟩:=hrel;have J:j<=l.length+2:=by rw [<- h.out];exact H
  by_cases F:j<l.length+2
  . have v:j<L.length:=(by rw [h.out];exact F);have d1:=a.cell j (by rw [Jc];exact v);have I:=a.frozen j;rw [Jd 85 j L v] at d1;have G:=eG d j;have f:=a.set j (L.getD j 0^^^85);rw [FS] at f;have E:=fp k j (Z8 .u8 ((L.getD j 0^^^85:Nat):Int));have hi:bits .xor .u8 ((L.getD j 0:Nat):Int) 85=((L.getD j 0^^^85:Nat):Int):=nt (L.getD j 0) 85 G (by decide);generalize L.getD j 0=x at *;clear a k;go_wp2;go_roundw
    case rel=>exact ⟨j+1,by omega,by go_num,E,f⟩
    case measure=>simp [intOf];omega
  . have y:j=L.length:=(by rw [h.out];omega);have f:aL wr b (xr 85 L):=(by rw [y,Jb] at a;exact a);clear a y;go_wp2;go_ret;exact ⟨rfl,k,f⟩
def iV.Uo {cap:Nat} (h:iV w base (Z6 (ZZ ⟨g,0,Z0⟩) n cap) L) {i:Nat} (hi:i<L.length):w.cell? ⟨g,i,Z0⟩=ZZ (lB L[i]):=by
 have:=h.own.cells (g:=g) rfl i (lB L[i]) (by simp [hi]);rw [mN] at this;exact this
def iV.slice (h:iV w base v L):∃ ao cap,v=.slice ao L.length cap/\(L≠[]->∃ g,ao=ZZ ⟨g,0,Z0⟩):=by
 rcases h.shape with ⟨rfl,rfl⟩|⟨g,cap,rfl,_⟩
 . exact ⟨Z0,0,rfl,λh=>absurd rfl h⟩
 . exact ⟨_,cap,rfl,λ_=>⟨g,rfl⟩⟩
def rU (a:ZQ) (i:Nat) (v:ZV) (h:i<a.tmps.size):(a.put (ZZ i) v).eval (.tmp i)=v:=by simp [Act.put,Act.eval,h]
def iB (a:ZQ) (i j:Nat) (v:ZV) (h:i≠j):(a.put (ZZ i) v).eval (.tmp j)=a.eval (.tmp j):=by
 simp [Act.put,Act.eval,XJ,h]
def oh (a:ZQ) (d:Option Nat) (v:ZV):(a.put d v).tmps.size=a.tmps.size:=by
 cases d<;>simp [Act.put]
structure dQ (lo hi:Nat) (a a':ZQ):Prop where
 size:a'.tmps.size=a.tmps.size
 defers:a'.defers=a.defers
 slot:∀ s,s<lo\/hi<=s->a'.eval (.tmp s)=a.eval (.tmp s)
def dQ.refl (lo hi:Nat) (a:ZQ):dQ lo hi a a:=⟨rfl,rfl,λ_ _=>rfl⟩
def dQ.put {a a':ZQ} (h:dQ lo hi a a') {d:Option Nat} (v:ZV) (b:∀ i,d=ZZ i->lo<=i/\i<hi):dQ lo hi a (a'.put d v):=by
 cases d with
 | none=>exact h
 | some d=>
  obtain ⟨e,f⟩:=b d rfl;exact ⟨by rw [oh];exact h.size,h.defers,λs c=>by rw [iB _ _ _ _ (by omega)];exact h.slot s c⟩
def Act.putFrom (a:ZQ):Nat->List ZV->ZQ
 | _,[]=>a
 | d,v::r=>Act.putFrom (a.put (ZZ d) v) (d+1) r
def fA:∀ (b:List ZV) (a:ZQ) (d:Nat),(Act.putFrom a d b).tmps.size=a.tmps.size/\(Act.putFrom a d b).defers=a.defers
 | [],_,_=>⟨rfl,rfl⟩
 | v::r,a,d=>by
  obtain ⟨c,e⟩:=fA r (a.put (ZZ d) v) (d+1);exact ⟨c.trans (oh _ _ _),e⟩
def fC:∀ (b:List ZV) (a:ZQ) (d s:Nat),d+b.length<=a.tmps.size->(Act.putFrom a d b).eval (.tmp s)=if d<=s/\s<d+b.length then b.getD (s-d) Z1 else a.eval (.tmp s)
 | [],a,d,s,_=>by
  show a.eval (.tmp s)=if d<=s/\s<d+0 then _ else _;rw [if_neg (by omega)]
 | v::r,a,d,s,h=>by
  simp only [XT] at h ⊢;show (Act.putFrom (a.put (ZZ d) v) (d+1) r).eval (.tmp s)=_;rw [fC r _ _ _ (by rw [oh];omega)];by_cases e:s=d
  . subst e;rw [if_neg (by omega),if_pos (by omega),X7,rU _ _ _ (by omega)];rfl
  . rw [iB _ _ _ _ (λq=>e q.symm)];by_cases c:d+1<=s/\s<d+1+r.length
    . rw [if_pos c,if_pos (by omega),show s-d=(s-(d+1))+1 by omega];rfl
    . rw [if_neg c,if_neg (by omega)]
theorem yx {a b:ZQ} (c:a.tmps.size=b.tmps.size) (d:a.defers=b.defers) (f:∀ s,s<a.tmps.size->a.eval (.tmp s)=b.eval (.tmp s)):a=b:=by
 obtain ⟨k,h⟩:=a;obtain ⟨l,j⟩:=b;simp only at c d;subst d;congr 1;refine Yo c λi e g=>?_;have:=f i e;simpa [Act.eval,e,g] using this
def dQ.out {a a':ZQ} (h:dQ lo hi a a') (b:List ZV) (g:lo+b.length=hi) (j:hi<=a.tmps.size) (c:∀ i,i<b.length->a'.eval (.tmp (lo+i))=b.getD i Z1):a'=Act.putFrom a lo b:=by
 obtain ⟨d,f⟩:=fA b a lo;refine yx (h.size.trans d.symm) (h.defers.trans f.symm) λs _=>?_;rw [fC b a lo s (by omega)];by_cases e:lo<=s/\s<lo+b.length
 . rw [if_pos e];have:=c (s-lo) (by omega);rwa [show lo+(s-lo)=s by omega] at this
 . rw [if_neg e];exact h.slot s (by omega)
def sE (ops:Array ZR) (i:Nat):List Nat:=match ops[i]? with
 | some o=>(o.after.toList.filter (λe=>Region.binds .any e)).map (λe=>e.on)
 | none=>[]
theorem ix:i∈Region.ready .any ops listed↔i<ops.size/\listed.getD i ZY=ZX/\∀ k∈sE ops i,listed.getD k ZX=ZY:=by
 unfold Region.ready sE;rw [Yp,X9,Ya];constructor
 . rintro ⟨b,c,a⟩;refine ⟨b,by simpa using c,λk f=>?_⟩;rw [X3 b] at a f;simp only [Yb,YI] at a;rw [XV] at f;obtain ⟨e,d,rfl⟩:=f;obtain ⟨h,j⟩:=Yp.1 d;have:=YJ.1 a e (by simpa using h);simpa [j] using this
 . rintro ⟨b,c,a⟩;refine ⟨b,by simpa using c,?_⟩;rw [X3 b] at a ⊢;simp only [Yb,YI];rw [YJ];intro e d;by_cases g:Region.binds .any e=ZY
   . have:=a e.on (XV.2 ⟨e,Yp.2 ⟨by simpa using d,g⟩,rfl⟩);simp [this]
   . simp [g]
def fP (listed:Array Bool):Nat:=(listed.toList.filter (λb=>!b)).length
theorem sF (h:listed.getD i ZY=ZX):fP (listed.setIfInBounds i ZY)+1=fP listed:=by
 have hi:i<listed.size:=by
  by_cases c:i<listed.size
  . exact c
  . simp [XJ,c] at h
 unfold fP;rw [YK];have a:listed.toList[i]?=ZZ ZX:=by
  simp [XJ,hi] at h;simp [hi,h]
 generalize listed.toList=l at a;clear h hi;induction l generalizing i with
 | nil=>simp at a
 | cons b l ih=>
  cases i with
  | zero=>
   simp at a;subst a;simp
  | succ i=>
   simp at a;have:=ih a;cases b<;>simp [List.set_cons_succ]<;>omega
def fq (h:fP listed=0) (i:Nat) (hi:i<listed.size):listed.getD i ZX=ZY:=by
 unfold fP at h;have a:=YL.1 h;rw [YM] at a;have:=a listed[i] (by simp);simpa [XJ,hi] using this
def pL (a:α) (l:List α) (d:α):(a::l).getD 0 d=a:=rfl
def pM (a:α) (l:List α) (n:Nat) (d:α):(a::l).getD (n+1) d=l.getD n d:=rfl
def cT (d:Option Nat) (a:ZQ):ZV:=match d with
 | some d=>a.eval (.tmp d)
 | none=>Z1
structure aN (ops:Array ZR) (lo hi:Nat) (sh:List (Op×Option Nat×List Nat)):Prop where
 at_:(XP ops.size).map (λi=>((ops[i]?.map λo=>(o.op,o.dst,o.guard)),sE ops i))=sh.map (λx=>(ZZ (x.1,x.2.1,Z0),x.2.2))
 early:∀ i,i<sh.length->∀ k∈(sh.getD i (.move (.const Z1),Z0,[])).2.2,k<i
 Vc:∀ i j d,i<sh.length->j<sh.length->(sh.getD i (.move (.const Z1),Z0,[])).2.1=ZZ d->(lo<=d/\d<hi)/\((sh.getD j (.move (.const Z1),Z0,[])).2.1=ZZ d->i=j)
def Qr (lo hi:Nat) (sh:List (Op×Option Nat×List Nat)):Bool:=(XP sh.length).all λi=>(sh.getD i (.move (.const Z1),Z0,[])).2.2.all (λk=>decide (k<i))&&match (sh.getD i (.move (.const Z1),Z0,[])).2.1 with
 | none=>ZY
 | some d=>decide (lo<=d)&&decide (d<hi)&&(XP sh.length).all λj=>(sh.getD j (.move (.const Z1),Z0,[])).2.1 != ZZ d || i==j
def bx (c:(XP ops.size).map (λi=>((ops[i]?.map λo=>(o.op,o.dst,o.guard)),sE ops i))=sh.map (λx=>(ZZ (x.1,x.2.1,Z0),x.2.2))) (a:Qr lo hi sh=ZY):aN ops lo hi sh:=by
 unfold Qr at a;rw [Yq] at a;refine ⟨c,λi b k h=>?_,λi j d b g f=>?_⟩
 . have:=a i (X9.2 b);rw [Ya,Yq] at this;exact of_decide_eq_true (this.1 k h)
 . have:=(Ya.1 (a i (X9.2 b))).2;rw [f] at this;simp only [Ya,decide_eq_true_eq,Yq] at this;refine ⟨this.1,λe=>?_⟩;have q:=this.2 j (X9.2 g);rw [e] at q;simpa using q
theorem aN.size (h:aN ops lo hi sh):ops.size=sh.length:=by
 have:=congrArg List.length h.at_;simpa using this
theorem aN.get (h:aN ops lo hi sh) (i:Nat) (hi:i<sh.length) :
 ∃ o,ops[i]?=ZZ o/\o.op=(sh.getD i (.move (.const Z1),Z0,[])).1/\o.dst=(sh.getD i (.move (.const Z1),Z0,[])).2.1/\o.guard=Z0/\sE ops i=(sh.getD i (.move (.const Z1),Z0,[])).2.2:=by
 have j:=h.size;have:=congrArg (λl=>l[i]?) h.at_;have a:i<ops.size:=by omega
 simp only [XY,YN a,Yb,XM hi,Option.some.injEq,Prod.mk.injEq,YB] at this;obtain ⟨⟨o,b,c,d,f⟩,g⟩:=this;have e:sh.getD i (.move (.const Z1),Z0,[])=sh[i]:=by simp [hi]
 rw [e];exact ⟨o,b,c,d,f,g⟩
def dR (D:Nat->Bool) (i:Nat):Nat->Bool:=λj=>if j=i then ZY else D j
abbrev bZ (sh:List (Op×Option Nat×List Nat)) (i:Nat):Op×Option Nat×List Nat:=sh.getD i (.move (.const Z1),Z0,[])
def CO (P:Program) (Q:ZS->ZQ->ZW->Prop) (lo hi:Nat) (sh:List (Op×Option Nat×List Nat)) (a0:ZQ) (V:Nat->ZV->ZW->Prop) (B:(Nat->Bool)->ZW->Prop) (i:Nat):Prop:=
 ∀ (o:ZR) (a:ZQ) (w:ZW) (D:Nat->Bool),o.guard=Z0->o.op=(bZ sh i).1->o.dst=(bZ sh i).2.1->dQ lo hi a0 a->D i=ZX->(∀ j,D j=ZY->j<sh.length/\∀ k∈(bZ sh j).2.2,D k=ZY) ->
  (∀ k∈(bZ sh i).2.2,D k=ZY)->B D w->(∀ j,D j=ZY->V j (cT (bZ sh j).2.1 a) w) ->
  o.wp P a w (λa' w'=>∃ v,a'=a.put o.dst v/\(o.dst=Z0->v=Z1)/\B (dR D i) w'/\V i v w'/\∀ j u,D j=ZY->V j u w->V j u w') Q
theorem CP {Q:ZS->ZQ->ZW->Prop} (u:aN ops lo hi sh) (n:ZQ) (hy:hi<=n.tmps.size)
 (V:Nat->ZV->ZW->Prop) (B:(Nat->Bool)->ZW->Prop) (Y:∀ i,i<sh.length->CO P Q lo hi sh n V B i)
 (hh:∀ (a:ZQ) (w:ZW),dQ lo hi n a->(∀ s,(∀ i,i<sh.length->(bZ sh i).2.1≠ZZ s)->a.eval (.tmp s)=n.eval (.tmp s))->(∃ D,(∀ i,i<sh.length->D i=ZY)/\B D w)->(∀ i,i<sh.length->V i (cT (bZ sh i).2.1 a) w)->Q .normal a w) :
 ∀ (f:Nat) (listed:Array Bool) (a:ZQ) (w:ZW),listed.size=sh.length->fP listed=f->dQ lo hi n a->(∀ s,(∀ i,i<sh.length->(bZ sh i).2.1≠ZZ s)->a.eval (.tmp s)=n.eval (.tmp s))->(∀ j,listed.getD j ZX=ZY->j<sh.length/\∀ k∈(bZ sh j).2.2,listed.getD k ZX=ZY)->B (λj=>listed.getD j ZX) w ->
  (∀ i,listed.getD i ZX=ZY->V i (cT (bZ sh i).2.1 a) w)->wpAny P .any ops Q f listed a w:=by
 have k5:=u.size;have W:∀ listed:Array Bool,listed.size=sh.length->fP listed≠0->Region.ready .any ops listed≠[]:=by
  intro listed H x hr;have Z:∀ i,i<sh.length->listed.getD i ZX=ZY:=by
   intro i;induction i using Nat.strongRecOn with
   | ind i ih=>
    intro c;by_cases g:listed.getD i ZX=ZY
    . exact g
    . exfalso;have y:i∈Region.ready .any ops listed:=ix.2 ⟨by omega,by simpa [XJ,show i<listed.size by omega] using g,λk m=>by
       obtain ⟨o,_,_,_,_,e⟩:=u.get i c;rw [e] at m;have:=u.early i c k m;exact ih k this (by omega)⟩
      rw [hr] at y;cases y
  apply x;unfold fP;rw [YL,YM];intro b X;obtain ⟨i,c,rfl⟩:=List.getElem_of_mem X;have hz:i<listed.size:=by simpa using c
  have:=Z i (by omega);simp [XJ,hz] at this;simp [this]
 intro f;induction f with
 | zero=>
  intro listed a w H x m I F J E;refine ⟨?_,hh a w m I ⟨_,λi c=>fq x i (by omega),J⟩ λi c=>E i (fq x i (by omega))⟩;rw [List.eq_nil_iff_forall_not_mem];intro i y;obtain ⟨U,p,_⟩:=ix.1 y;have:=fq x i (by omega);simp [XJ,show i<listed.size by omega] at this p;rw [this] at p;cases p
 | succ f ih=>
  intro listed a w H x m I F J E;refine ⟨λe=>absurd e (W listed H (by omega)),λi y=>?_⟩;obtain ⟨U,p,M⟩:=ix.1 y;have c:i<sh.length:=by omega
  have O:i<listed.size:=by omega
  obtain ⟨o,S,T,z,K,L⟩:=u.get i c;have hq:listed.getD i ZX=ZX:=by simpa [XJ,O] using p
  have C:∀ j,(listed.setIfInBounds i ZY).getD j ZX=dR (λj=>listed.getD j ZX) i j:=by
   intro j;unfold dR;by_cases l:j=i
   . subst l;rw [if_pos rfl];simp [XJ,O]
   . rw [if_neg l,XJ,YC,if_neg (λq:i=j=>l q.symm),<- XJ]
  unfold wpOp;rw [S];show if Region.wanted o (yielded ops a.tmps)=ZY then _ else _;rw [if_pos (by simp [Region.wanted,K])];refine .inl (Oper.wp_mono (λa' w' h=>?_) (Y i c o a w (λj=>listed.getD j ZX) K T z m hq F (λk r=>?_) J E))
  . obtain ⟨v,rfl,hu,hp,hv,k0⟩:=h;have N:∀ d,o.dst=ZZ d->lo<=d/\d<hi:=λd g=>by rw [z] at g;exact (u.Vc i i d c c g).1
    refine ih _ _ _ (by simpa using H) (by have:=sF p;omega) (m.put v N) (λs R=>?_) (λj G=>?_) ?_ λj t=>?_
    . refine Eq.trans ?_ (I s R);cases g:o.dst with
      | none=>rfl
      | some d=>exact iB _ _ _ _ (λe=>R i c (by rw [show (bZ sh i).2.1=o.dst from z.symm,g,e]))
    . rw [C] at G;unfold dR at G;by_cases l:j=i
      . subst l;refine ⟨c,λk r=>?_⟩;rw [C];unfold dR;by_cases A:k=j
        . rw [if_pos A]
        . rw [if_neg A];rw [<- L] at r;exact M k r
      . rw [if_neg l] at G;obtain ⟨q1,q2⟩:=F j G;refine ⟨q1,λk r=>?_⟩;rw [C];unfold dR;by_cases A:k=i
        . rw [if_pos A]
        . rw [if_neg A];exact q2 k r
    . have e:(λj=>(listed.setIfInBounds i ZY).getD j ZX)=dR (λj=>listed.getD j ZX) i:=funext C;rw [e];exact hp
    . rw [C] at t;unfold dR at t;by_cases l:j=i
      . subst l;have:cT (bZ sh j).2.1 (a.put o.dst v)=v:=by
         show cT (sh.getD j (.move (.const Z1),Z0,[])).2.1 (a.put o.dst v)=v;rw [<- z];cases g:o.dst with
         | none=>exact (hu g).symm
         | some d=>exact rU _ _ _ (XL (N d g).2 (by rw [m.size];exact hy))
        rw [this];exact hv
      . rw [if_neg l] at t;have:cT (bZ sh j).2.1 (a.put o.dst v)=cT (bZ sh j).2.1 a:=by
         cases hx:(bZ sh j).2.1 with
         | none=>rfl
         | some d'=>
          cases g:o.dst with
          | none=>rfl
          | some d=>
           refine iB _ _ _ _ λq=>l ?_;subst q;rw [z] at g;exact (u.Vc j i d (F j t).1 c hx).2 g
        rw [this];exact k0 j _ t (E j t)
  . exact M k (by rw [L];exact r)
theorem cU {Q:ZS->ZQ->ZW->Prop} (p:P.follows .mixedOrders=ZY) (d:aN ops lo hi sh) (b:ZQ) (w0:ZW) (l:hi<=b.tmps.size)
 (V:Nat->ZV->ZW->Prop) (B:(Nat->Bool)->ZW->Prop) (o:B (λ_=>ZX) w0.drew) (g:∀ i,i<sh.length->CO P Q lo hi sh b V B i)
 (k:∀ (a:ZQ) (w:ZW),dQ lo hi b a->(∀ s,(∀ i,i<sh.length->(bZ sh i).2.1≠ZZ s)->a.eval (.tmp s)=b.eval (.tmp s))->(∃ D,(∀ i,i<sh.length->D i=ZY)/\B D w)->(∀ i,i<sh.length->V i (cT (bZ sh i).2.1 a) w)->Q .normal a w):(Code.region m ops ZY).wp P Q b w0:=by
 refine wp_region_any p ?_;have n:=d.size;have c:∀ i,(XQ ops.size ZX).getD i ZX=ZX:=λi=>by
  simp only [XJ,Array.getElem?_replicate];split<;>rfl
 refine CP d b l V B g k _ _ b w0.drew (by simp [n]) ?_ (dQ.refl _ _ _) (λ_ _=>rfl) (λj f=>?_) ?_ λi h=>?_
 . unfold fP;simp
 . rw [c] at f;cases f
 . have e:(λj=>(XQ ops.size ZX).getD j ZX)=λ_=>ZX:=funext c;rw [e];exact o
 . rw [c] at h;cases h
def cB {Q:ZS->ZQ->ZW->Prop} (l:P.follows .mixedOrders=ZY) (j:aN ops lo hi sh) (b:ZQ) (w0:ZW) (h:hi<=b.tmps.size)
 (V:Nat->ZV->ZW->Prop) (B:(Nat->Bool)->ZW->Prop) (k:B (λ_=>ZX) w0.drew) (c:∀ i,i<sh.length->CO P Q lo hi sh b V B i)
 (g:∀ (a:ZQ) (w:ZW),dQ lo hi b a->(∃ D,(∀ i,i<sh.length->D i=ZY)/\B D w)->(∀ i,i<sh.length->V i (cT (bZ sh i).2.1 a) w)->Q .normal a w):(Code.region m ops ZY).wp P Q b w0:=
 cU l j b w0 h V B k c λa w d _ e f=>g a w d e f
def ae {Q:ZS->ZQ->ZW->Prop} {a:ZQ} {B:ZW->Prop} {S:ZW->Prop} (e:(execOp a.eval o).run P w=.ok (.value v) w') {d:Nat} (c:o.dst=ZZ d) (h:B w'/\Vi v w'/\S w') :
 o.wp P a w (λb w'=>∃ v,b=a.put o.dst v/\(o.dst=Z0->v=Z1)/\B w'/\Vi v w'/\S w') Q:=by
 unfold Oper.wp;rw [e];exact ⟨v,rfl,λh=>(by rw [c] at h;cases h),h⟩
def ja {Q:ZS->ZQ->ZW->Prop} {a:ZQ} {B:ZW->Prop} {S:ZW->Prop} (c:(execOp a.eval o).run P w=.ok .skip w') (h:B w'/\Vi Z1 w'/\S w') :
 o.wp P a w (λb w'=>∃ v,b=a.put o.dst v/\(o.dst=Z0->v=Z1)/\B w'/\Vi v w'/\S w') Q:=by
 unfold Oper.wp;rw [c];exact ⟨Z1,rfl,λ_=>rfl,h⟩
def dD {Q:ZS->ZQ->ZW->Prop} {a:ZQ} {Rr:Ending->ZW->Prop} {B:ZW->Prop} {S:ZW->Prop} (k:(execOp a.eval o).run P w=.ok (.enter f args) w1) {d:Nat} (i:o.dst=ZZ d) (g:ZT P f args w1 Rr)
 (h:∀ e w',Rr e w'->∃ v,e=Z4 v/\B w'/\Vi v w'/\S w'):o.wp P a w (λb w'=>∃ v,b=a.put o.dst v/\(o.dst=Z0->v=Z1)/\B w'/\Vi v w'/\S w') Q:=by
 unfold Oper.wp;rw [k];refine g.mono λe w' j=>?_;obtain ⟨v,rfl,c⟩:=h e w' j;exact ⟨v,rfl,λh=>(by rw [i] at h;cases h),c⟩
def ag {a:ZQ} (ho:o.op=.move x) (b:a.eval x=v) (w:ZW):(execOp a.eval o).run P w=.ok (.value v) w:=by simp [execOp,ho,b]
theorem eo {a:ZQ} {ad:Addr} (ho:o.op=.nilCheck x) (b:a.eval x=Z7 (ZZ ad)) (w:ZW):(execOp a.eval o).run P w=.ok (.value (Z7 (ZZ ad))) w:=by simp only [execOp,ho,b];go_simp
def kq {D:Nat->Bool} {V:Nat->ZV->Prop}:∀ j u,D j=ZY->V j u->V j u:=λ_ _ _ q=>q
def lE (a:Array ZP) (b:ZP) (x y:Int) (w:ZW):(Builtin.max_ a b #[Z8 Z9 x,Z8 Z9 y]).run P w=.ok (Z8 Z9 (if y>x then y else x)) w:=by
 simp [Builtin.max_,Builtin.max2]
def jb (a:Array ZP) (b:ZP) (x y:Int) (w:ZW):(Builtin.min_ a b #[Z8 Z9 x,Z8 Z9 y]).run P w=.ok (Z8 Z9 (if y<x then y else x)) w:=by
 simp [Builtin.min_,Builtin.min2]
def sG {a:ZQ} {s t:ZO} {ats:Array ZP} (ho:o.op=.call { callee:=.builtin .max,args:=#[s,t],argTypes:=ats }) {x y:Int} (hx:a.eval s=Z8 Z9 x) (hy:a.eval t=Z8 Z9 y) (w:ZW) :
 (execOp a.eval o).run P w=.ok (.value (Z8 Z9 (if y>x then y else x))) w:=by
 unfold execOp;simp only [ho,resolve,invoke,builtin,Sem.run_bind,Sem.run_pure,Result.andThen_ok,YO,YP,List.map_nil,hx,hy,lE]
def mW:Code->Nat->Option (Array ZR)
 | .region i ops _,n=>if i=n then ZZ ops else Z0
 | .seq a b,n=>(mW a n).orElse λ_=>mW b n
 | .cond _ a b,n=>(mW a n).orElse λ_=>mW b n
 | .block _ a,n=>mW a n
 | .loop a,n=>mW a n
 | .scope a,n=>mW a n
 | .rangeFunc _ _ a b,n=>(mW a n).orElse λ_=>mW b n
 | _,_=>Z0
theorem Aj {A:ay} {F:bh} (h:aA w p A F) (a:A.fit) (d b:Nat) (f:d<A.n) (t:b<A.nb) (x:A.wait≠0) (u:A.lost d=ZX) :
 ZT ZN 174 #[Z7 (ZZ ⟨p,0,Z0⟩),Z8 Z9 d,Z8 Z9 b] w λe w'=>e=Z4 (.tuple #[Z7 (ZZ ⟨F.g,d*4,Z0⟩),.nilIface])/\w'=w:=by
 obtain ⟨i,c1,_,_⟩:=h.TS;obtain ⟨j,d1,k,l⟩:=h.Ud d f;have v:=a.n;have s:=a.nb;have m:¬ (d:Int)<0:=by omega
 have o:¬ (A.n:Int)<=(d:Int):=by omega
 have c:(d:Int)<(A.n:Int):=by omega
 have q:¬ (b:Int)<0:=by omega
 have r:¬ (A.nb:Int)<=(b:Int):=by omega
 go_enter func174,ntmps174;go_wp2;go_ret2;exact ⟨rfl,rfl⟩
theorem Jf {A:ay} {F:bh} (h:aA w p A F) (i:A.fit) (d b:Nat) (f:d<A.n) (m:b<A.nb) (B:A.wait≠0) (z:A.lost d=ZX) (J:A.bad d b=ZX) :
 ZT ZN 159 #[Z7 (ZZ ⟨p,0,Z0⟩),Z8 Z9 d,Z8 Z9 b] w λe w'=>e=Z4 (.tuple #[.agg (an (A.blk d b)),.nilIface]) /\
  aA w' p (A.TI d (wrap64 (A.reads d+1))) F/\aa (F.has p A.n) w w':=by
 have P:=zeroBlk;have j:=i.len d b;have O:=i.n;have hi:=i.nb;have a:=h.alloc (Z5 (an zb) 255);have r:=bJ.new w zb;have N:=h.VE;have M:=h.VO;have o:aa (F.has p A.n) w (w.alloc (Z5 (an zb) 255)):=aa.alloc w _;obtain ⟨w1,y⟩:=nM (w.alloc (Z5 (an zb) 255));rw [y] at a r o;have K:(an zb).size=64:=by rw [bB,bE]
 go_enter func159,ntmps159;go_wp2_with fail;refine (Aj a i d b f m B z).mono ?_;rintro e w' ⟨rfl,rfl⟩;have c:=a.TI d (wrap64 (A.reads d+1));obtain ⟨D,d1,E,G⟩:=a.Ud d f;have L:=a.Ug (d*4+3);obtain ⟨w2,l⟩:=nM (w'.setCell ⟨F.g,d*4+3,Z0⟩ (Z8 Z9 (wrap64 (A.reads d+1))));rw [l] at c;obtain ⟨Q,R,S,U⟩:=c.Ud d f;have V:w2.cell? ⟨F.bd d,b,Z0⟩=ZZ (Z3 (A.bad d b)):=c.VR d b f m;have C:w2.rangeAt (F.bb d) (b*64) (aH (A.blk d b)):=c.range (i.TI _ _) d b f m;have s:bJ w2 w.heap.size zb:=r.keep (by rw [<- l];exact blk_setCell_other _ _ _ _ (by show w.heap.size≠F.g;omega));have q:aa (F.has p A.n) w w2:=o.trans (by rw [<- l];exact aa.setCell _ _ _ (.inr (.inl rfl)));have H:¬ (b:Int)<0:=by omega
 have I:(b:Int)<(A.nb:Int):=by omega
 go_wp2_with (first|(refine CG rfl (Z2 46) rfl (F.bb d) (b*64) (A.blk d b) rfl C j ?_)|(refine gq rfl (Z2 6) (Z2 47) rfl w.heap.size (A.blk d b) zb rfl rfl s bE j ?_));have u:=s.setRow (A.blk d b);have x:=qU u j;refine bodyPost_ret (v:=.tuple #[.agg (an (A.blk d b)),.nilIface]) (iY results159 _ _ _ _ _ rfl rfl x) rfl ?_;refine ⟨rfl,c.keep λk t=>?_,q.later (T:=λk=>k=w.heap.size) (aa.setRow _ _ _ rfl) λk t e=>absurd e (by omega)⟩
 . have:=h.TH (k:=k) t;exact (aI w2 w.heap.size (an (A.blk d b))).block k (XL this q.size) (λe=>by cases e;omega)
noncomputable def Sv:Array ZR:=((Tryz.f155.body.bind (mW · 9))).getD #[]
def Rw:List (Op×Option Nat×List Nat):=[(Op.move (Z2 9),ZZ 49,[]),
 (Op.nilCheck (Z2 49),ZZ 50,[0]),
 (Op.fieldAddr 61 (Z2 50) 1,ZZ 51,[1]),
 (Op.load 58 (Z2 51),ZZ 52,[2]),
 (Op.move (Z2 2),ZZ 53,[]),
 (Op.move (Z2 9),ZZ 54,[]),
 (Op.nilCheck (Z2 54),ZZ 55,[5]),
 (Op.fieldAddr 61 (Z2 55) 2,ZZ 56,[6]),
 (Op.load 59 (Z2 56),ZZ 57,[7]),
 (Op.move (Z2 2),ZZ 58,[]),
 (Op.load 255 (Z2 7),ZZ 59,[]),
 (Op.indexAddr 58 (Z2 52) (Z2 53),ZZ 60,[3,4,0,1,2,3,4,8,10]),
 (Op.store 255 (Z2 60) (Z2 59),Z0,[11,10,0,1,2,3,4,8,10]),
 (Op.indexAddr 59 (Z2 57) (Z2 58),ZZ 61,[8,9,0,1,2,3,4,5,6,7,8,9,10,11,12]),
 (Op.store 4 (Z2 61) (Operand.const (Value.bool ZX)),Z0,[13,12,0,1,2,3,4,5,6,7,8,9,10,11,12])]
def FW:aN Sv 49 62 Rw:=bx (by kernel_rfl) (by kernel_rfl)
def Rx (F:bh) (nb d b:Nat) (l:List Nat):List ZV:=[Z7 (ZZ ⟨F.g,d*4,Z0⟩),Z7 (ZZ ⟨F.g,d*4,Z0⟩),Z7 (ZZ ⟨F.g,d*4+1,Z0⟩),Z6 (ZZ ⟨F.bb d,0,Z0⟩) nb nb,Z8 Z9 b,
 Z7 (ZZ ⟨F.g,d*4,Z0⟩),Z7 (ZZ ⟨F.g,d*4,Z0⟩),Z7 (ZZ ⟨F.g,d*4+2,Z0⟩),Z6 (ZZ ⟨F.bd d,0,Z0⟩) nb nb,Z8 Z9 b,.agg (an l),Z7 (ZZ ⟨F.bb d,b*64,Z0⟩),Z1,Z7 (ZZ ⟨F.bd d,b,Z0⟩),Z1]
def Mn (F:bh) (nb d b:Nat) (l:List Nat):List ZV:=[Z7 (ZZ ⟨F.g,d*4,Z0⟩),Z7 (ZZ ⟨F.g,d*4,Z0⟩),Z7 (ZZ ⟨F.g,d*4+1,Z0⟩),Z6 (ZZ ⟨F.bb d,0,Z0⟩) nb nb,Z8 Z9 b,Z7 (ZZ ⟨F.g,d*4,Z0⟩),Z7 (ZZ ⟨F.g,d*4,Z0⟩),Z7 (ZZ ⟨F.g,d*4+2,Z0⟩),Z6 (ZZ ⟨F.bd d,0,Z0⟩) nb nb,Z8 Z9 b,.agg (an l),Z7 (ZZ ⟨F.bb d,b*64,Z0⟩),Z7 (ZZ ⟨F.bd d,b,Z0⟩)]
def jw (A:ay) (d b:Nat) (l:List Nat) (D:Nat->Bool):ay:=if D 14=ZY then (A.TK d b l).TN d b ZX else if D 12=ZY then A.TK d b l else A
def Jg (A:ay) (d b:Nat) (l:List Nat) (D:Nat->Bool) (i:Nat) (a:i≠12) (c:i≠14):jw A d b l (dR D i)=jw A d b l D:=by
 unfold jw dR;rw [if_neg (λe:14=i=>c e.symm),if_neg (λe:12=i=>a e.symm)]
theorem yy (A:ay) (d b:Nat) (l:List Nat) (D:Nat->Bool):(jw A d b l D).n=A.n/\(jw A d b l D).nb=A.nb:=by
 unfold jw;split
 . exact ⟨rfl,rfl⟩
 . split<;>exact ⟨rfl,rfl⟩
theorem yz {Q:ZS->ZQ->ZW->Prop} {a:ZQ} {A:ay} {F:bh} {d box:Nat} (X:Sv=ops) (h:aA w p A F) (Y:A.fit) (B:d<A.n) (L:b<A.nb) (H:l.length=64)
 (W:bJ w box l) (M:¬ F.has p A.n box) (hj:a.tmps.size=62) (J:a.eval (Z2 9)=Z7 (ZZ ⟨F.g,d*4,Z0⟩)) (I:a.eval (Z2 2)=Z8 Z9 b) (N:a.eval (Z2 7)=Z7 (ZZ ⟨box,0,Z0⟩))
 (V:∀ w',aA w' p ((A.TK d b l).TN d b ZX) F->aa (F.has p A.n) w w' ->
  Q .normal (Act.putFrom a 49 (Mn F A.nb d b l)) w') :
 (Code.region 9 ops ZY).wp ZN Q a w:=by
 subst X;have hh:=Y.nb;have e3:¬ (b:Int)<0:=by omega
 have e4:(b:Int)<(A.nb:Int):=by omega
 refine cB (by kernel_rfl) FW a w (by omega) (λi v _=>v=(Rx F A.nb d b l).getD i Z1) (λD w'=>aA w' p (jw A d b l D) F/\bJ w' box l/\aa (F.has p A.n) w w') ⟨(h.keep λ_ _=>rfl:aA w.drew p A F),W,aa.drew w⟩ ?_ ?_
 . intro i hi;have z:∀ (i:Nat),i≠12->i≠14->∀ (D:Nat->Bool) (w':ZW),(aA w' p (jw A d b l D) F/\bJ w' box l/\aa (F.has p A.n) w w')->(aA w' p (jw A d b l (dR D i)) F/\bJ w' box l/\aa (F.has p A.n) w w'):=λi O R D w' q=>by rw [Jg A d b l D i O R];exact q
   match i,hi with
   | 0,_=>exact λo k w' D y ho r s u x m f j=>ae (ag ho ((s.slot 9 (by omega)).trans J) w') r ⟨z 0 (by decide) (by decide) D w' f,rfl,kq⟩
   | 1,_=>
    intro o k w' D y ho r s u x m f j;have t:k.eval (Z2 49)=Z7 (ZZ ⟨F.g,d*4,Z0⟩):=j 0 (m 0 (by decide));exact ae (v:=Z7 (ZZ ⟨F.g,d*4,Z0⟩)) (by simp only [execOp,show o.op=Op.nilCheck (Z2 49) from ho,t];go_simp) r ⟨z 1 (by decide) (by decide) D w' f,rfl,kq⟩
   | 2,_=>
    intro o k w' D y ho r s u x m f j;have t:k.eval (Z2 50)=Z7 (ZZ ⟨F.g,d*4,Z0⟩):=j 1 (m 1 (by decide));exact ae (v:=Z7 (ZZ ⟨F.g,d*4+1,Z0⟩)) (by simp only [execOp,show o.op=Op.fieldAddr 61 (Z2 50) 1 from ho,t];go_simp) r ⟨z 2 (by decide) (by decide) D w' f,rfl,kq⟩
   | 3,_=>
    intro o k w' D y ho r s u x m f j;have t:k.eval (Z2 51)=Z7 (ZZ ⟨F.g,d*4+1,Z0⟩):=j 2 (m 2 (by decide));have c:=(f.1.Ud d (by rw [(yy A d b l D).1];exact B)).2.1;rw [(yy A d b l D).2] at c;exact ae (v:=Z6 (ZZ ⟨F.bb d,0,Z0⟩) A.nb A.nb) (by simp only [execOp,show o.op=Op.load 58 (Z2 51) from ho,t];go_simp) r ⟨z 3 (by decide) (by decide) D w' f,rfl,kq⟩
   | 4,_=>exact λo k w' D y ho r s u x m f j=>ae (ag ho ((s.slot 2 (by omega)).trans I) w') r ⟨z 4 (by decide) (by decide) D w' f,rfl,kq⟩
   | 5,_=>exact λo k w' D y ho r s u x m f j=>ae (ag ho ((s.slot 9 (by omega)).trans J) w') r ⟨z 5 (by decide) (by decide) D w' f,rfl,kq⟩
   | 6,_=>
    intro o k w' D y ho r s u x m f j;have t:k.eval (Z2 54)=Z7 (ZZ ⟨F.g,d*4,Z0⟩):=j 5 (m 5 (by decide));exact ae (v:=Z7 (ZZ ⟨F.g,d*4,Z0⟩)) (by simp only [execOp,show o.op=Op.nilCheck (Z2 54) from ho,t];go_simp) r ⟨z 6 (by decide) (by decide) D w' f,rfl,kq⟩
   | 7,_=>
    intro o k w' D y ho r s u x m f j;have t:k.eval (Z2 55)=Z7 (ZZ ⟨F.g,d*4,Z0⟩):=j 6 (m 6 (by decide));exact ae (v:=Z7 (ZZ ⟨F.g,d*4+2,Z0⟩)) (by simp only [execOp,show o.op=Op.fieldAddr 61 (Z2 55) 2 from ho,t];go_simp) r ⟨z 7 (by decide) (by decide) D w' f,rfl,kq⟩
   | 8,_=>
    intro o k w' D y ho r s u x m f j;have t:k.eval (Z2 56)=Z7 (ZZ ⟨F.g,d*4+2,Z0⟩):=j 7 (m 7 (by decide));have c:=(f.1.Ud d (by rw [(yy A d b l D).1];exact B)).2.2.1;rw [(yy A d b l D).2] at c;exact ae (v:=Z6 (ZZ ⟨F.bd d,0,Z0⟩) A.nb A.nb) (by simp only [execOp,show o.op=Op.load 59 (Z2 56) from ho,t];go_simp) r ⟨z 8 (by decide) (by decide) D w' f,rfl,kq⟩
   | 9,_=>exact λo k w' D y ho r s u x m f j=>ae (ag ho ((s.slot 2 (by omega)).trans I) w') r ⟨z 9 (by decide) (by decide) D w' f,rfl,kq⟩
   | 10,_=>
    intro o k w' D y ho r s u x m f j;have t:k.eval (Z2 7)=Z7 (ZZ ⟨box,0,Z0⟩):=(s.slot 7 (by omega)).trans N;exact ae (v:=.agg (an l)) (by simp [execOp,show o.op=Op.load 255 (Z2 7) from ho,t,np f.2.1 H]) r ⟨z 10 (by decide) (by decide) D w' f,rfl,kq⟩
   | 11,_=>
    intro o k w' D y ho r s u x m f j;have t:k.eval (Z2 52)=Z6 (ZZ ⟨F.bb d,0,Z0⟩) A.nb A.nb:=j 3 (m 3 (by decide));have G:k.eval (Z2 53)=Z8 Z9 b:=j 4 (m 4 (by decide));exact ae (v:=Z7 (ZZ ⟨F.bb d,b*64,Z0⟩)) (by simp only [execOp,show o.op=Op.indexAddr 58 (Z2 52) (Z2 53) from ho,t,G];go_simp) r ⟨z 11 (by decide) (by decide) D w' f,rfl,kq⟩
   | 12,_=>
    intro o k w' D y ho r s u x m f j;have t:k.eval (Z2 60)=Z7 (ZZ ⟨F.bb d,b*64,Z0⟩):=j 11 (m 11 (by decide));have G:k.eval (Z2 59)=.agg (an l):=j 10 (m 10 (by decide));have K:D 14=ZX:=by
     cases q:D 14 with
     | false=>rfl
     | true=>have:=(x 14 q).2 12 (by decide);rw [u] at this;cases this
    have C:jw A d b l D=A:=(by unfold jw;rw [if_neg (by rw [K];decide),if_neg (by rw [u];decide)]);have E:jw A d b l (dR D 12)=A.TK d b l:=(by unfold jw dR;rw [if_neg (by rw [if_neg (by decide),K];decide),if_pos (by rw [if_pos rfl])]);rw [C] at f;refine ja (w':=w'.setCells (F.bb d) (b*64) (aH l)) ?_ ⟨?_,rfl,kq⟩
    . have:=run_storeAt_mid (P:=ZN) w' (F.bb d) (b*64) 255 (an l) (by rw [bB,H];exact f.1.there d b B L) (fm H) (Ab l);rw [vR] at this;simp [execOp,show o.op=Op.store 255 (Z2 60) (Z2 59) from ho,t,G,this]
    . show aA _ p (jw A d b l (dR D 12)) F/\_/\_;rw [E];refine ⟨f.1.TK d b B l H,f.2.1.keep (bD _ _ _ _ _ (λe=>M (.inr (.inr ⟨d,B,.inl e⟩)))),f.2.2.trans (aa.setCells _ _ _ _ (.inr (.inr ⟨d,B,.inl rfl⟩)))⟩
   | 13,_=>
    intro o k w' D y ho r s u x m f j;have t:k.eval (Z2 57)=Z6 (ZZ ⟨F.bd d,0,Z0⟩) A.nb A.nb:=j 8 (m 8 (by decide));have G:k.eval (Z2 58)=Z8 Z9 b:=j 9 (m 9 (by decide));exact ae (v:=Z7 (ZZ ⟨F.bd d,b,Z0⟩)) (by simp only [execOp,show o.op=Op.indexAddr 59 (Z2 57) (Z2 58) from ho,t,G];go_simp) r ⟨z 13 (by decide) (by decide) D w' f,rfl,kq⟩
   | 14,_=>
    intro o k w' D y ho r s u x m f j;have t:k.eval (Z2 61)=Z7 (ZZ ⟨F.bd d,b,Z0⟩):=j 13 (m 13 (by decide));have S:D 12=ZY:=m 12 (by decide);have C:jw A d b l D=A.TK d b l:=(by unfold jw;rw [if_neg (by rw [u];decide),if_pos S]);have E:jw A d b l (dR D 14)=(A.TK d b l).TN d b ZX:=(by unfold jw dR;rw [if_pos (by rw [if_pos rfl])]);rw [C] at f;have c:=f.1.VR d b B L;have fz:=(f.1.bad d B).frozen b;refine ja (w':=w'.setCell ⟨F.bd d,b,Z0⟩ (Z3 ZX)) ?_ ⟨?_,rfl,kq⟩
    . simp only [execOp,show o.op=Op.store 4 (Z2 61) (.const (Z3 ZX)) from ho,t];go_simp
    . show aA _ p (jw A d b l (dR D 14)) F/\_/\_;rw [E];exact ⟨f.1.TN d b B ZX,f.2.1.keep (blk_setCell_other _ _ _ _ (λe=>M (.inr (.inr ⟨d,B,.inr e⟩)))),f.2.2.trans (aa.setCell _ _ _ (.inr (.inr ⟨d,B,.inr rfl⟩)))⟩
   | n+15,hn=>exact absurd hn (by show ¬ n+15<15;omega)
 . rintro k w' s ⟨D,T,C,_,U⟩ j;have E:jw A d b l D=(A.TK d b l).TN d b ZX:=(by unfold jw;rw [if_pos (T 14 (by decide))]);rw [E] at C;have Z:∀ i:Nat,i<13->k.eval (.tmp (49+i))=(Mn F A.nb d b l).getD i Z1:=by
    intro i hi;match i,hi with
    | 0,_=>exact j 0 (by decide)
    | 1,_=>exact j 1 (by decide)
    | 2,_=>exact j 2 (by decide)
    | 3,_=>exact j 3 (by decide)
    | 4,_=>exact j 4 (by decide)
    | 5,_=>exact j 5 (by decide)
    | 6,_=>exact j 6 (by decide)
    | 7,_=>exact j 7 (by decide)
    | 8,_=>exact j 8 (by decide)
    | 9,_=>exact j 9 (by decide)
    | 10,_=>exact j 10 (by decide)
    | 11,_=>exact j 11 (by decide)
    | 12,_=>exact j 13 (by decide)
    | n+13,hn=>exact absurd hn (by show ¬ n+13<13;omega)
   rw [s.out (Mn F A.nb d b l) rfl (by omega) Z];exact V w' C U
theorem FX {A:ay} {F:bh} (h:aA w p A F) (k:A.fit) (d b:Nat) (j:d<A.n) (i:b<A.nb) (y:A.wait<0) (t:A.lost d=ZX) (l:List Nat) (c:l.length=64) :
 ZT ZN 155 #[Z7 (ZZ ⟨p,0,Z0⟩),Z8 Z9 d,Z8 Z9 b,.agg (an l)] w λe w'=>e=Z4 .nilIface /\
  aA w' p ((A.TK d b l).TN d b ZX) F/\aa (F.has p A.n) w w':=by
 have a:=h.alloc (Z5 (an l) 255);have g:=bJ.new w l;have f:aa (F.has p A.n) w (w.alloc (Z5 (an l) 255)):=aa.alloc w _;have m:¬ F.has p A.n w.heap.size:=λq=>by have:=h.TH q;omega
 obtain ⟨w1,o⟩:=nM (w.alloc (Z5 (an l) 255));rw [o] at a g f;have v:(an l).size=64:=by rw [bB,c]
 obtain ⟨u,c1,_,_⟩:=a.TS;have x:¬ 0<A.wait:=by omega
 go_enter func155,ntmps155;go_wp2_with fail;refine (Aj a k d b j i (by omega) t).mono ?_;rintro e w' ⟨rfl,rfl⟩;go_wp2_with fail;refine yz (by kernel_rfl) a k j i c g m rfl rfl rfl rfl ?_;intro z r s;rename_i hK
 refine hK _ _ ?_;simp only [Act.putFrom,Mn];go_wp2;go_ret;exact ⟨rfl,r,f.trans s⟩
def Mo {A:ay} {F:bh} (h:aq w p A F) (_hf:A.fit) (d b:Nat) (m:d<A.n) (l:b<A.nb) (o:A.wait≠0) (g:A.lost d=ZX) (i:A.bad d b=ZX) :
 ZT ZN 159 #[Z7 (ZZ ⟨p,0,Z0⟩),Z8 Z9 d,Z8 Z9 b] w λe w'=>e=Z4 (.tuple #[.agg (an (A.blk d b)),.nilIface]) /\
  aq w' p (A.TI d (wrap64 (A.reads d+1))) F/\aa (F.has p A.n) w w':=by
 obtain ⟨R,j,c,a⟩:=h;obtain ⟨q,r⟩:=a.here d g;refine (Jf j c d b (by rw [a.n];exact m) (by rw [a.nb];exact l) (by rw [a.wait];exact o) (by rw [a.lost];exact g) (by rw [r];exact i)).mono ?_;rintro e w' ⟨rfl,k,f⟩;rw [a.n] at f;exact ⟨by rw [q],⟨_,k,c.TI _ _,by rw [a.reads];exact a.TI _ _⟩,f⟩
def Jh {A:ay} {F:bh} (h:aq w p A F) (_hf:A.fit) (d b:Nat) (o:d<A.n) (m:b<A.nb) (r:A.wait<0) (q:A.lost d=ZX) (l:List Nat) (c:l.length=64) (j:∀ x∈l,x<256) :
 ZT ZN 155 #[Z7 (ZZ ⟨p,0,Z0⟩),Z8 Z9 d,Z8 Z9 b,.agg (an l)] w λe w'=>e=Z4 .nilIface /\
  aq w' p ((A.TK d b l).TN d b ZX) F/\aa (F.has p A.n) w w':=by
 obtain ⟨R,i,f,a⟩:=h;refine (FX i f d b (by rw [a.n];exact o) (by rw [a.nb];exact m) (by rw [a.wait];exact r) (by rw [a.lost];exact q) l c).mono ?_;rintro e w' ⟨rfl,k,g⟩;rw [a.n] at g;exact ⟨rfl,⟨_,k,(f.TK d b l c j).TN d b ZX,a.put d b l⟩,g⟩
def rL (c j:Nat):Nat:=if j<16 then gm c j else gm c ((j-16)*16)
def tv (f:Nat->Nat) (j:Nat):ZV:=Z8 .u8 ((f j:Nat):Int)
def OJ {x y:Int} (a b:Nat) (f:x=(a:Int)) (g:y=(b:Int)) (c:a<256) (d:b<256) (w:ZW) :
 ZT ZN 92 #[Z8 .u8 x,Z8 .u8 y] w λe w'=>e=Z4 (Z8 .u8 ((gm a b:Nat):Int))/\w'=w:=by
 subst f g;exact mn a b c d w
def fM (c n j:Nat):Nat:=if j<n then gm c j else 0
def Ma (q:Nat):Prop:=q=1\/q=2\/q=4\/q=8\/q=16
def RK (w:ZW) (B c:Nat) (i d:ZV) (wr:ZW):Prop:=
 ∃ q:Nat,Ma q/\i=Z8 Z9 q/\d=Z8 .u8 ((gm c q:Nat):Int)/\wr.rowIs (B+1) 221 16 (tv (fM c q))/\wr.rowIs B 221 16 (λ_=>Z8 .u8 0)/\ZU B w wr
def N1 (w:ZW) (B c q:Nat) (i:ZV) (wr:ZW):Prop:=
 ∃ k:Nat,k<=q/\i=Z8 Z9 k/\wr.rowIs (B+1) 221 16 (tv (fM c (q+k)))/\wr.rowIs B 221 16 (λ_=>Z8 .u8 0)/\ZU B w wr
def JA (w:ZW):(w.alloc (Z5 (XQ 16 (Z8 .u8 0)) 221)).rowIs w.heap.size 221 16 (λ_=>Z8 .u8 0):=by
 have h:=World.rowIs_alloc w (XQ 16 (Z8 .u8 0)) 221 (λ_=>Z8 .u8 0) (λi hi=>by simp at hi;simp [hi]);simpa using h
def OK (w:ZW):(w.alloc (Z5 (XQ 32 (Z8 .u8 0)) 223)).rowIs w.heap.size 223 32 (λ_=>Z8 .u8 0):=by
 have h:=World.rowIs_alloc w (XQ 32 (Z8 .u8 0)) 223 (λ_=>Z8 .u8 0) (λi hi=>by simp at hi;simp [hi]);simpa using h
def JB:∀ i,i<1->i^^^1=1+i:=by decide
def JC:∀ i,i<2->i^^^2=2+i:=by decide
def JD:∀ i,i<4->i^^^4=4+i:=by decide
def JE:∀ i,i<8->i^^^8=8+i:=by decide
def Mw (a:Ma q) (b:q<16) (h:i<q):i^^^q=q+i:=by
 rcases a with rfl|rfl|rfl|rfl|rfl
 . exact JB i h
 . exact JC i h
 . exact JD i h
 . exact JE i h
 . omega
def OL:∀ c,c<256->tx (gm c 1)=gm c 2:=by decide +kernel
def OM:∀ c,c<256->tx (gm c 2)=gm c 4:=by decide +kernel
def ON:∀ c,c<256->tx (gm c 4)=gm c 8:=by decide +kernel
def OO:∀ c,c<256->tx (gm c 8)=gm c 16:=by decide +kernel
def QA (b:Ma q) (d:q<16) (a:c<256):tx (gm c q)=gm c (q*2):=by
 rcases b with rfl|rfl|rfl|rfl|rfl
 . exact OL c a
 . exact OM c a
 . exact ON c a
 . exact OO c a
 . omega
def JF (b:Ma q) (a:q<16):Ma (q*2):=by unfold Ma at *;omega
def Dj {k:Nat} (f:Ma q) (d:q<16) (e:k<q) (j:Nat):tv (fM c (q+(k+1))) j=if j=q+k then Z8 .u8 ((fM c (q+k) k^^^gm c q:Nat):Int) else tv (fM c (q+k)) j:=by
 unfold tv fM;by_cases a:j=q+k
 . rw [if_pos a,if_pos (by omega),if_pos (by omega),<- ef,Mw f d e,a]
 . rw [if_neg a];by_cases b:j<q+k
   . rw [if_pos b,if_pos (by omega)]
   . rw [if_neg b,if_neg (by omega)]
def pS {f:Nat->Nat} (a:cs.size=n) (h:∀ j,j<n->cs[j]?=ZZ (tv f j)):cs.all (λv=>v.oneCell')=ZY:=by
 rw [Array.all_eq_true];intro i hi;have:=h i (by omega);rw [X3 hi] at this;simp at this;rw [this];rfl
def Gi {x:Int} (a:Nat) (b:x=(a:Int)) (h:a<256) (w:ZW):ZT ZN 135 #[Z8 .u8 x] w λe w'=>e=Z4 (Z8 .u8 (tx a:Int))/\w'=w:=by
 subst b;exact nu a h w
theorem JG (c n j:Nat) (a:c<256):fM c n j<256:=by
 unfold fM;split
 . exact aV _ a
 . decide
def Tryz.Uk:(ZN.info? 221).map (λi=>i.size)=ZZ 16:=by kernel_rfl
theorem mX (c:Nat) (m:c<256) (w:ZW) :
 ZT ZN 158 #[Z8 .u8 c] w λe w'=>∃ cs:Array ZV,e=Z4 (.agg cs)/\cs.size=16/\(∀ j,j<16->cs[j]?=ZZ (tv (fM c 16) j))/\ZU w.heap.size w w':=by
 go_enter func158,ntmps158;go_wp2;go_loopw [4,0] (λi d wr=>RK w w.heap.size c i d wr) (λi _ _=>16-(intOf i).toNat)
 case atStart=>
  refine ⟨1,.inl rfl,rfl,by rw [cD c m],?_,?_,?_⟩
  . have h:=JA (w.alloc (Z5 (XQ 16 (Z8 .u8 0)) 221));rw [nblk_alloc] at h;refine h.congr λj P=>?_;unfold tv fM;by_cases e:j<1
    . rw [if_pos e,show j=0 by omega,bm];rfl
    . rw [if_neg e];rfl
  . exact (JA w).alloc _
  . exact (bA _ _).alloc (by rw [nblk_alloc];omega) _
 case round=>
  obtain ⟨q,n,rfl,rfl,b,f,g⟩:=hrel;have z:q<=16:=by unfold Ma at n;omega
  have E:gm c q<256:=aV _ m;by_cases u:q<16
  . have V:q<=8:=(by unfold Ma at n;omega);have l:=hide n;have H:=hide (show N1 w w.heap.size c q (Z8 Z9 (0:Nat)) wr from ⟨0,XO _,rfl,b,f,g⟩);clear b f g n;have W:(q:Int)<16:=(by omega);rename ZW=>wo;go_wp2;go_loopw [11] (λi wr=>N1 w w.heap.size c q i wr) (λi _=>q-(intOf i).toNat)
    case atStart=>exact H.out
    case round=>
     obtain ⟨k,U,rfl,b,f,g⟩:=hrel;by_cases Q:k<q
     . have c1:=b.cell (i:=k) (by omega);have K:=b.cell (i:=q+k) (by omega);have S:=b.frozen (q+k);have R:=JG c (q+k) k m;have hy:=nt _ _ R E;have A:=(b.set (q+k) (Z8 .u8 ((fM c (q+k) k^^^gm c q:Nat):Int))).congr (λj P=>(Dj l.out u Q j).symm);have B:=f.setOther (a:=⟨w.heap.size+1,q+k,Z0⟩) (by simp) (Z8 .u8 ((fM c (q+k) k^^^gm c q:Nat):Int));have C:=g.setCell (p:=⟨w.heap.size+1,q+k,Z0⟩) (by simp) (Z8 .u8 ((fM c (q+k) k^^^gm c q:Nat):Int));have o:=hide3 A B C;clear A B C b f g;unfold tv at c1 K;have M:(k:Int)<q:=(by omega);have T:(k:Int)<16:=(by omega);have X:(q:Int)+(k:Int)<16:=(by omega);have Z:IntKind.i64.wrap ((q:Int)+(k:Int))=((q+k:Nat):Int):=(by rw [IntKind.wrap_i64];omega);have Y:wrap64 ((q:Int)+(k:Int))=((q+k:Nat):Int):=(by unfold wrap64;omega);go_wp2;go_roundw
       case rel=>exact ⟨k+1,by omega,by go_num,o.out.1,o.out.2.1,o.out.2.2⟩
       case measure=>simp [intOf];omega
     . have N:k=q:=(by omega);have s:=hide3 b f g;clear b f g;have M:¬ ((k:Int)<q):=(by omega);go_wp2_with fail;refine (Gi (gm c q) rfl E _).mono ?_;rintro e w' ⟨rfl,rfl⟩;go_wp2;go_roundw
       case rel=>exact ⟨q*2,JF l.out u,by go_num,by rw [QA l.out u m],by have:=s.out.1;rwa [N,show q+q=q*2 by omega] at this,s.out.2.1,s.out.2.2⟩
       case measure=>have O:=l.out;unfold Ma at O;simp only [intOf];omega
  . have z:q=16:=(by omega);subst z;obtain ⟨cs,D,x,t⟩:=b;obtain ⟨G,F,hz,_⟩:=f;have L:=pS x t;have J:=hide t;have hi:(ZN.info? 221).map (λi=>i.size)=ZZ cs.size:=(by rw [Tryz.Uk,x]);have r:=hide hi;have I:=hide D;have y:=hide F;clear t hi D F;go_wp2_with (first
     | refine wpList_load_row rfl 221 (Z2 3) rfl (w.heap.size+1) rfl 221 cs (0,0) _ I.out underlying221 rfl r.out ?_
     | refine wpList_store_row rfl 221 (Z2 2) (Z2 26) rfl w.heap.size cs rfl rfl 221 G y.out r.out (by omega) L ?_)
    exact bodyPost_ret (v:=.agg cs) (results_cell_row results158 _ _ w.heap.size 221 cs (0,0) _ rfl (setRow_heap _ _ G cs _ _ y.out) underlying221 rfl r.out) rfl ⟨cs,rfl,x,J.out,below_setRow g lR cs⟩
def Tryz.Um:(ZN.info? 223).map (λi=>i.size)=ZZ 32:=by kernel_rfl
theorem Gj (c j:Nat) (a:c<256) (b:j<32):(if j<16 then fM c 16 j else fM (gm c 16) 16 (j-16))=rL c j:=by
 unfold fM rL;by_cases h:j<16
 . rw [if_pos h,if_pos h,if_pos h]
 . rw [if_neg h,if_neg h,if_pos (by omega),aZ a (by decide) (by omega)];congr 1;have:∀ x,x<16->gm 16 x=x*16:=by decide +kernel
   exact this _ (by omega)
def rh (c:Nat):Array ZV:=((XP 32).map (λj=>Value.int .u8 ((if j<16 then fM c 16 j else fM (gm c 16) 16 (j-16):Nat):Int))).toArray
def kC (c:Nat):(rh c).size=32:=by unfold rh;rw [YQ,X0,List.length_range]
def wC (c j:Nat) (b:c<256) (a:j<32):(rh c)[j]?=ZZ (tv (rL c) j):=by
 unfold rh tv;simp only [YR,XY,YN a,Yb,Gj c j b a]
def Dk (c:Nat):(ZN.info? 223).map (λi=>i.size)=ZZ (rh c).size:=by rw [kC,Tryz.Um]
def AD {f:Nat->Nat} (b:cs.size=16) (h:∀ j,j<16->cs[j]?=ZZ (tv f j)) :
 cs=#[tv f 0,tv f 1,tv f 2,tv f 3,tv f 4,tv f 5,tv f 6,tv f 7,tv f 8,tv f 9,tv f 10,tv f 11,tv f 12,tv f 13,tv f 14,tv f 15]:=by
 have e:cs=((XP 16).map (tv f)).toArray:=by
  refine Yo (by simp [b]) λi a c=>?_;have:=h i (by omega);rw [X3 a] at this;simp at this ⊢;exact this
 exact e
theorem lH (c:Nat) (b:c<256) (w:ZW) :
 ZT ZN 133 #[Z8 .u8 c] w λe w'=>∃ cs:Array ZV,e=Z4 (.agg cs)/\cs.size=32/\(∀ j,j<32->cs[j]?=ZZ (tv (rL c) j))/\ZU w.heap.size w w':=by
 have B:=OK w;have D:gm c 16<256:=aV _ b;go_enter func133,ntmps133;go_wp2_with fail;refine (mX c b _).mono ?_;rintro e w1 ⟨z,rfl,r,p,a⟩;obtain rfl:=AD r p;clear r p;simp only [tv];go_wp2_with fail;refine (OJ c 16 rfl rfl b (by decide) _).mono ?_;rintro e w' ⟨rfl,rfl⟩;go_wp2_with fail;refine (mX (gm c 16) D _).mono ?_;rintro e w2 ⟨A,rfl,s,q,g⟩;obtain rfl:=AD s q;clear s q;simp only [tv];obtain ⟨d,u,C,_⟩:=B;have t:w2.heap[w.heap.size]?=ZZ (Z5 d 223 (0,0)):=(g.block _ (by have:=a.size;rw [nblk_alloc] at this;omega)).trans ((a.block _ (by rw [nblk_alloc];omega)).trans u);have n:=hide t;have x:Hid (ZU w.heap.size w w2):=hide (((bA w _).trans (a.mono (by rw [nblk_alloc];omega))).trans (g.mono (by have:=a.size;rw [nblk_alloc] at this;omega)));clear a g u t;have f:=hide (Dk c);have m:Hid (d.size=(rh c).size):=hide (by rw [C,kC]);have k:=hide (pS (kC c) (λj i=>wC c j b i));have l:Hid (∀ j,j<32->(rh c)[j]?=ZZ (tv (rL c) j)):=hide (λj i=>wC c j b i);have o:=hide (kC c);obtain ⟨cs,h⟩:=nM (rh c);rw [h] at f m k l o;have y:=hide h;clear h;go_wp2_with (refine wpList_store_row rfl 223 (Z2 2) (Z2 8) rfl w.heap.size cs rfl (by rw [<- y.out];rfl) 223 d n.out f.out m.out k.out ?_);refine bodyPost_ret (v:=.agg cs) (results_cell_row results133 _ _ w.heap.size 223 cs (0,0) _ rfl (setRow_heap _ _ d cs _ _ n.out) underlying223 rfl f.out) rfl ?_;exact ⟨cs,rfl,o.out,l.out,below_setRow x.out lR _⟩
def mv (w:ZW) (t c:Nat):Prop:=∀ j,j<32->w.cell? ⟨t,j,Z0⟩=ZZ (tv (rL c) j)
def Mx:∀ b,b<256->b=(b%16)^^^(b/16*16):=by decide +kernel
def JH (c b:Nat) (a:b<256):rL c (b%16)^^^rL c (16+b/16)=gm c b:=by
 unfold rL;rw [if_pos (by omega),if_neg (by omega),X4,<- ef,<- Mx b a]
theorem E5 (c j:Nat) (a:c<256):rL c j<256:=by
 unfold rL;split<;>exact aV _ a
def QB (b:Nat) (a:b<256):bits .and .u8 (b:Int) 15=((b%16:Nat):Int):=by
 rw [u8_and15 _ (by omega) (by omega)];rfl
theorem wD (t c b:Nat) (g:c<256) (f:b<256) (w:ZW) (a:mv w t c) :
 ZT ZN 134 #[Z7 (ZZ ⟨t,0,Z0⟩),Z8 .u8 b] w λe w'=>e=Z4 (Z8 .u8 ((gm c b:Nat):Int))/\∃ m,w'=w.drewN m:=by
 have c1:=a (b%16) (by omega);have h:=a (16+b/16) (by omega);have j:=E5 c (b%16) g;have k:=E5 c (16+b/16) g;have d:=JH c b f;have l:=QB b f;have i:=nt _ _ j k;unfold tv at c1 h;rw [d] at i;have n:(b:Int)<256:=by omega
 clear a d;go_enter func134,ntmps134;go_wp2;go_quiet (fail);go_wp2;go_ret;exact ⟨rfl,_,rfl⟩
def gQ (g F:Nat->Nat) (c off k j:Nat):Nat:=if off<=j/\j<off+k then g j^^^gm c (F (j-off)) else g j
def S6 (w:ZW) (b t N off k c tb fb foff:Nat) (g F:Nat->Nat) (i:ZV) (wr:ZW):Prop:=
 ∃ j:Nat,j<=k/\i=Z8 Z9 j/\wr.rowIs b t N (tv (gQ g F c off j))/\mv wr tb c/\(∀ i,i<k->wr.cell? ⟨fb,foff+i,Z0⟩=ZZ (Z8 .u8 ((F i:Nat):Int)))/\w.grownBy wr (ZZ b)
def Dm (g F:Nat->Nat) (c off j x:Nat):tv (gQ g F c off (j+1)) x=if x=off+j then Z8 .u8 ((g (off+j)^^^gm c (F j):Nat):Int) else tv (gQ g F c off j) x:=by
 unfold tv gQ;by_cases h:x=off+j
 . subst h;rw [if_pos rfl,if_pos (by omega),X4]
 . rw [if_neg h];by_cases a:off<=x/\x<off+j
   . rw [if_pos a,if_pos (by omega)]
   . rw [if_neg a,if_neg (by omega)]
theorem Do (g F:Nat->Nat) (c off:Nat):gQ g F c off 0=g:=by
 funext j;unfold gQ;rw [if_neg (by omega)]
theorem Dp (g F:Nat->Nat) (off k:Nat):gQ g F 0 off k=g:=by
 funext j;unfold gQ;rw [bC,Nat.xor_zero];split<;>rfl
def ri (h:mv w t c) {a:Addr} (b:t≠a.block) (v:ZV):mv (w.setCell a v) t c:=λj d=>by
 rw [<- h j d];exact World.cell?_of_block (blk_setCell_other _ _ _ _ b)
theorem nB (w:ZW) {ops:Array ZR} {rest:List ZR} {o:ZR} {a:ZQ} {Q:ZS->ZQ->ZW->Prop} (h:o.guard=Z0) (x y:ZO) (ho:o.op=.store 223 x y)
 (g c:Nat) (cs old:Array ZV) (m:a.eval x=Z7 (ZZ ⟨g,0,Z0⟩)) (n:a.eval y=.agg cs) (f:w.heap[g]?=ZZ (Z5 old 223 (0,0))) (hold:old.size=32) (d:cs.size=32) (b:∀ j,j<32->cs[j]?=ZZ (tv (rL c) j))
 (hK:∀ w2,mv w2 g c->w.grownBy w2 (ZZ g)->wpList ZN ops Q rest (a.put o.dst Z1) w2):wpList ZN ops Q (o::rest) a w:=by
 refine wpList_store_row h 223 x y ho g cs m n 223 old f (by rw [Tryz.Um,d]) (by omega) (pS d b) (hK _ ?_ ?_)
 . intro j l;rw [cell_of_row _ g j cs 223 (0,0) (setRow_heap w g old cs _ _ f)];exact b j l
 . refine ⟨rfl,rfl,rfl,by simp,λk p i=>?_⟩;have:g≠k:=λe=>i (by rw [e]);simp [World.setRow,XZ,this]
theorem jy (b t N off n cap l d q c:Nat) (g F:Nat->Nat) (w:ZW) (B:c<256) (z:w.rowIs b t N (tv g)) (L:∀ j,g j<256) (H:∀ j,F j<256) (hn:off+n<=N) (k5:n<=140737488355328)
 (R:∀ i,i<n->w.cell? ⟨l,d+i,Z0⟩=ZZ (Z8 .u8 ((F i:Nat):Int))) (k6:l≠b\/d+n<=off\/off+n<=d) :
 ZT ZN 91 #[Z6 (ZZ ⟨b,off,Z0⟩) n cap,Z6 (ZZ ⟨l,d,Z0⟩) n q,Z8 .u8 c] w λe w'=>e=Z4 (.tuple #[])/\w'.rowIs b t N (tv (gQ g F c off n))/\w.grownBy w' (ZZ b):=by
 by_cases E:c=0
 . subst E;go_enter func91,ntmps91;go_wp2;exact bodyPost_ret (v:=.tuple #[]) (by simp [results,results91]) rfl ⟨rfl,by rw [Dp];exact z,World.grownBy.refl _ _⟩
 . have kc:((c:Int)==0)=ZX:=(by rw [beq_eq_false_iff_ne];omega);clear E;go_enter func91,ntmps91;go_wp2_with fail;refine (lH c B _).mono ?_;rintro e w1 ⟨cs,rfl,ka,G,o⟩;have k9:=o.size;go_wp2_with (refine nB _ rfl (Z2 6) (Z2 11) rfl w1.heap.size c cs _ rfl rfl (heap_alloc_last w1 _) rfl ka G ?_;intro w2 K p);have M:b<w.heap.size:=z.lt;have h:w.grownBy w2 Z0:=by
    refine ⟨p.os.trans o.os,p.tape.trans o.tape,p.output.trans o.output,?_,λk C _=>?_⟩
    . have:=p.size;rw [nblk_alloc] at this;omega
    . rw [p.block k (by rw [nblk_alloc];omega) (by intro e;simp at e;omega),blk_alloc_lt _ _ _ (by omega),o.block k C]
   have T:w2.rowIs b t N (tv g):=z.of_block (h.block b M (by simp));have P:∀ i,i<n->w2.cell? ⟨l,d+i,Z0⟩=ZZ (Z8 .u8 ((F i:Nat):Int)):=λi hi=>by
    have:=R i hi;exact h.cell this (by simp)
   have W:w.grownBy w2 (ZZ b):=⟨h.os,h.tape,h.output,h.size,λk C _=>h.block k C (by simp)⟩;have kb:w1.heap.size≠b:=(by omega);clear p h z R G o k9 M;go_loopw [17] (λi wr=>S6 w b t N off n c w1.heap.size l d g F i wr) (λi _=>n-(intOf i).toNat)
   case atStart=>exact ⟨0,XO _,rfl,by rw [Do];exact T,K,P,W⟩
   case round=>
    clear K P W T;obtain ⟨j,O,rfl,r,s,u,A⟩:=hrel;by_cases k8:j<n
    . have c1:=r.cell (i:=off+j) (by omega);have f1:=r.frozen (off+j);have Y:=u j k8;have D:tv (gQ g F c off j) (off+j)=Z8 .u8 ((g (off+j):Nat):Int):=(by unfold tv gQ;rw [if_neg (by omega)]);rw [D] at c1;have U:=nt (g (off+j)) (gm c (F j)) (L _) (aV _ B);have V:=(r.set (off+j) (Z8 .u8 ((g (off+j)^^^gm c (F j):Nat):Int))).congr (λx _=>(Dm g F c off j x).symm);have J:=ri s (a:=⟨b,off+j,Z0⟩) kb (Z8 .u8 ((g (off+j)^^^gm c (F j):Nat):Int));have S:=fp A (off+j) (Z8 .u8 ((g (off+j)^^^gm c (F j):Nat):Int));have Q:∀ i,i<n->(wr.setCell ⟨b,off+j,Z0⟩ (Z8 .u8 ((g (off+j)^^^gm c (F j):Nat):Int))).cell? ⟨l,d+i,Z0⟩=ZZ (Z8 .u8 ((F i:Nat):Int)):=λi hi=>by
       rw [<- u i hi];by_cases Z:l=b
       . exact World.cell?_setCell_other _ _ _ _ (by intro e;have h1:off+j=d+i:=congrArg Addr.off e;omega)
       . exact World.cell?_of_block (blk_setCell_other _ _ _ _ Z)
      have I:=H j;have f:=hide4 V J Q S;have X:=hide s;generalize F j=y at Y U I f;generalize g (off+j)=x at c1 U f;clear D V J S Q r s u A L H;go_wp2;go_region_with ((go_at_call 134;refine (wD w1.heap.size c y B I _ (by exact λj O=>X.out j O)).mono ?_;rintro e w' ⟨rfl,m,rfl⟩));all_goals
       go_wp2;go_roundw
       case rel=>exact ⟨j+1,by omega,by go_num,f.out.1,f.out.2.1,f.out.2.2.1,⟨f.out.2.2.2.os,f.out.2.2.2.tape,f.out.2.2.2.output,f.out.2.2.2.size,f.out.2.2.2.block⟩⟩
       case measure=>simp [intOf];omega
    . have k7:j=n:=(by omega);subst k7;clear s u;go_wp2;go_end0
      exact ⟨rfl,r,A⟩
def uX:Array ZV->Nat->List ZV->Array ZV
 | cur,_,[]=>cur
 | cur,o,v::r=>uX (cur.setIfInBounds o v) (o+1) r
def vS:∀ (a:List ZV) (o:Nat) (cur:Array ZV),(uX cur o a).size=cur.size
 | [],_,_=>rfl
 | v::r,o,cur=>by unfold uX;rw [vS r];simp
def vT:∀ (a:List ZV) (o:Nat) (cur:Array ZV),o+a.length<=cur.size->(uX cur o a).toList.take (o+a.length)=cur.toList.take o++a
 | [],o,cur,_=>by simp [uX]
 | v::r,o,cur,h=>by
  simp only [XT] at h ⊢;unfold uX;have:=vT r (o+1) (cur.setIfInBounds o v) (by simp;omega);rw [show o+(r.length+1)=o+1+r.length by omega,this,YK];have e:(cur.toList.set o v).take (o+1)=cur.toList.take o++[v]:=by
   rw [Yn,List.take_set_of_le (XH o),List.getElem?_set_self (by simp;omega)];rfl
  rw [e,Yg];rfl
def js:∀ (a:List ZV) (o:Nat) (w:ZW) {b:Nat} {cur:Array ZV} {t:ZP} {fr:Nat×Nat},w.heap[b]?=ZZ (Z5 cur t fr)->(w.setCells b o a).heap[b]?=ZZ (Z5 (uX cur o a) t fr)
 | [],_,_,_,_,_,_,h=>h
 | v::r,o,w,b,cur,t,fr,h=>by
  show ((w.setCell ⟨b,o,Z0⟩ v).setCells b (o+1) r).heap[b]?=_;exact js r (o+1) _ (by simp [World.setCell,XZ,h])
def cG (w:ZW) (b o:Nat) (a:List ZV):w.grownBy (w.setCells b o a) (ZZ b):=by
 obtain ⟨d,f,g⟩:=jr b a o w;exact ⟨d,f,g,by rw [jq];exact XH _,λk _ c=>bD b a o w k (λe=>c (by rw [e]))⟩
theorem lg (w:ZW) (base:Nat) (t tx p e:ZP) (i:TypeInfo) (z:ZV) (size bytes:Nat) (o:P.underlying t=ZZ (.slice e)) (hi:P.info? e=ZZ i) (D:i.zero=ZZ z)
 (F:i.size=size) (J:i.bytes=bytes) (O:z.cells.size=size) (v:ZV) (n:Nat) (xs:List ZV) (f:w.ownsRow base e size v n xs)
 (x:ZV) (m:Nat) (news:List ZV) (a:Src P size tx x m news w) (B:n+m<=maxLen) (A:(n+m)*bytes<=140737488355328) (E:base<=w.heap.size) :
 ∃ q w',(Builtin.append_ #[t,tx] p #[v,x]).run P w=.ok q w'/\w'.ownsRow base e size q (n+m) (xs++news)/\w.grownBy w' v.ownBlock/\(q.ownBlock=v.ownBlock\/q.ownBlock=ZZ w.heap.size):=by
 subst F;subst J;have S:n+m<=9223372036854775807:=by simp only [maxLen] at B;omega
 have h:(xs++news).length=(n+m)*i.size:=by rw [Ye,f.1,a.newsLen,Yc]
 have grown:∀ (old:Nat),∀ (row:Option Nat),
  (w.drew.alloc (Z5 ((xs++news).toArray++Builtin.zeroCells z.cells (grownCap w (n+m) old e-(n+m))) e)).ownsRow base e i.size
   (Z6 (ZZ ⟨w.heap.size,0,Z0⟩) (n+m) (grownCap w (n+m) old e)) (n+m) (xs++news) /\
  w.grownBy (w.drew.alloc (Z5 ((xs++news).toArray++Builtin.zeroCells z.cells (grownCap w (n+m) old e-(n+m))) e)) row:=by
  intro old row;have N:=grownCap_ge w (n+m) old e;have s:grownCap w (n+m) old e<=maxLen:=grownCap_le_maxLen w (n+m) old e B;refine ⟨⟨h,.inr ⟨w.heap.size,_,_,rfl,E,heap_alloc_new w.drew _,N,s,?_,?_⟩⟩,⟨rfl,rfl,rfl,by simp,λk l _=>(blk_alloc_lt w.drew _ k l:_)⟩⟩
  . rw [Array.size_append,YQ,size_zeroCells,O,h,<- Yc];congr 1;omega
  . rw [Array.toList_append,<- h];exact List.take_left
 rcases f.2 with ⟨rfl,rfl⟩|⟨g,cap,cur,rfl,I,y,T,s,C,G⟩
 . have Q:xs=[]:=XW (by simpa using f.1);subst Q;by_cases L:m=0
   . subst L;have M:news=[]:=XW (by simpa using a.newsLen);subst M;refine ⟨Z6 Z0 0 0,w,?_,World.ownsRow_nil w base e i.size,⟨rfl,rfl,rfl,XH _,λ_ _ _=>rfl⟩,.inl rfl⟩;rcases a.kind with ⟨R,l⟩|l<;>simp [Builtin.append_,run_underlying o,run_underlying l,sizeOf,typeInfo,hi,a.len,a.cells]
   . have c:=run_append_grow_src (P:=P) (w:=w) t tx p e i z o hi D Z0 0 0 [] (by simp [Builtin.firstCells]) x m news a (by omega) (by omega) (growslice_fits (by omega) (by simpa using A));have d:=grown 0 (Value.ownBlock (Z6 Z0 0 0));simp only [X1,Yw] at d c ⊢;exact ⟨_,_,c,d.1,d.2,.inr rfl⟩
 . by_cases r:n+m<=cap
   . have H:n*i.size+news.length<=cur.size:=(by rw [a.newsLen,C,<- Yc];exact Nat.mul_le_mul_right _ r);have c:=run_append_room_src (P:=P) (w:=w) t tx p e i o hi g 0 n cap x m news a r (λj K=>by simp [World.cell?,y];omega) (λj K=>by simp [World.frozen?,y]);rw [X1] at c;refine ⟨_,_,c,⟨h,.inr ⟨g,cap,_,rfl,I,js news _ w y,r,s,by rw [vS];exact C,?_⟩⟩,cG w g _ news,.inl rfl⟩;rw [Yc,<- a.newsLen,vT news _ cur H,G]
   . have b:∀ j u,xs[j]?=ZZ u->w.cell? ((⟨g,0,Z0⟩:Addr).add j)=ZZ u:=f.cells (g:=g) rfl;have c:=run_append_grow_src (P:=P) (w:=w) t tx p e i z o hi D (ZZ ⟨g,0,Z0⟩) n cap xs (run_firstCells_some w.drew i.size n ⟨g,0,Z0⟩ n cap xs f.1 (by simpa using b)) x m news a (by omega) (by omega) (growslice_fits (by omega) A);have d:=grown cap (Value.ownBlock (Z6 (ZZ ⟨g,0,Z0⟩) n cap));exact ⟨_,_,c,d.1,d.2,.inr rfl⟩
theorem af (w:ZW) {ops:Array ZR} {rest:List ZR} {o:ZR} {a:ZQ} {Q:ZS->ZQ->ZW->Prop} (g:o.guard=Z0) (s x:ZO) (t tx:ZP)
 (ho:o.op=.call { callee:=.builtin .append,args:=#[s,x],argTypes:=#[t,tx] }) (base:Nat) (e:ZP) (i:TypeInfo) (z:ZV) (size bytes:Nat) (ht:P.underlying t=ZZ (.slice e)) (hi:P.info? e=ZZ i) (hz:i.zero=ZZ z)
 (h5:i.size=size) (h8:i.bytes=bytes) (ha:z.cells.size=size) (v:ZV) (n:Nat) (xs:List ZV) (hv:a.eval s=v) (h6:w.ownsRow base e size v n xs)
 (u:ZV) (hu:a.eval x=u) (m:Nat) (news:List ZV) (hs:Src P size tx u m news w) (h7:n+m<=maxLen) (h0:(n+m)*bytes<=140737488355328) (h1:base<=w.heap.size)
 (h:∀ b w',w'.ownsRow base e size b (n+m) (xs++news)->w.grownBy w' v.ownBlock->(b.ownBlock=v.ownBlock\/b.ownBlock=ZZ w.heap.size)->wpList P ops Q rest (a.put o.dst b) w'):wpList P ops Q (o::rest) a w:=by
 obtain ⟨b,w',j,c,d,f⟩:=lg (P:=P) w base t tx o.type e i z size bytes ht hi hz h5 h8 ha v n xs h6 u m news hs h7 h0 h1;refine wpList_plain g λK hK=>?_;unfold Oper.wp execOp;simp only [ho,resolve,invoke,builtin,Sem.run_bind,Sem.run_pure,Result.andThen_ok,YO,YP,List.map_nil,hv,hu,j];exact hK _ _ (h b w' c d f)
structure bw (B:Nat) (w w':ZW):Prop where
 os:w'.os=w.os
 tape:w'.tape=w.tape
 output:w'.output=w.output
 size:w.heap.size<=w'.heap.size
 block:∀ k,B<=k->k<w.heap.size->w'.heap[k]?=w.heap[k]?
def bw.refl (B:Nat) (w:ZW):bw B w w:=⟨rfl,rfl,rfl,XH _,λ_ _ _=>rfl⟩
def bw.trans {b c:ZW} (h:bw B a b) (k:bw B b c):bw B a c:=
 ⟨k.os.trans h.os,k.tape.trans h.tape,k.output.trans h.output,XX h.size k.size,λi d e=>(k.block i d (by have:=h.size;omega)).trans (h.block i d e)⟩
def bw.mono {B':Nat} (h:bw B w w') (c:B<=B'):bw B' w w':=⟨h.os,h.tape,h.output,h.size,λk b a=>h.block k (by omega) a⟩
def bw.TF (h:ZU w.heap.size w w'):bw B w w':=⟨h.os,h.tape,h.output,h.size,λk _ a=>h.block k a⟩
def bw.setCell (h:bw B a w) {p:Addr} (d:p.block<B\/a.heap.size<=p.block) (u:ZV):bw B a (w.setCell p u):=
 ⟨h.os,h.tape,h.output,by have:=h.size;simpa [World.setCell] using this,λk b c=>(Below.heap_setCell _ _ _ _ (by omega)).trans (h.block k b c)⟩
def bw.putObj (h:bw B a w) {l:Nat} (d:l<B\/a.heap.size<=l) (o:Obj):bw B a (w.putObj l o):=
 ⟨h.os,h.tape,h.output,by have:=h.size;have:=(grownBy_putObj' w l o).size;omega,λk b c=>(World.putObj_heap_other (by omega)).trans (h.block k b c)⟩
def Below.TO (h:ZU B a w) {l:Nat} (b:B<=l) (c:l<w.heap.size) (o:Obj):ZU B a (w.putObj l o):=
 h.grown (grownBy_putObj' w l o) (by omega) (λk e=>by cases e;exact b)
def bw.keeps {C:Nat} (h:bw B w w') (c:B<=C):KeepsFrom C w w':=
 ⟨h.size,λk o b a _=>(h.block k (by omega) (XG.1 a).1).trans a⟩
def de (h:ZT P f args w R) (k:∀ e w',R e w'->R' e w') :
 Fence.wide.fn f/\(Fence.wide.depth.isSome=ZY->1<=n)/\CallsIn Fence.wide m P f args w R':=
 ⟨trivial,λh=>(by cases h),callsIn_wide.2 (h.mono k)⟩
def dH {l:Nat} (h:ZT P f args w R) (k:∀ e w',R e w'->R' e w') :
 (Fence.wide.inRound l).fn f/\((Fence.wide.inRound l).depth.isSome=ZY->1<=n)/\CallsIn (Fence.wide.inRound l) m P f args w R':=
 ⟨trivial,λh=>(by cases h),CallsIn.inRound l (callsIn_wide.2 (h.mono k))⟩
def Ol (Q:ZS->ZQ->ZW->Prop):ZS->ZQ->ZW->Prop
 | .goto _,_,_=>False
 | .exit _,_,_=>False
 | e,a,w=>Q e a w
def gV {b:Frame} {a:ZQ} {cs:List Frame} {c:Code}:step P (lone (b.atR a (.code (.scope c)::k)) cs w)=.next (lone (b.atR a (.code c::.inScope c::k)) cs w):=
 step_lone_go (by simp [stepG,stepG.exec,Frame.atR])
def sy {b:Frame} {a:ZQ} {cs:List Frame} {c:Code}:step P (lone (b.atR a (.inScope c::k)) cs w)=.next (lone (b.atR a k) cs w):=
 step_lone_go (by simp [stepG,stepG.exec,Frame.atR])
def IV {F:Fence} {c:Code} {Q:ZS->ZQ->ZW->Prop} {a:ZQ} (h:c.wpIn F n P (Ol Q) a w):(Code.scope c).wpIn F n P Q a w:=by
 intro b k cs p m o;have g:(lone (b.atR a (.code (.scope c)::k)) cs w).fenced P F:=fenced_calm m o rfl;obtain ⟨e,f,j,d,i⟩:=h b (.inScope c::k) cs p m o;cases e with
 | normal=>exact ⟨.normal,f,j,d,.head g gV (StepsIn.trans i (.one (fenced_calm m o rfl) sy))⟩
 | exit id=>exact d.elim
 | goto l=>exact d.elim
 | ret=>exact ⟨_,f,j,d,.of_steps (.one g gV) i⟩
 | panic q=>exact ⟨_,f,j,d,.of_steps (.one g gV) i⟩
 | outgrown=>exact ⟨_,f,j,d,.of_steps (.one g gV) i⟩
def Om {σ:Type} (B:Nat) (I:σ->ZW->Prop) (s:σ) (W:ZW):ZS->ZQ->ZW->Prop
 | .normal,_,W'=>I s W'/\bw B W W'
 | _,_,_=>False
def FJ (k:Nat):Fence.wide.room k:=λd h=>by cases h
def vU {m':Nat} {l:Nat} {tmps:Array ZV} {assign body:Code} (h:RoundIn Fence.wide m P l f tmps assign body w R):RoundIn Fence.wide m' P l f tmps assign body w R:=⟨h.1,λc cs _=>h.2 c cs (FJ _)⟩
theorem IW (m:Nat) {α σ:Type} {g:ZO} {ps:Array Tmp} {assign body:Code} {Q:ZS->ZQ->ZW->Prop} {a:ZQ} {w:ZW}
 {gf:Nat} {lb:Array ZV} (hg:a.eval g=.func (.func gf) #[] lb) (eg:∀ args w,(callFunc gf args).run P w=.ok (.enter gf args) w)
 {encs:α->Array ZV} (k9:∀ x,(encs x).size=ps.size) (step:σ->α->σ) (H:α->Prop)
 (I:σ->ZW->Prop) (o:∀ s A B,I s A->ZU w.heap.size A B->I s B) (S:σ->Prop) (s0:σ)
 (h6:∀ (l:Nat) (J:σ->ZW->Prop) (W:ZW),ZU w.heap.size w W->W.heap.size=w.heap.size+2 ->
  (∀ s A B,J s A->ZU (w.heap.size+2) A B->J s B)->(∀ s A,J s A->I s A/\w.heap.size+2<=A.heap.size) ->
  (∀ m s x b,J s b->H x->YieldAt Fence.wide m P l (encs x) b λe f=>e=Z4 (Z3 ZY)/\J (step s x) f/\bw (w.heap.size+2) b f)->J s0 W ->
  CallsIn Fence.wide (n-1) P gf (#[.func (.yield l) #[] #[]]++lb) W λe f=>(∃ v,e=Z4 v)/\∃ s,S s/\J s f)
 (h0:I s0 w) (F:Nat->α->ZQ->ZW->Prop) (hs:∀ B x c A R,F B x c A->bw B A R->F B x c R)
 (h1:∀ (l:Nat) (s:σ) (x:α) (W:ZW) (K:ZQ->ZW->Prop),I s W->H x->(∀ c f,ZU W.heap.size W f->F W.heap.size x c f->K c f) ->
  assign.wpIn (Fence.wide.inRound l) m P (Exit.then K (λ_ _ _=>False)) { tmps:=(ps.zip (encs x)).foldl (λt (p,v)=>t.setIfInBounds p v) a.tmps,defers:=[] } W)
 (h5:∀ (l B:Nat) (s:σ) (x:α) (c:ZQ) (W:ZW),w.heap.size<=l->l<B->B<=W.heap.size->(∃ r,W.heap[l]?=ZZ (.loop r))->I s W->H x->F B x c W->body.wpIn (Fence.wide.inRound l) m P (Om w.heap.size I (step s x) W) c W)
 (h7:∀ (D:Nat) (s:σ) (W:ZW),w.heap.size<=D->S s->I s W->W.heap[D]?=ZZ (.deferred (ZZ []))->Q .normal { a with defers:={ target:=.collected D,args:=#[] }::a.defers } W) :
 (Code.rangeFunc g ps assign body).wpIn Fence.wide n P Q a w:=by
 refine wpIn_rangeFunc λfn k7=>?_;obtain ⟨i,j⟩:∃ i:LoopState->Loop,i=λst=>{ state:=st,pending:=Z0,fn,tmps:=a.tmps,params:=ps,assign,body,defers:=w.heap.size }:=⟨_,rfl⟩;obtain ⟨b,z⟩:=nM ((w.alloc (.deferred (ZZ []))).alloc (.loop (i .ready)));have X:ZU w.heap.size w b:=by rw [<- z];exact (bA w _).alloc (by simp) _
 have ka:b.heap.size=w.heap.size+2:=by rw [<- z];simp
 have hx:b.heap[w.heap.size+1]?=ZZ (.loop (i .ready)):=by
  rw [<- z];have:=World.alloc_heap_new (w.alloc (.deferred (ZZ []))) (.loop (i .ready));rwa [World.size_alloc] at this
 have hv:b.heap[w.heap.size]?=ZZ (.deferred (ZZ [])):=by
  rw [<- z];exact (Below.heap_alloc _ _ _ (by simp)).trans (World.alloc_heap_new w _)
 refine ⟨w.heap.size+1,[{ target:=.collected w.heap.size,args:=#[] }],b,{ target:=.fn (.func gf) lb,args:=#[.func (.yield (w.heap.size+1)) #[] #[]] },b,gf,
  #[.func (.yield (w.heap.size+1)) #[] #[]]++lb,b,?_,?_,λ_ _=>trivial,?_,λh=>(by cases h),?_⟩
 . rw [<- z,j];exact run_enterLoop_outer _ _ _ _ _
 . simp only [resolve,hg];simp [go_sem]
 . simp [invoke,go_sem,eg]
 refine (h6 (w.heap.size+1) (λs W=>I s W/\W.heap[w.heap.size+1]?=ZZ (.loop (i .ready))/\W.heap[w.heap.size]?=ZZ (.deferred (ZZ []))) b X ka ?_ ?_ ?_ ⟨o _ _ _ h0 X,hx,hv⟩).mono ?_
 . rintro s A B ⟨hi,d,E⟩ L;exact ⟨o _ _ _ hi (L.mono (by omega)),(L.block _ (by omega)).trans d,(L.block _ (by omega)).trans E⟩
 . rintro s A ⟨hi,d,_⟩;exact ⟨hi,(XG.1 d).1⟩
 ·
  rintro m' s x W ⟨hi,d,E⟩ hq;have C:w.heap.size+1<W.heap.size:=(XG.1 d).1;have O:=run_yield (P:=P) (args:=encs x) d (by rw [j];exact k9 x);rw [j] at O;refine ⟨fn,_,assign,body,O,vU (roundIn_of_wpIn (n:=m) k7 (h1 _ s x W _ hi hq ?_))⟩;clear O;intro c u G hz;have hn:=(G.block _ C).trans d;have k6:=(G.block _ (by omega)).trans E;have U:w.heap.size+1<u.heap.size:=(XG.1 hn).1;refine ⟨_,run_beginRound hn (by rw [j]),?_⟩;obtain ⟨y,k⟩:=nM (u.putObj (w.heap.size+1) (.loop { i .ready with state:=.busy }));have k0:ZU w.heap.size u y:=by rw [<- k];exact Below.TO (Below.refl _ _) (by omega) U _
  have V:bw (w.heap.size+2) W y:=by
   rw [<- k];exact ((bw.TF G).trans ((bw.refl _ u).putObj (.inl (by omega)) _))
  have N:y.heap[w.heap.size+1]?=ZZ (.loop { i .ready with state:=.busy }):=by rw [<- k];exact World.putObj_heap_same U
  have Y:y.heap[w.heap.size]?=ZZ (.deferred (ZZ [])):=by rw [<- k];exact (World.putObj_heap_other (by omega)).trans k6
  rw [k];refine wpIn_mono (h5 _ W.heap.size s x c y (by omega) C V.size ⟨_,N⟩ (o _ _ _ (o _ _ _ hi (G.mono (by omega))) k0) hq (hs _ _ _ _ _ hz (by rw [<- k];exact (bw.refl _ u).putObj (.inl C) _))) ?_;rintro e a3 W3 q;cases e with
  | normal=>
   obtain ⟨k8,M⟩:=q;have Z:=(M.block _ (by omega) (XG.1 N).1).trans N;have k5:=(M.block _ lR (XG.1 Y).1).trans Y;have T:=(XG.1 Z).1;have hr:=run_endRound (P:=P) Z0 Z;refine ⟨_,_,hr,rfl,⟨o _ _ _ k8 (Below.TO (Below.refl _ _) (by omega) T _),?_,(World.putObj_heap_other (by omega)).trans k5⟩,?_⟩
   . rw [World.putObj_heap_same T,j];rfl
   . exact (V.trans (M.mono (by omega))).putObj (.inl (by omega)) _
  | ret=>exact q.elim
  | exit id=>exact q.elim
  | goto t=>exact q.elim
  | panic ch=>exact q.elim
  | outgrown=>exact q.elim
 ·
  rintro e W2 ⟨⟨v,rfl⟩,s,hS,hi,d,E⟩;have C:=(XG.1 d).1;refine ⟨Z0,_,by have:=run_endLoop (P:=P) d (by rw [j];simp);rw [j] at this;exact this,?_⟩;exact h7 _ s _ lR hS (o _ _ _ hi (Below.TO (Below.refl _ _) (by omega) C _)) ((World.putObj_heap_other (by omega)).trans E)
structure St where
 k:Nat
 a:Int
 b:Int
 c:Nat
def Gk (kk:IntKind) (s:St):List ZV:=[.int kk s.k,Z8 Z9 s.a,Z8 Z9 s.b,Z8 .u8 s.c]
def yN (s:St):Prop:=s.k<256/\-9223372036854775808<=s.a/\s.a<=9223372036854775807/\-9223372036854775808<=s.b/\s.b<=9223372036854775807/\s.c<256
def Ps (kk:IntKind) (w:ZW) (v:ZV) (P:List St):Prop:=
 ∃ ao c,v=.slice ao P.length c/\P.length<=4398046511104/\(P≠[]->∃ b off,ao=ZZ ⟨b,off,Z0⟩/\∀ i (hi:i<P.length),
  w.cell? ⟨b,off+i*4,Z0⟩=ZZ (.int kk P[i].k)/\w.cell? ⟨b,off+i*4+1,Z0⟩=ZZ (Z8 Z9 P[i].a)/\w.cell? ⟨b,off+i*4+2,Z0⟩=ZZ (Z8 Z9 P[i].b)/\w.cell? ⟨b,off+i*4+3,Z0⟩=ZZ (Z8 .u8 P[i].c))
def Ps.mono {P:List St} (h:Ps kk w v P) (a:ZU w.heap.size w w'):Ps kk w' v P:=by
 obtain ⟨ao,c,j,k,l⟩:=h;refine ⟨ao,c,j,k,λm=>?_⟩;obtain ⟨b,off,e,n⟩:=l m;refine ⟨b,off,e,λi hi=>?_⟩;obtain ⟨d,c1,f,g⟩:=n i hi;exact ⟨by rw [a.cell (block_lt_of_cell d)];exact d,by rw [a.cell (block_lt_of_cell c1)];exact c1,by rw [a.cell (block_lt_of_cell f)];exact f,by rw [a.cell (block_lt_of_cell g)];exact g⟩
def Ps.cases {P:List St} (h:Ps kk w v P):(P=[]/\∃ ao c,v=.slice ao 0 c)\/∃ b off c,v=Z6 (ZZ ⟨b,off,Z0⟩) P.length c/\P.length<=4398046511104/\∀ i (hi:i<P.length),
 w.cell? ⟨b,off+i*4,Z0⟩=ZZ (.int kk P[i].k)/\w.cell? ⟨b,off+i*4+1,Z0⟩=ZZ (Z8 Z9 P[i].a)/\w.cell? ⟨b,off+i*4+2,Z0⟩=ZZ (Z8 Z9 P[i].b)/\w.cell? ⟨b,off+i*4+3,Z0⟩=ZZ (Z8 .u8 P[i].c):=by
 obtain ⟨ao,c,d,f,g⟩:=h;by_cases e:P=[]
 . subst e;exact .inl ⟨rfl,ao,c,d⟩
 . obtain ⟨b,off,rfl,j⟩:=g e;exact .inr ⟨b,off,c,d,f,j⟩
def Ps.slice {P:List St} (h:Ps kk w v P):∃ ao c,v=.slice ao P.length c:=by
 obtain ⟨ao,c,a,_⟩:=h;exact ⟨ao,c,a⟩
def iJ (s:St) (regs shards:Int):Prop:=(s.k=0\/s.k=2)/\0<=s.a/\s.a<regs/\0<=s.b/\s.b<shards\/s.k=1/\0<=s.a/\s.a<regs/\0<=s.b/\s.b<regs/\s.a≠s.b
def yO (regs:Int) (P:List St):Prop:=0<=regs/\regs<=32/\P.length<=2000
def iK (regs:Int) (P:List St) (shards:Int):Prop:=yO regs P/\∀ i (hi:i<P.length),iJ P[i] regs shards
def SA (p:Prop) (w:ZW) (r:Ending) (w':ZW):Prop:=∃ b:Bool,r=Z4 (Z3 b)/\(b=ZY↔p)/\ZU w.heap.size w w'
def RL (p:Prop) (w:ZW) (r:Ending) (w':ZW):Prop:=∃ b:Bool,r=Z4 (Z3 b)/\(b=ZY↔p)/\w'=w
def z9 (n e:Int):Prop:=0<=n/\n<e
theorem sV (n e:Int) (w:ZW) :
 ZT ZN 200 #[Z8 Z9 n,Z8 Z9 e] w λr w'=>RL (z9 n e) w r w':=by
 by_cases a:0<=n
 . go_enter func200,ntmps200;go_wp2;go_ret;exact ⟨_,rfl,by unfold z9;simp [a],rfl⟩
 . go_enter func200,ntmps200;go_wp2;go_ret;exact ⟨_,rfl,by unfold z9;simp;omega,rfl⟩
def fh (n e:Int) (h:z9 n e) (w:ZW) :
 ZT ZN 200 #[Z8 Z9 n,Z8 Z9 e] w λr w'=>r=Z4 (Z3 ZY)/\w'=w:=by
 refine (sV n e w).mono ?_;rintro r w' ⟨b,rfl,a,rfl⟩;exact ⟨by rw [a.2 h],rfl⟩
def jS (n e:Int) (h:¬ z9 n e) (w:ZW) :
 ZT ZN 200 #[Z8 Z9 n,Z8 Z9 e] w λr w'=>r=Z4 (Z3 ZX)/\w'=w:=by
 refine (sV n e w).mono ?_;rintro r w' ⟨b,rfl,a,rfl⟩;cases b
 . exact ⟨rfl,rfl⟩
 . exact absurd (a.1 rfl) h
theorem AE (regs:Int) (v:ZV) (P:List St) (w:ZW) (h:Ps .u8 w v P) :
 ZT ZN 189 #[.agg #[Z8 Z9 regs,v]] w λr w'=>SA (yO regs P) w r w':=by
 obtain ⟨ao,c,rfl⟩:=h.slice;clear h;have d:ZU w.heap.size w (w.alloc (Z5 #[Z8 Z9 regs,.slice ao P.length c] 210)):=bA _ _;by_cases b:z9 regs 33
 . have a:=hide b;clear b;go_enter func189,ntmps189;go_wp2_with (go_at_call 200;refine (fh _ _ a.out _).mono ?_;rintro e w' ⟨rfl,rfl⟩);go_ret;refine ⟨_,rfl,?_,d⟩;have:=a.out;unfold z9 at this;unfold yO;simp;omega
 . have a:=hide b;clear b;go_enter func189,ntmps189;go_wp2_with (go_at_call 200;refine (jS _ _ a.out _).mono ?_;rintro e w' ⟨rfl,rfl⟩);go_ret;refine ⟨_,rfl,?_,d⟩;have:=a.out;unfold z9 at this;unfold yO;simp;omega
theorem Gl (s:St) (regs d:Int) (w:ZW) :
 ZT ZN 190 #[.agg #[Z8 .u8 s.k,Z8 Z9 s.a,Z8 Z9 s.b,Z8 .u8 s.c],Z8 Z9 regs,Z8 Z9 d] w λr w'=>SA (iJ s regs d) w r w':=by
 obtain ⟨k,a,b,c⟩:=s;have j:ZU w.heap.size w (w.alloc (Z5 #[Z8 .u8 k,Z8 Z9 a,Z8 Z9 b,Z8 .u8 c] 284)):=bA _ _;by_cases l:k=0\/k=2
 . by_cases g:z9 a regs
   . by_cases i:z9 b d
     . have f:=hide g;have h:=hide i;clear g i;rcases l with rfl|rfl;all_goals
        go_enter func190,ntmps190;go_wp2_with fail;refine (fh _ _ f.out _).mono ?_;rintro e w' ⟨rfl,rfl⟩;go_wp2_with fail;refine (fh _ _ h.out _).mono ?_;rintro e w' ⟨rfl,rfl⟩;go_wp2;go_ret;refine ⟨_,rfl,?_,j⟩;have:=f.out;have:=h.out;unfold z9 at *;unfold iJ;simp;omega
     . have f:=hide g;have h:=hide i;clear g i;rcases l with rfl|rfl;all_goals
        go_enter func190,ntmps190;go_wp2_with fail;refine (fh _ _ f.out _).mono ?_;rintro e w' ⟨rfl,rfl⟩;go_wp2_with fail;refine (jS _ _ h.out _).mono ?_;rintro e w' ⟨rfl,rfl⟩;go_wp2;go_ret;refine ⟨_,rfl,?_,j⟩;have:=f.out;have:=h.out;unfold z9 at *;unfold iJ;simp;omega
   . have f:=hide g;clear g;rcases l with rfl|rfl;all_goals
      go_enter func190,ntmps190;go_wp2_with (go_at_call 200;refine (jS _ _ f.out _).mono ?_;rintro e w' ⟨rfl,rfl⟩);go_ret;refine ⟨_,rfl,?_,j⟩;have:=f.out;unfold z9 at *;unfold iJ;simp;omega
 . by_cases k1:k=1
   . subst k1;clear l;by_cases g:z9 a regs
     . by_cases i:z9 b regs
       . have f:=hide g;have h:=hide i;clear g i;go_enter func190,ntmps190;go_wp2_with fail;refine (fh _ _ f.out _).mono ?_;rintro e w' ⟨rfl,rfl⟩;go_wp2_with fail;refine (fh _ _ h.out _).mono ?_;rintro e w' ⟨rfl,rfl⟩;go_wp2;go_ret;refine ⟨_,rfl,?_,j⟩;have:=f.out;have:=h.out;unfold z9 at *;unfold iJ;simp;omega
       . have f:=hide g;have h:=hide i;clear g i;go_enter func190,ntmps190;go_wp2_with fail;refine (fh _ _ f.out _).mono ?_;rintro e w' ⟨rfl,rfl⟩;go_wp2_with fail;refine (jS _ _ h.out _).mono ?_;rintro e w' ⟨rfl,rfl⟩;go_wp2;go_ret;refine ⟨_,rfl,?_,j⟩;have:=f.out;have:=h.out;unfold z9 at *;unfold iJ;simp;omega
     . have f:=hide g;clear g;go_enter func190,ntmps190;go_wp2_with (go_at_call 200;refine (jS _ _ f.out _).mono ?_;rintro e w' ⟨rfl,rfl⟩);go_ret;refine ⟨_,rfl,?_,j⟩;have:=f.out;unfold z9 at *;unfold iJ;simp;omega
   . have o:((k:Int)==0)=ZX:=(by rw [beq_eq_false_iff_ne];omega);have p:((k:Int)==1)=ZX:=(by rw [beq_eq_false_iff_ne];omega);have q:((k:Int)==2)=ZX:=(by rw [beq_eq_false_iff_ne];omega);have m:=hide l;have n:=hide k1;clear l k1;go_enter func190,ntmps190;go_wp2;go_ret;refine ⟨_,rfl,?_,j⟩;have:=m.out;have:=n.out;unfold iJ;simp;omega
def OP (regs:Int) (P:List St) (shards:Int) (w:ZW) (r:Ending) (w':ZW):Prop:=(iK regs P shards->r=Z4 .nilIface)/\(¬ iK regs P shards->r=Z4 (.iface 66 (Z8 Z9 4)))/\ZU w.heap.size w w'
def S7 (w:ZW) (regs shards:Int) (P:List St) (i:ZV) (wr:ZW):Prop:=∃ k:Nat,k<=P.length/\i=Z8 Z9 k/\(∀ j (hj:j<P.length),j<k->iJ P[j] regs shards)/\ZU w.heap.size w wr
theorem QC {x:ZV} {t:ZP} (h:ZU (n+1) (w.alloc (Z5 #[x,y] t)) w') (a:n=w.heap.size):w'.cell? ⟨n,0,Z0⟩=ZZ x/\w'.cell? ⟨n,1,Z0⟩=ZZ y:=by
 subst a;constructor
 . rw [h.cell (by simp)];simp
 . rw [h.cell (by simp)];simp
theorem Gm (regs d:Int) (v:ZV) (P:List St) (w:ZW) (h:Ps .u8 w v P) :
 ZT ZN 170 #[.agg #[Z8 Z9 regs,v],Z8 Z9 d] w λr w'=>OP regs P d w r w':=by
 have n:ZU w.heap.size w (w.alloc (Z5 #[Z8 Z9 regs,v] 210)):=bA _ _;have x:=h.mono n;obtain ⟨ao,c,rfl⟩:=h.slice;go_enter func170,ntmps170;go_wp2_with fail;refine (AE regs _ P _ x).mono ?_;rintro r w1 ⟨b,rfl,p,l⟩;rw [nblk_alloc] at l;obtain ⟨K,L⟩:=QC l rfl;have U:=l.size;rw [nblk_alloc] at U;have m:=n.trans (l.mono (by omega));cases b
 . have M:=hide (show ¬ iK regs P d from λg=>by have:=p.2 g.1;simp at this);clear p l x h n;go_wp2;go_ret;exact ⟨λg=>absurd g M.out,λ_=>rfl,m⟩
 . have F:=hide (p.1 rfl);have y:=h.mono m;clear p l x n h;rcases y.cases with ⟨rfl,N,O,e⟩|⟨b,off,O,e,_,q⟩
   . simp at e;obtain ⟨rfl,rfl⟩:=e;clear y;go_wp2;refine wp_loop_rounds 1 ?_;rw [rounds_succ];go_wp2;go_ret;exact ⟨λ_=>rfl,λg=>absurd ⟨F.out,λi hi=>by simp at hi⟩ g,m⟩
   . simp at e;obtain ⟨rfl,rfl⟩:=e;clear y;go_wp2;go_loopw [14] (λi wr=>S7 w1 regs d P i wr) (λi _=>P.length-(intOf i).toNat)
     case atStart=>exact ⟨0,XO _,rfl,λj _ C=>absurd C (by omega),Below.refl _ _⟩
     case round=>
      rename ZW=>wo;obtain ⟨k,X,rfl,o,f⟩:=hrel;have D:=(f.cell (block_lt_of_cell K)).trans K;have V:=(f.cell (block_lt_of_cell L)).trans L;by_cases J:k<P.length
      . obtain ⟨s,c1,t,u⟩:=q k J;have Q:=(f.cell (block_lt_of_cell s)).trans s;have d1:=(f.cell (block_lt_of_cell c1)).trans c1;have R:=(f.cell (block_lt_of_cell t)).trans t;have S:=(f.cell (block_lt_of_cell u)).trans u;have W:=hide q;have A:=hide o;clear q o s c1 t u;have E:=(((Below.refl wo.heap.size wo).alloc lR (Z5 #[Z8 .u8 P[k].k,Z8 Z9 P[k].a,Z8 Z9 P[k].b,Z8 .u8 P[k].c] 284)).cell (block_lt_of_cell D)).trans D;have G:=f.alloc f.size (Z5 #[Z8 .u8 P[k].k,Z8 Z9 P[k].a,Z8 Z9 P[k].b,Z8 .u8 P[k].c] 284);have Z:=f.size;go_wp2_with fail;refine (Gl P[k] regs d _).mono ?_;rintro r w2 ⟨b2,rfl,I,B⟩;rw [nblk_alloc] at B;have H:=G.trans (B.mono (by omega));have z:=hide I;clear B I Q d1 R S D V E f G;cases b2
        . go_wp2;go_ret;exact ⟨λg=>absurd (z.out.2 (g.2 k J)) (by simp),λ_=>rfl,m.trans (H.mono (by omega))⟩
        . go_wp2;go_roundw
          case rel=>
           refine ⟨k+1,by omega,by go_num,λj C Y=>?_,H⟩;by_cases e:j=k
           . subst e;first|exact z.out.1 rfl|exact z.out.1 trivial
           . exact A.out j C (by omega)
          case measure=>simp [intOf];omega
      . have T:k=P.length:=(by omega);subst T;have A:=hide o;clear q o;go_wp2;go_ret;exact ⟨λ_=>rfl,λg=>absurd ⟨F.out,λi hi=>A.out i hi hi⟩ g,m.trans (f.mono (by omega))⟩
def er (kk:IntKind):List St->List ZV
 | []=>[]
 | s::P=>Gk kk s++er kk P
def rj (kk:IntKind):∀ P Q,er kk (P++Q)=er kk P++er kk Q
 | [],_=>rfl
 | s::P,Q=>by simp [er,rj kk P Q]
def E6 (kk:IntKind):∀ (P:List St) (i:Nat) (hi:i<P.length) (j:Nat),j<4->(er kk P)[i*4+j]?=(Gk kk P[i])[j]?
 | s::P,0,_,j,a=>by
  simp only [er,Nat.zero_mul,X1,List.getElem_cons_zero];rw [List.getElem?_append_left (by simpa [Gk] using a)]
 | s::P,i+1,hi,j,a=>by
  have e:(i+1)*4+j=(Gk kk s).length+(i*4+j):=by simp [Gk];omega
  simp only [er,List.getElem_cons_succ];rw [e,List.getElem?_append_right (Nat.le_add_right _ _),X4];exact E6 kk P i (by simpa using hi) j a
def AF (w:ZW) (n:Nat) (b:n=w.heap.size) (x y z u:ZV) (t:ZP):∀ j v,[x,y,z,u][j]?=ZZ v->(w.alloc (Z5 #[x,y,z,u] t)).cell? ((⟨n,0,Z0⟩:Addr).add j)=ZZ v:=by
 subst b;intro j v a;rw [mN];rcases j with _|_|_|_|j;all_goals simp at a
 all_goals subst a;simp
def My {P:List St} (h:w.ownsRow base e 4 v P.length (er kk P)) (f:P.length<=4398046511104):Ps kk w v P:=by
 rcases h.2 with ⟨b,c⟩|⟨g,cap,cur,a,k,l,m,n,o,p⟩
 . have:P=[]:=XW c;subst this;exact ⟨Z0,0,b,by simp,λh=>absurd rfl h⟩
 . subst a;refine ⟨ZZ ⟨g,0,Z0⟩,cap,rfl,f,λ_=>⟨g,0,rfl,λi hi=>?_⟩⟩;have at':∀ j,j<4->w.cell? ⟨g,0+i*4+j,Z0⟩=(Gk kk P[i])[j]?:=λj d=>by
    rw [X1,h.cellAt (i*4+j) (by omega),E6 kk P i hi j d]
   exact ⟨at' 0 (by decide),at' 1 (by decide),at' 2 (by decide),at' 3 (by decide)⟩
def AG {ob:Option Nat} (h:w0.grownBy w ob) (o:Obj):w0.grownBy (w.alloc o) ob:=
 ⟨h.os,h.tape,h.output,by rw [nblk_alloc];have:=h.size;omega,λk a b=>by rw [<- h.block k a b];exact ((Below.refl w.heap.size w).alloc lR o).block k (XL a h.size)⟩
def dm (w:ZW) (b i:Nat) (v:ZV):w.grownBy (w.setCell ⟨b,i,Z0⟩ v) (ZZ b):=
 ⟨rfl,rfl,rfl,by simp,λk _ a=>by
  have:b≠k:=λe=>a (by rw [e]);simp [World.setCell,XZ,this]⟩
def oE (w:ZW) (o:Obj) (k:Nat) (h:k<w.heap.size):(w.alloc o).heap[k]?=w.heap[k]?:=((Below.refl w.heap.size w).alloc lR o).block k h
def JI (w:ZW) (a b c:Obj):(((w.alloc a).alloc b).alloc c).heap.size=w.heap.size+3/\(((w.alloc a).alloc b).alloc c).heap[w.heap.size]?=ZZ a/\(((w.alloc a).alloc b).alloc c).heap[w.heap.size+1]?=ZZ b/\(((w.alloc a).alloc b).alloc c).heap[w.heap.size+1+1]?=ZZ c:=by
 have d:=nblk_alloc w a;have e:=nblk_alloc (w.alloc a) b;have f:=nblk_alloc ((w.alloc a).alloc b) c;refine ⟨by omega,?_,?_,?_⟩
 . rw [oE _ _ _ (by omega),oE _ _ _ (by omega)];exact heap_alloc_last w a
 . rw [oE _ _ _ (by omega),<- d];exact heap_alloc_last _ b
 . rw [<- d,<- e];exact heap_alloc_last _ c
def aG {ob:Nat} {x:ZV} {t:ZP} (h:w.heap[ob]?=ZZ (Z5 #[x,y] t (0,0))):w.cell? ⟨ob,0,Z0⟩=ZZ x/\w.cell? ⟨ob,1,Z0⟩=ZZ y/\w.frozen? ⟨ob,1,Z0⟩=ZX/\w.frozen? ⟨ob,0,Z0⟩=ZX:=by
 simp [World.cell?,World.frozen?,h]
def bv (l:List Nat):List ZV:=l.map λx=>Value.int .u8 ((x:Nat):Int)
theorem JJ (h:w.heap[g]?=ZZ (Z5 (((bv l).toArray)++Builtin.zeroCells #[Z8 .u8 0] m) 5 (0,0))):aL w g (l++XI m 0):=by
 have e:((bv l).toArray++Builtin.zeroCells #[Z8 .u8 0] m)=((l++XI m 0).map (λx=>Value.int .u8 ((x:Nat):Int))).toArray:=by
  apply Array.ext';simp [bv,Builtin.zeroCells,Nat.mod_one,List.map_const']
 rw [e] at h;refine ⟨_,h,by simp,λi hi=>?_⟩;rw [YR,XY,XM hi];simp [vb,XM hi]
def Dq {a:ZQ} {Q:ZS->ZQ->ZW->Prop} (b:o.guard=Z0) (s x:ZO) (t:ZP) (ho:o.op=.call { callee:=.builtin .append,args:=#[s,x],argTypes:=#[t,t] })
 (vs vx v':ZV) (hs:a.eval s=vs) (hx:a.eval x=vx) (h0:(Builtin.append_ #[t,t] o.type #[vs,vx]).run ZN w=.ok v' w') (h:wpList ZN ops Q rest (a.put o.dst v') w'):wpList ZN ops Q (o::rest) a w:=by
 refine wpList_plain b λK hK=>?_;unfold Oper.wp;simp [execOp,ho,resolve,invoke,builtin,hs,hx,h0,Result.andThen];exact hK _ _ h
theorem Dr (d:Addr) (c:Nat) (l:List Nat) (w:ZW) (h:Bs w (Z6 (ZZ d) l.length c) l) (Q:l.length<=100000) :
 ZT ZN 173 #[Z6 (ZZ d) l.length c] w λe w'=>∃ b m,e=Z4 (Z6 (ZZ ⟨b,0,Z0⟩) l.length (l.length+m))/\w.heap.size<=b/\aL w' b (l++XI m 0)/\l.length+m<=9223372036854775807/\ZU w.heap.size w w':=by
 obtain ⟨L,E,H,I,J⟩:=info_parts Tryz.TW;have D:=λM=>Lib.run_eql_slice_nil (P:=ZN) M 34 5 (ZZ d) l.length c 0 0 underlying34;have n:∀ j u,(bv l)[j]?=ZZ u->(w.alloc (Z5 #[] 5)).cell? (d.add j)=ZZ u:=by
  intro j u s;obtain ⟨t,N,e,_,_,_,z⟩:=h.mono ((Below.refl _ _).alloc lR (Z5 #[] 5));have g:j<l.length:=by
   obtain ⟨q,_⟩:=Yj.1 s;simpa [bv] using q
  obtain ⟨p,a,k,G⟩:=z (by intro e;rw [e] at g;simp at g);simp at e;rw [<- e.1] at k;simp at k;subst k;have x:(⟨p,a,Z0⟩:Addr).add j=⟨p,a+j,Z0⟩:=by unfold Addr.add;split<;>simp_all
  rw [x,G j g,<- s];simp [bv,g]
 have f:ZU w.heap.size w (w.alloc (Z5 #[] 5)):=bA _ _;by_cases y:l.length=0
 . have F:l=[]:=XW y;subst F;clear h n;go_enter func173,ntmps173;simp only [Yf] at D;go_wp2;go_ret;exact ⟨w.heap.size,0,rfl,XH _,⟨#[],heap_alloc_last w _,rfl,λi hi=>by simp at hi⟩,by omega,f⟩
 . have r:=run_append_grow (P:=ZN) (w:=w.alloc (Z5 #[] 5)) 34 34 5 L (Z8 .u8 0) underlying34 E H ⟨w.heap.size,0,Z0⟩ 0 0 [] (by simp) (λj v K=>by simp at K) d l.length c (bv l) (by rw [I];simp [bv]) n (by omega) (by omega) (by rw [J];have:=growslice_fits (need:=0+l.length) (old:=0) (bytes:=1) (by omega) (by omega);omega);obtain ⟨cp,O,C,o⟩:∃ cp,l.length<=cp/\cp<=9223372036854775807/\(Builtin.append_ #[34,34] 34 #[Z6 (ZZ ⟨w.heap.size,0,Z0⟩) 0 0,Z6 (ZZ d) l.length c]).run ZN (w.alloc (Z5 #[] 5))=.ok (Z6 (ZZ ⟨w.heap.size+1,0,Z0⟩) l.length cp) ((w.alloc (Z5 #[] 5)).drew.alloc (Z5 ((bv l).toArray++Builtin.zeroCells #[Z8 .u8 0] (cp-l.length)) 5)):=by
    refine ⟨grownCap (w.alloc (Z5 #[] 5)) (0+l.length) 0 5,by have:=grownCap_ge (w.alloc (Z5 #[] 5)) (0+l.length) 0 5;omega,by have:=grownCap_le_maxLen (w.alloc (Z5 #[] 5)) (0+l.length) 0 5 (by unfold maxLen;omega);unfold maxLen at this;omega,?_⟩;rw [r,nblk_alloc];simp [Value.cells]
   obtain ⟨m,rfl⟩:∃ m,cp=l.length+m:=⟨cp-l.length,by omega⟩;rw [X4] at o;have A:=hide o;clear o r n h;go_enter func173,ntmps173;go_wp2_with (at_builtin;refine Dq rfl (Z2 5) (Z2 6) 34 rfl _ _ _ rfl rfl A.out ?_);go_ret;have B:aL ((w.alloc (Z5 #[] 5)).drew.alloc (Z5 ((bv l).toArray++Builtin.zeroCells #[Z8 .u8 0] m) 5)) (w.heap.size+1) (l++XI m 0):=by
    refine JJ ?_;have:=heap_alloc_last (w.alloc (Z5 #[] 5)).drew (Z5 ((bv l).toArray++Builtin.zeroCells #[Z8 .u8 0] m) 5);rwa [show (w.alloc (Z5 #[] 5)).drew.heap.size=w.heap.size+1 from nblk_alloc _ _] at this
   exact ⟨w.heap.size+1,m,rfl,by omega,B,C,((show ZU w.heap.size w (w.alloc (Z5 #[] 5)).drew from ⟨f.os,f.tape,f.output,f.size,f.block⟩).alloc (show w.heap.size<=(w.alloc _).heap.size by rw [nblk_alloc];omega) _)⟩
