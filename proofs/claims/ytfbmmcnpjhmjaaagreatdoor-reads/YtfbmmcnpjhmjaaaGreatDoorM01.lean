import Derived.WalkKit
import Derived.Test.YtfbmmcnpjhmjaaaGreatDoorRows
import Derived.ProofKit
import Derived.OpenShut
import Derived.WalkSpells
import Derived.Deep.OwnRows
import Derived.Deep.Slices
import Derived.Deep.Matrix
import Derived.Deep.MidRow
import Derived.Deep.QuietTactic
import Derived.BigQuiet
import Derived.Deep.AppendSrc
set_option maxRecDepth 100000
set_option maxHeartbeats 8000000
open Go.Value renaming int -> Z9, pointer -> Z8, slice -> Z7
open Go.Obj renaming cells -> Z6
open Option renaming none -> Z5, some -> Z4
open Bool renaming false -> Z3
open Go renaming World -> Z2, Value -> Z1
open Go.RowKit renaming Below -> Z0
open Nat renaming le_refl -> Tm, lt_of_lt_of_le -> Tr, add_mul -> Tv, mod_eq_of_lt -> Ty, le_trans -> TB, zero_add -> TD, xor_lt_two_pow -> TG
open List renaming replicate -> Tn, length_cons -> Tp, getD_eq_getElem?_getD -> Tq, mem_cons -> Ts, mem_append -> Tt, getElem_mem -> Tu, eq_of_mem_replicate -> Tw, length_append -> Tx, length_set -> Tz, eq_nil_of_length_eq_zero -> TA, getElem_set -> TE, getElem?_eq_none -> TF, not_mem_nil -> TH, length_nil -> TI, nil_append -> TJ, append_assoc -> TK, take_append_of_le_length -> TL, take_of_length_le -> TM, drop_append_of_le_length -> TN, drop_of_length_le -> TO, length_replicate -> TP, getElem?_map -> TQ, ext_getElem -> TR
open Array renaming getElem?_eq_some_iff -> To, getElem?_modify -> TC
open Go.Proofs.Tryz renaming prog -> ZZ
namespace Go.Proofs.YtfbmmcnpjhmjaaaGreatDoor
variable {a:Act} {ops:Array Oper} {Q:Exit->Act->Z2->Prop} {L:List (Nat×Nat×List Nat)} {l l':List Nat} {rest:List Oper} {xs:List Z1} {r b n base size base' B:Nat} {S T:Nat->Prop} {o:Oper} {P:Program} {e:TypeId} {v:Z1} {w w' w'' w0:Z2}
def be (n:Nat):Nat->List Nat
 | 0=>[]
 | s+1=>n/256^s%256::be n s
theorem bT (n s:Nat):(be n s).length=s:=by induction s with
 | zero=>rfl
 | succ s ih=>simp [be,ih]
theorem rA (n s:Nat):∀ x∈be n s,x<256:=by induction s with
 | zero=>intro x a;simp [be] at a
 | succ s ih=>
  intro x a;simp only [be,Ts] at a;rcases a with rfl|a
  . exact Nat.mod_lt _ (by decide)
  . exact ih x a
def gy (l:List Nat):Nat:=l.foldl (λn x=>(n*256+x)%18446744073709551616) 0
theorem zl (l:List Nat) (x:Nat):gy (l++[x])=(gy l*256+x)%18446744073709551616:=by simp [gy]
theorem K9 (n:Nat) (e:n<18446744073709551616):∀ (s a:Nat),s<=8->a=n/256^s->(be n s).foldl (λn x=>(n*256+x)%18446744073709551616) a=n:=by
 intro s;induction s with
 | zero=>intro a _ b;simpa [be] using b
 | succ s ih=>
  intro a f b;simp only [be,List.foldl_cons];refine ih _ (by omega) ?_;subst b;have c:n/256^(s+1)=n/256^s/256:=by rw [Nat.pow_succ,Nat.div_div_eq_div_mul]
  rw [c];have d:n/256^s<=n:=Nat.div_le_self _ _;generalize n/256^s=q at *;omega
theorem BO (n s:Nat) (a:s<=8) (h:n<256^s):gy (be n s)=n:=by
 have b:(256:Nat)^s<=256^8:=Nat.pow_le_pow_right (by decide) a;have c:(256:Nat)^8=18446744073709551616:=by decide
 exact K9 n (by omega) s 0 a (Nat.div_eq_of_lt h).symm
def dS:List Nat:=[0x00000000,0x1db71064,0x3b6e20c8,0x26d930ac,0x76dc4190,0x6b6b51f4,0x4db26158,0x5005713c,0xedb88320,0xf00f9344,0xd6d6a3e8,0xcb61b38c,0x9b64c2b0,0x86d3d2d4,0xa00ae278,0xbdbdf21c]
def fp (r:Nat):Nat:=(r/16)^^^dS.getD (r%16) 0
def lT (r b:Nat):Nat:=fp (fp (r^^^b))
def ew (l:List Nat):Nat:=l.foldl lT 4294967295
def Hn (l:List Nat):Nat:=4294967295-ew l
theorem oT:∀ i,dS.getD i 0<4294967296:=by
 intro i;by_cases h:i<16
 . have:∀ j:Fin 16,dS.getD j.1 0<4294967296:=by decide
   exact this ⟨i,h⟩
 . have:dS.getD i 0=0:=by simp [dS,TF (show ([0x00000000,0x1db71064,0x3b6e20c8,0x26d930ac,0x76dc4190,0x6b6b51f4,0x4db26158,0x5005713c,0xedb88320,0xf00f9344,0xd6d6a3e8,0xcb61b38c,0x9b64c2b0,0x86d3d2d4,0xa00ae278,0xbdbdf21c]:List Nat).length<=i by simp;omega)]
   omega
theorem lf (h:r<4294967296):fp r<4294967296:=by
 unfold fp;exact TG (n:=32) (by omega) (oT _)
theorem BP (h:r<4294967296) (a:b<256):lT r b<4294967296:=
 lf (lf (TG (n:=32) h (by omega)))
theorem La:∀ (l:List Nat) (r:Nat),r<4294967296->(∀ x∈l,x<256)->l.foldl lT r<4294967296:=by
 intro l;induction l with
 | nil=>intro r h _;exact h
 | cons b l ih=>intro r h a;exact ih _ (BP h (a b (by simp))) (λx c=>a x (by simp [c]))
theorem rB (h:∀ x∈l,x<256):ew l<4294967296:=La l _ (by decide) h
theorem M5 (l:List Nat):Hn l<4294967296:=by unfold Hn;omega
inductive aW where
 | blank
 | root (D L G turn first len:Nat)
 | filled
 | shard (l:List Nat)
deriving DecidableEq
def aW.body:aW->List Nat
 | .blank=>[]
 | .root D L G t f n=>[1,D%256,L%256,G%256]++(be t 8++(be f 4++be n 4))
 | .filled=>[2]
 | .shard l=>3::(Tn 15 0++l)
def cQ (body:List Nat):List Nat:=be (Hn (body++Tn (60-body.length) 0)) 4++(body++Tn (60-body.length) 0)
def aW.blk (r:aW):List Nat:=if r.body.length=0 then Tn 64 0 else cQ r.body
def aW.ok:aW->Prop
 | .blank=>True
 | .root D L G t f n=>D<256/\L<256/\G<256/\t<18446744073709551616/\f<4294967296/\n<4294967296
 | .filled=>True
 | .shard l=>l.length=44/\∀ x∈l,x<256
def EN (b:List Nat):aW:=
 if b.getD 4 0=1 then .root (gy [b.getD 5 0]) (gy [b.getD 6 0]) (gy [b.getD 7 0]) (gy ((b.drop 8).take 8)) (gy ((b.drop 16).take 4)) (gy ((b.drop 20).take 4))
 else if b.getD 4 0=2 then .filled else if b.getD 4 0=3 then .shard (b.drop 20) else .blank
theorem jB {r:aW} (h:r.ok):r.body.length<=60:=by
 cases r with
 | blank=>simp [aW.body]
 | root D L G t f n=>simp [aW.body,bT]
 | filled=>simp [aW.body]
 | shard l=>simp [aW.body,h.1]
theorem ez {r:aW} (h:r.ok):r.blk.length=64:=by
 have:=jB h;unfold aW.blk cQ;split
 . simp
 . simp [bT];omega
theorem lU {r:aW} (h:r.ok):∀ x∈r.body,x<256:=by
 cases r with
 | blank=>intro x a;simp [aW.body] at a
 | root D L G t f n=>
  intro x a;simp only [aW.body,Tt,Ts,TH,or_false] at a;rcases a with (rfl|rfl|rfl|rfl)|a|a|a
  . omega
  . omega
  . omega
  . omega
  all_goals exact rA _ _ x a
 | filled=>
  intro x a;simp only [aW.body,Ts,TH,or_false] at a;omega
 | shard l=>
  intro x a;simp only [aW.body,Tt,Ts] at a;rcases a with rfl|a|a
  . decide
  . have:=Tw a;omega
  . exact h.2 x a
theorem EO (h:∀ x∈l,x<256):∀ x∈cQ l,x<256:=by
 intro x a;unfold cQ at a;simp only [Tt] at a;rcases a with a|a|a
 . exact rA _ _ x a
 . exact h x a
 . have:=Tw a;omega
theorem jg {r:aW} (h:r.ok):∀ x∈r.blk,x<256:=by
 unfold aW.blk;split
 . intro x a;have:=Tw a;omega
 . exact EO (lU h)
theorem M6 (n:Nat):be n 4=[n/256^3%256,n/256^2%256,n/256^1%256,n/256^0%256]:=rfl
theorem wL (x:Nat) (h:x<256):gy [x]=x:=by simp [gy];omega
theorem Lb {r:aW} (h:r.ok):EN r.blk=r:=by
 cases r with
 | blank=>rfl
 | root D L G t f n=>
  obtain ⟨d,g,i,j,k,o⟩:=h;have e:aW.blk (.root D L G t f n)=cQ (aW.body (.root D L G t f n)):=by unfold aW.blk;rw [if_neg (by simp [aW.body])]
  rw [e];unfold cQ;generalize Hn _=c;simp only [aW.body,M6 c,Tx,Tp,TI,bT];unfold EN;simp only [List.cons_append,TJ,List.getD_cons_succ,List.getD_cons_zero,if_true,List.drop_succ_cons,List.drop_zero,TK];have t8:∀ R:List Nat,(be t 8++R).take 8=be t 8:=λR=>by rw [TL (by simp [bT])];exact TM (by simp [bT])
  have a:∀ R:List Nat,(be t 8++R).drop 8=R:=λR=>by rw [TN (by simp [bT]),TO (by simp [bT])];rfl
  have b:∀ (m:Nat) (R:List Nat),(be m 4++R).take 4=be m 4:=λm R=>by rw [TL (by simp [bT])];exact TM (by simp [bT])
  have d12:∀ R:List Nat,(be t 8++(be f 4++R)).drop 12=R:=λR=>by
   rw [show (12:Nat)=8+4 from rfl,<- List.drop_drop,a,TN (by simp [bT]),TO (by simp [bT])];rfl
  rw [t8,a,b,d12,b,BO t 8 (by decide) j,BO f 4 (by decide) k,BO n 4 (by decide) o];rw [wL _ (by omega),wL _ (by omega),wL _ (by omega),Ty d,Ty g,Ty i]
 | filled=>
  have e:aW.blk .filled=cQ (aW.body .filled):=by unfold aW.blk;rw [if_neg (by simp [aW.body])]
  rw [e];unfold cQ;generalize Hn _=c;simp only [aW.body,M6 c,Tp,TI];unfold EN;simp
 | shard l=>
  have e:aW.blk (.shard l)=cQ (aW.body (.shard l)):=by unfold aW.blk;rw [if_neg (by simp [aW.body])]
  rw [e];unfold cQ;generalize Hn _=c;have p:=h.1;simp only [aW.body,M6 c,Tx,Tp,TP,p];unfold EN;simp [Tn]
section
open Go.RowKit Go.Deep
theorem fH (h:n<=1000000000000):wrap64 (n:Int)=(n:Int):=by unfold wrap64;omega
def vb (l:List Nat) (i:Nat):Z1:=Z9 .u8 ((l.getD i 0:Nat):Int)
def aM (w:Z2) (b:Nat) (l:List Nat):Prop:=w.rowIs b 5 l.length (vb l)
def lg (p:Nat×Nat×List Nat):Z1:=Z7 (Z4 ⟨p.1,0,Z5⟩) p.2.1 p.2.2.length
structure iL (w:Z2) (base:Nat) (v:Z1) (L:List (Nat×Nat×List Nat)):Prop where
 own:w.ownsRow base 34 1 v L.length (L.map lg)
 row:∀ p∈L,base<=p.1/\aM w p.1 p.2.2/\p.2.1<=p.2.2.length/\(p.2.1<=140737488355328/\p.2.2.length<=9223372036854775807)/\∀ x∈p.2.2,x<256
 nodup:(L.map (λp=>p.1)).Nodup
theorem eA (h:∀ x∈l,x<256) (i:Nat):l.getD i 0<256:=by
 by_cases a:i<l.length
 . have e:l.getD i 0=l[i]:=(by simp [a]);rw [e];exact h _ (Tu a)
 . have e:l.getD i 0=0:=(by simp [TF (show l.length<=i by omega)]);rw [e];decide
theorem aM.below (h:aM w b l) (a:Z0 w.heap.size w w'):aM w' b l:=
 World.rowIs.of_block h (a.block b h.lt)
theorem aM.cell (h:aM w b l) (i:Nat) (a:i<l.length):w.cell? ⟨b,i,Z5⟩=Z4 (Z9 .u8 ((l.getD i 0:Nat):Int)):=
 World.rowIs.cell h a
theorem aM.frozen (h:aM w b l) (i:Nat):w.frozen? ⟨b,i,Z5⟩=Z3:=World.rowIs.frozen h i
theorem aM.set (h:aM w b l) (i x:Nat):aM (w.setCell ⟨b,i,Z5⟩ (Z9 .u8 (x:Int))) b (l.set i x):=by
 have a:=World.rowIs.set h i (Z9 .u8 (x:Int));unfold aM;rw [Tz];refine a.congr λj c=>?_;unfold vb;by_cases e:j=i
 . subst e;simp [c]
 . simp only [if_neg e];rw [Tq,Tq,List.getElem?_set_ne (λh=>e h.symm)]
theorem aM.other (h:aM w b l) {a:Addr} (c:b≠a.block) (v:Z1):aM (w.setCell a v) b l:=World.rowIs.setOther h c v
theorem aM.alloc (h:aM w b l) (o:Obj):aM (w.alloc o) b l:=World.rowIs.alloc h o
theorem aM.lt (h:aM w b l):b<w.heap.size:=World.rowIs.lt h
theorem aM.grown {row:Option Nat} (h:aM w b l) (c:w.grownBy w' row) (a:Z4 b≠row):aM w' b l:=
 World.rowIs.of_block h (c.block b h.lt a)
theorem aM.made (w:Z2) (n:Nat):aM (w.alloc (Z6 (madeCells #[Z9 .u8 0] n) 5)) w.heap.size (Tn n 0):=by
 have h:=World.rowIs_made w (Z9 .u8 0) n 5;unfold aM;rw [TP];refine h.congr λi a=>?_;simp [vb,a]
theorem aA (h:w.ownsRow base e size v n xs) (j:Z0 w.heap.size w w'):w'.ownsRow base e size v n xs:=by
 refine ⟨h.1,?_⟩;rcases h.2 with f|⟨g,cap,cur,b,c,a,d⟩
 . exact .inl f
 . refine .inr ⟨g,cap,cur,b,c,?_,d⟩;obtain ⟨i,_⟩:=To.1 a;rw [j.block g i];exact a
theorem cT (h:w.ownsRow base e size v n xs) (f:base'<=base):w.ownsRow base' e size v n xs:=by
 refine ⟨h.1,?_⟩;rcases h.2 with c|⟨g,cap,cur,a,d,b⟩
 . exact .inl c
 . exact .inr ⟨g,cap,cur,a,by omega,b⟩
theorem wM (h:w.ownsRow base 34 1 v n xs) {b:Nat} {l:List Nat} (i:aM w b l):v.ownBlock≠Z4 b:=by
 intro e;rcases h.2 with ⟨f,_⟩|⟨g,cap,cur,d,k,a,m⟩
 . rw [f] at e;simp [Value.ownBlock] at e
 . rw [d] at e;simp [Value.ownBlock] at e;subst e;obtain ⟨c,j,_⟩:=i;rw [j] at a;simp at a
theorem iL.weaken (h:iL w base v L) (c:base'<=base):iL w base' v L:=
 ⟨cT h.own c,λp d=>by obtain ⟨a,b⟩:=h.row p d;exact ⟨by omega,b⟩,h.nodup⟩
theorem iL.below (h:iL w base v L) (d:Z0 w.heap.size w w'):iL w' base v L:=
 ⟨aA h.own d,λp e=>by obtain ⟨a,b,c⟩:=h.row p e;exact ⟨a,b.below d,c⟩,h.nodup⟩
theorem iL.alloc (h:iL w base v L) (o:Obj):iL (w.alloc o) base v L:=
 h.below ((Below.refl _ _).alloc (Tm _) _)
theorem iL.push {v':Z1} {p:Nat×Nat×List Nat} (h:iL w base v L) (i:w.grownBy w' v.ownBlock) (j:w'.ownsRow base 34 1 v' (L.length+1) (L.map lg++[lg p]))
 (f:base<=p.1/\aM w p.1 p.2.2/\p.2.1<=p.2.2.length/\(p.2.1<=140737488355328/\p.2.2.length<=9223372036854775807)/\∀ x∈p.2.2,x<256) (k:∀ q∈L,q.1≠p.1):iL w' base v' (L++[p]):=by
 refine ⟨by simpa using j,λq d=>?_,?_⟩
 . rcases Tt.1 d with d|d
   . obtain ⟨a,b,c⟩:=h.row q d;exact ⟨a,b.grown i (λe=>wM h.own b e.symm),c⟩
   . simp at d;subst d;exact ⟨f.1,f.2.1.grown i (λe=>wM h.own f.2.1 e.symm),f.2.2⟩
 . rw [List.map_append,List.nodup_append];refine ⟨h.nodup,by simp,?_⟩;intro a l b g;obtain ⟨q,d,rfl⟩:=List.mem_map.1 l;simp at g;subst g;exact k q d
theorem mw (g i:Nat):(⟨g,0,Z5⟩:Addr).add i=⟨g,i,Z5⟩:=by
 unfold Addr.add;split
 . rename_i h;simp_all
 . simp
theorem iL.shape (h:iL w base v L):(v=Z7 Z5 0 0/\L=[])\/∃ g cap,v=Z7 (Z4 ⟨g,0,Z5⟩) L.length cap/\base<=g/\L.length<=cap/\cap<=maxLen/\g<w.heap.size/\(∀ i (c:i<L.length),w.cell? ⟨g,i,Z5⟩=Z4 (lg L[i]))/\(∀ i,w.frozen? ⟨g,i,Z5⟩=Z3)/\∀ p∈L,p.1≠g:=by
 rcases h.own.2 with ⟨k,l⟩|⟨g,cap,cur,a,d,b,f,j,o,q⟩
 . exact .inl ⟨k,TA l⟩
 . obtain ⟨m,_⟩:=To.1 b;refine .inr ⟨g,cap,a,d,f,j,m,λi c=>?_,λi=>?_,λp n e=>?_⟩
   . have:=h.own.cells (g:=g) (by rw [a];rfl) i (lg L[i]) (by simp [c]);rw [mw] at this;exact this
   . simp [World.frozen?,b]
   . have:=wM h.own (h.row p n).2.1;rw [a] at this;exact this (by rw [e];rfl)
theorem Tryz.infoByte:(ZZ.info? 5).map (λi=>(i.zero,i.size,i.bytes))=Z4 (Z4 (Z9 .u8 0),1,1):=by kernel_rfl
theorem Tryz.infoBytes:(ZZ.info? 34).map (λi=>(i.zero,i.size,i.bytes))=Z4 (Z4 (Z7 Z5 0 0),1,24):=by kernel_rfl
theorem eB (w:Z2) {ops:Array Oper} {rest:List Oper} {o:Oper} {a:Act} {Q:Exit->Act->Z2->Prop}
 (h:o.guard=Z5) (l c:Operand) (e:o.op=Op.makeSlice 34 l c) (C:Int) (n:Nat) (i:a.eval l=Z9 .i64 C) (g:a.eval c=Z9 .i64 C) (f:C=(n:Int)) (j:n<=140737488355328)
 (hK:∀ w',aM w' w.heap.size (Tn n 0)->Z0 w.heap.size w w'->w'.heap.size=w.heap.size+1->wpList ZZ ops Q rest (a.put o.dst (Z7 (Z4 ⟨w.heap.size,0,Z5⟩) n n)) w') :
 wpList ZZ ops Q (o::rest) a w:=by
 refine wpList_plain h λK d=>?_;have b:=run_make_row' (P:=ZZ) 34 5 (Z9 .u8 0) 1 Tryz.underlying34 Tryz.infoByte rfl .i64 .i64 n (by omega) (by omega) w;subst f;unfold Oper.wp;simp [execOp,e,i,g,b,Result.andThen];exact d _ _ (hK _ (aM.made w n) ((Below.refl _ _).alloc (Tm _) _) (nblk_alloc _ _))
end
section
open Go.RowKit Go.Deep
structure aa (S:Nat->Prop) (w w':Z2):Prop where
 os:w'.os=w.os
 tape:w'.tape=w.tape
 output:w'.output=w.output
 size:w.heap.size<=w'.heap.size
 block:∀ k,k<w.heap.size->¬ S k->w'.heap[k]?=w.heap[k]?
theorem aa.refl (S:Nat->Prop) (w:Z2):aa S w w:=⟨rfl,rfl,rfl,Tm _,λ_ _ _=>rfl⟩
theorem aa.mono (h:aa S w w') (b:∀ k,k<w.heap.size->S k->T k):aa T w w':=
 ⟨h.os,h.tape,h.output,h.size,λk a c=>h.block k a (λs=>c (b k a s))⟩
theorem aa.trans (h:aa S w w') (a:aa S w' w''):aa S w w'':=
 ⟨a.os.trans h.os,a.tape.trans h.tape,a.output.trans h.output,TB h.size a.size,λk b c=>(a.block k (Tr b h.size) c).trans (h.block k b c)⟩
theorem aa.later (h:aa S w w') (a:aa T w' w'') (d:∀ k,k<w.heap.size->T k->S k):aa S w w'':=
 ⟨a.os.trans h.os,a.tape.trans h.tape,a.output.trans h.output,TB h.size a.size,λk b c=>(a.block k (Tr b h.size) (λt=>c (d k b t))).trans (h.block k b c)⟩
theorem aa.of_below (h:Z0 B w w') (S:Nat->Prop) (a:∀ k,k<w.heap.size->¬ S k->k<B):aa S w w':=
 ⟨h.os,h.tape,h.output,h.size,λk b c=>h.block k (a k b c)⟩
theorem aa.of_all (h:Z0 w.heap.size w w') (S:Nat->Prop):aa S w w':=.of_below h S λ_ a _=>a
theorem aa.below (h:aa S w w') {B:Nat} (a:∀ k,k<B->k<w.heap.size/\¬ S k):Z0 B w w':=
 ⟨h.os,h.tape,h.output,h.size,λk b=>h.block k (a k b).1 (a k b).2⟩
theorem aa.setCell (w:Z2) (a:Addr) (v:Z1) (h:S a.block):aa S w (w.setCell a v):=
 ⟨rfl,rfl,rfl,by simp [World.setCell],λk _ b=>blk_setCell_other _ _ _ _ (λe=>b (e▸h))⟩
theorem aa.alloc (w:Z2) (o:Obj):aa S w (w.alloc o):=.of_all ((Below.refl _ _).alloc (Tm _) _) S
theorem aa.drew (w:Z2):aa S w w.drew:=⟨rfl,rfl,rfl,Tm _,λ_ _ _=>rfl⟩
theorem bC (b:Nat):∀ (a:List Z1) (o:Nat) (w:Z2) (k:Nat),k≠b->(w.setCells b o a).heap[k]?=w.heap[k]?
 | [],_,_,_,_=>rfl
 | v::r,o,w,k,h=>by
  show ((w.setCell ⟨b,o,Z5⟩ v).setCells b (o+1) r).heap[k]?=_;rw [bC b r _ _ k h];exact blk_setCell_other _ _ _ _ (by exact h)
theorem jh (b:Nat):∀ (a:List Z1) (o:Nat) (w:Z2),(w.setCells b o a).heap.size=w.heap.size
 | [],_,_=>rfl
 | v::r,o,w=>by
  show ((w.setCell ⟨b,o,Z5⟩ v).setCells b (o+1) r).heap.size=_;rw [jh b r];simp [World.setCell]
theorem ji (b:Nat):∀ (a:List Z1) (o:Nat) (w:Z2),(w.setCells b o a).os=w.os/\(w.setCells b o a).tape=w.tape/\(w.setCells b o a).output=w.output
 | [],_,_=>⟨rfl,rfl,rfl⟩
 | v::r,o,w=>ji b r (o+1) (w.setCell ⟨b,o,Z5⟩ v)
theorem aa.setCells (w:Z2) (b o:Nat) (a:List Z1) (h:S b):aa S w (w.setCells b o a):=by
 obtain ⟨c,d,f⟩:=ji b a o w;exact ⟨c,d,f,by rw [jh];exact Tm _,λk _ g=>bC b a o w k (λe=>g (e▸h))⟩
theorem lh {t:Nat}:∀ (a:List Z1) (o:Nat) (w:Z2) (f:Nat->Z1),w.rowIs b t n f ->
 (w.setCells b o a).rowIs b t n (λk=>if o<=k/\k<o+a.length then a.getD (k-o) undef else f k)
 | [],o,w,f,h=>h.congr λi g=>by
  show f i=if o<=i/\i<o+0 then _ else f i;rw [if_neg (by omega)]
 | v::r,o,w,f,h=>by
  have d:=lh r (o+1) _ _ (h.set o v);refine World.rowIs.congr d λk j=>?_;simp only [Tp];by_cases e:k=o
  . subst e;rw [if_neg (by omega),if_pos rfl,if_pos (by omega),Nat.sub_self];rfl
  . by_cases c:o+1<=k/\k<o+1+r.length
    . rw [if_pos c,if_pos (by omega),show k-o=(k-(o+1))+1 by omega];rfl
    . rw [if_neg c,if_neg e,if_neg (by omega)]
structure aB where
 n:Nat
 nb:Nat
 wait:Int
 lost:Nat->Bool
 bad:Nat->Nat->Bool
 blk:Nat->Nat->List Nat
 reads:Nat->Int
structure bx where
 g:Nat
 cap:Nat
 bb:Nat->Nat
 bd:Nat->Nat
def bx.has (F:bx) (p n k:Nat):Prop:=k=p\/k=F.g\/∃ i,i<n/\(k=F.bb i\/k=F.bd i)
def mx (A:aB) (F:bx) (k:Nat):Z1:=
 if k%4=0 then .bool (A.lost (k/4)) else if k%4=1 then Z7 (Z4 ⟨F.bb (k/4),0,Z5⟩) A.nb A.nb else if k%4=2 then Z7 (Z4 ⟨F.bd (k/4),0,Z5⟩) A.nb A.nb else Z9 .i64 (A.reads (k/4))
def O0 (A:aB) (i k:Nat):Z1:=Z9 .u8 (((A.blk i (k/64)).getD (k%64) 0:Nat):Int)
structure ay (X:Z2) (p:Nat) (A:aB) (F:bx):Prop where
 top:X.heap[p]?=Z4 (Z6 #[Z7 (Z4 ⟨F.g,0,Z5⟩) A.n F.cap,Z9 .i64 A.wait] 57 (0,0))
 drv:∃ cs,X.heap[F.g]?=Z4 (Z6 cs 61 (0,0))/\∀ k,k<4*A.n->cs[k]?=Z4 (mx A F k)
 blk:∀ i,i<A.n->X.rowIs (F.bb i) 255 (64*A.nb) (O0 A i)
 bad:∀ i,i<A.n->X.rowIs (F.bd i) 4 A.nb (λj=>.bool (A.bad i j))
 inj:∀ i j,i<A.n->j<A.n->(F.bb i=F.bb j->i=j)/\(F.bd i=F.bd j->i=j)
structure aB.fit (A:aB):Prop where
 n:A.n<=1000
 nb:A.nb<=1000000
 len:∀ i j,(A.blk i j).length=64
 byt:∀ i j,∀ x∈A.blk i j,x<256
variable {X Y:Z2} {p:Nat} {A:aB} {F:bx}
theorem ay.p_lt (h:ay X p A F):p<X.heap.size:=(To.1 h.top).1
theorem ay.g_lt (h:ay X p A F):F.g<X.heap.size:=by obtain ⟨cs,a,_⟩:=h.drv;exact (To.1 a).1
theorem ay.has_lt (h:ay X p A F) {k:Nat} (b:F.has p A.n k):k<X.heap.size:=by
 rcases b with rfl|rfl|⟨i,a,rfl|rfl⟩
 . exact h.p_lt
 . exact h.g_lt
 . exact (h.blk i a).lt
 . exact (h.bad i a).lt
theorem ay.keep (h:ay X p A F) (b:∀ k,F.has p A.n k->Y.heap[k]?=X.heap[k]?):ay Y p A F:=by
 obtain ⟨cs,c,d⟩:=h.drv;exact ⟨(b _ (.inl rfl)).trans h.top,⟨cs,(b _ (.inr (.inl rfl))).trans c,d⟩,λi a=>(h.blk i a).of_block (b _ (.inr (.inr ⟨i,a,.inl rfl⟩))),λi a=>(h.bad i a).of_block (b _ (.inr (.inr ⟨i,a,.inr rfl⟩))),h.inj⟩
theorem ay.below (h:ay X p A F) {B:Nat} (b:Z0 B X Y) (a:X.heap.size<=B):ay Y p A F:=h.keep λk c=>b.block k (Tr (h.has_lt c) a)
theorem ay.alloc (h:ay X p A F) (o:Obj):ay (X.alloc o) p A F:=h.below ((Below.refl _ _).alloc (Tm _) _) (Tm _)
theorem ay.apart (h:ay X p A F):p≠F.g/\(∀ i,i<A.n->F.bb i≠p/\F.bb i≠F.g/\F.bd i≠p/\F.bd i≠F.g)/\∀ i j,i<A.n->j<A.n->F.bb i≠F.bd j:=by
 obtain ⟨cs,l,_⟩:=h.drv;have k:=h.top;refine ⟨λe=>?_,λi f=>?_,λi j f m e=>?_⟩
 . rw [e,l] at k;simp at k
 . obtain ⟨c,a,_⟩:=h.blk i f;obtain ⟨d,b,_⟩:=h.bad i f;refine ⟨λe=>?_,λe=>?_,λe=>?_,λe=>?_⟩
   . rw [e,k] at a;simp at a
   . rw [e,l] at a;simp at a
   . rw [e,k] at b;simp at b
   . rw [e,l] at b;simp at b
 . obtain ⟨c,a,_⟩:=h.blk i f;obtain ⟨d,b,_⟩:=h.bad j m;rw [e,b] at a;simp at a
theorem ay.drvs (h:ay X p A F) (i:Nat) (e:i<A.n):X.cell? ⟨F.g,i*4,Z5⟩=Z4 (.bool (A.lost i))/\X.cell? ⟨F.g,i*4+1,Z5⟩=Z4 (Z7 (Z4 ⟨F.bb i,0,Z5⟩) A.nb A.nb) /\
 X.cell? ⟨F.g,i*4+2,Z5⟩=Z4 (Z7 (Z4 ⟨F.bd i,0,Z5⟩) A.nb A.nb)/\X.cell? ⟨F.g,i*4+3,Z5⟩=Z4 (Z9 .i64 (A.reads i)):=by
 obtain ⟨cs,b,c⟩:=h.drv;have a:∀ k,k<4*A.n->X.cell? ⟨F.g,k,Z5⟩=Z4 (mx A F k):=λk d=>by simp [World.cell?,b,c k d]
 refine ⟨?_,?_,?_,?_⟩
 . rw [a _ (by omega)];unfold mx;rw [if_pos (by omega),show i*4/4=i by omega]
 . rw [a _ (by omega)];unfold mx;rw [if_neg (by omega),if_pos (by omega),show (i*4+1)/4=i by omega]
 . rw [a _ (by omega)];unfold mx;rw [if_neg (by omega),if_neg (by omega),if_pos (by omega),show (i*4+2)/4=i by omega]
 . rw [a _ (by omega)];unfold mx;rw [if_neg (by omega),if_neg (by omega),if_neg (by omega),show (i*4+3)/4=i by omega]
theorem ay.unfrozen (h:ay X p A F) (k:Nat):X.frozen? ⟨F.g,k,Z5⟩=Z3:=by obtain ⟨cs,a,_⟩:=h.drv;simp [World.frozen?,a]
theorem ay.p_cells (h:ay X p A F):X.cell? ⟨p,0,Z5⟩=Z4 (Z7 (Z4 ⟨F.g,0,Z5⟩) A.n F.cap)/\X.cell? ⟨p,1,Z5⟩=Z4 (Z9 .i64 A.wait)/\X.frozen? ⟨p,0,Z5⟩=Z3/\X.frozen? ⟨p,1,Z5⟩=Z3:=by simp [World.cell?,World.frozen?,h.top]
theorem ay.badC (h:ay X p A F) (i j:Nat) (a:i<A.n) (b:j<A.nb):X.cell? ⟨F.bd i,j,Z5⟩=Z4 (.bool (A.bad i j)):=(h.bad i a).cell b
def aH (l:List Nat):List Z1:=l.map λ(x:Nat)=>Value.int .u8 (x:Int)
theorem ay.range (h:ay X p A F) (c:A.fit) (i j:Nat) (d:i<A.n) (g:j<A.nb):X.rangeAt (F.bb i) (j*64) (aH (A.blk i j)):=by
 intro k v a;unfold aH at a;rw [TQ,Option.map_eq_some_iff] at a;obtain ⟨x,b,rfl⟩:=a;obtain ⟨f,e⟩:=List.getElem?_eq_some_iff.1 b;rw [c.len] at f;rw [(h.blk i d).cell (i:=j*64+k) (by omega)];unfold O0;rw [show (j*64+k)/64=j by omega,show (j*64+k)%64=k by omega,Tq,b];rfl
theorem ay.there (h:ay X p A F) (i j:Nat) (a:i<A.n) (b:j<A.nb):X.there (F.bb i) (j*64) 64:=λk c=>by
 rw [(h.blk i a).cell (i:=j*64+k) (by omega)];exact ⟨rfl,(h.blk i a).frozen _⟩
def aB.setReads (A:aB) (i:Nat) (r:Int):aB:={ A with reads:=λk=>if k=i then r else A.reads k }
def aB.setLost (A:aB) (i:Nat) (t:Bool):aB:={ A with lost:=λk=>if k=i then t else A.lost k }
def aB.setBad (A:aB) (i j:Nat) (t:Bool):aB:={ A with bad:=λk m=>if k=i/\m=j then t else A.bad k m }
def aB.setBlk (A:aB) (i j:Nat) (l:List Nat):aB:={ A with blk:=λk m=>if k=i/\m=j then l else A.blk k m }
theorem ay.setDrv (h:ay X p A F) (k:Nat) (v:Z1) (c:aB) (d:c.n=A.n) (m:c.nb=A.nb) (s:c.wait=A.wait) (t:c.bad=A.bad) (u:c.blk=A.blk) (x:∀ j,j<4*A.n->mx c F j=if j=k then v else mx A F j) :
 ay (X.setCell ⟨F.g,k,Z5⟩ v) p c F:=by
 obtain ⟨r,l,y⟩:=h.apart;have f:∀ j,j≠F.g->(X.setCell ⟨F.g,k,Z5⟩ v).heap[j]?=X.heap[j]?:=λj b=>blk_setCell_other _ _ _ _ b;obtain ⟨cs,w,o⟩:=h.drv;refine ⟨?_,⟨cs.setIfInBounds k v,by simp [World.setCell,TC,w],λj b=>?_⟩,λi a=>?_,λi a=>?_,λi j a b=>h.inj i j (by omega) (by omega)⟩
 . rw [d,s];exact (f _ r).trans h.top
 . rw [d] at b;rw [x j b,Array.getElem?_setIfInBounds];by_cases e:k=j
   . subst e;rw [if_pos rfl,if_pos rfl];have:=o k b;obtain ⟨q,_⟩:=To.1 this;simp [q]
   . rw [if_neg e,if_neg (λq=>e q.symm)];exact o j b
 . rw [d] at a;have:=(h.blk i a).of_block (f _ (l i a).2.1);rw [m];exact this.congr λj b=>by unfold O0;rw [u]
 . rw [d] at a;rw [m,t];exact (h.bad i a).of_block (f _ (l i a).2.2.2)
theorem ay.setReads (h:ay X p A F) (i:Nat) (r:Int):ay (X.setCell ⟨F.g,i*4+3,Z5⟩ (Z9 .i64 r)) p (A.setReads i r) F:=
 h.setDrv (i*4+3) (Z9 .i64 r) (A.setReads i r) rfl rfl rfl rfl rfl λj c=>by
  by_cases e:j=i*4+3
  . subst e;rw [if_pos rfl];unfold mx;rw [if_neg (by omega),if_neg (by omega),if_neg (by omega)];show Value.int .i64 (if (i*4+3)/4=i then r else _)=_;rw [if_pos (by omega)]
  . rw [if_neg e];unfold mx;show (if j%4=0 then Value.bool (A.lost (j/4)) else if j%4=1 then _ else if j%4=2 then _ else Value.int .i64 (if j/4=i then r else A.reads (j/4)))=_;by_cases q:j%4=3
    . rw [if_neg (show ¬ j/4=i by omega)];rfl
    . by_cases a:j%4=0
      . rw [if_pos a,if_pos a]
      . by_cases b:j%4=1
        . rw [if_neg a,if_neg a,if_pos b,if_pos b];rfl
        . rw [if_neg a,if_neg a,if_neg b,if_neg b,if_pos (by omega),if_pos (by omega)];rfl
theorem ay.setLost (h:ay X p A F) (i:Nat) (t:Bool):ay (X.setCell ⟨F.g,i*4,Z5⟩ (.bool t)) p (A.setLost i t) F:=
 h.setDrv (i*4) (.bool t) (A.setLost i t) rfl rfl rfl rfl rfl λj a=>by
  by_cases e:j=i*4
  . subst e;rw [if_pos rfl];unfold mx;rw [if_pos (by omega)];show Value.bool (if (i*4)/4=i then t else _)=_;rw [if_pos (by omega)]
  . rw [if_neg e];unfold mx;show (if j%4=0 then Value.bool (if j/4=i then t else A.lost (j/4)) else _)=_;by_cases q:j%4=0
    . rw [if_pos q,if_pos q,if_neg (show ¬ j/4=i by omega)]
    . rw [if_neg q,if_neg q];rfl
theorem ay.setBad (h:ay X p A F) (i j:Nat) (d:i<A.n) (t:Bool):ay (X.setCell ⟨F.bd i,j,Z5⟩ (.bool t)) p (A.setBad i j t) F:=by
 obtain ⟨s,f,g⟩:=h.apart;have b:∀ k,k≠F.bd i->(X.setCell ⟨F.bd i,j,Z5⟩ (.bool t)).heap[k]?=X.heap[k]?:=λk b=>blk_setCell_other _ _ _ _ b;obtain ⟨cs,l,o⟩:=h.drv;refine ⟨(b _ (λe=>(f i d).2.2.1 e.symm)).trans h.top,⟨cs,(b _ (λe=>(f i d).2.2.2 e.symm)).trans l,o⟩,λk a=>(h.blk k a).of_block (b _ (g k i a d)),λk a=>?_,h.inj⟩;by_cases e:k=i
 . subst e;refine ((h.bad k a).set j (.bool t)).congr λm r=>?_;show _=Value.bool (if k=k/\m=j then t else A.bad k m);by_cases c:m=j
   . rw [if_pos c,if_pos ⟨rfl,c⟩]
   . rw [if_neg c,if_neg (λq=>c q.2)]
 . refine ((h.bad k a).of_block (b _ (λq=>e ((h.inj k i a d).2 q)))).congr λm r=>?_;show _=Value.bool (if k=i/\m=j then t else A.bad k m);rw [if_neg (λq=>e q.1)]
theorem ay.setBlk (h:ay X p A F) (i j:Nat) (c:i<A.n) (l:List Nat) (u:l.length=64):ay (X.setCells (F.bb i) (j*64) (aH l)) p (A.setBlk i j l) F:=by
 obtain ⟨w,d,g⟩:=h.apart;have b:∀ k,k≠F.bb i->(X.setCells (F.bb i) (j*64) (aH l)).heap[k]?=X.heap[k]?:=λk b=>bC _ _ _ _ _ b;obtain ⟨cs,o,r⟩:=h.drv;refine ⟨(b _ (λe=>(d i c).1 e.symm)).trans h.top,⟨cs,(b _ (λe=>(d i c).2.1 e.symm)).trans o,r⟩,λk a=>?_,λk a=>(h.bad k a).of_block (b _ (λe=>g i k c a e.symm)),h.inj⟩;by_cases e:k=i
 . subst e;refine (lh (aH l) (j*64) X _ (h.blk k a)).congr λm v=>?_;have s:(aH l).length=64:=(by unfold aH;rw [List.length_map,u]);rw [s];unfold O0;show _=Value.int .u8 (((if k=k/\m/64=j then l else A.blk k (m/64)).getD (m%64) 0:Nat):Int);by_cases f:m/64=j
   . rw [if_pos (by omega),if_pos ⟨rfl,f⟩,show m-j*64=m%64 by omega];unfold aH;have t:m%64<l.length:=(by omega);rw [Tq,TQ,Tq,List.getElem?_eq_getElem t];rfl
   . rw [if_neg (by omega),if_neg (λq=>f q.2)]
 . refine ((h.blk k a).of_block (b _ (λq=>e ((h.inj k i a c).1 q)))).congr λm v=>?_;unfold O0;show _=Value.int .u8 (((if k=i/\m/64=j then l else A.blk k (m/64)).getD (m%64) 0:Nat):Int);rw [if_neg (λq=>e q.1)]
theorem aB.fit.setReads (h:A.fit) (i:Nat) (r:Int):(A.setReads i r).fit:=⟨h.n,h.nb,h.len,h.byt⟩
theorem aB.fit.setLost (h:A.fit) (i:Nat) (t:Bool):(A.setLost i t).fit:=⟨h.n,h.nb,h.len,h.byt⟩
theorem aB.fit.setBad (h:A.fit) (i j:Nat) (t:Bool):(A.setBad i j t).fit:=⟨h.n,h.nb,h.len,h.byt⟩
theorem aB.fit.setBlk (h:A.fit) (i j:Nat) (l:List Nat) (b:l.length=64) (a:∀ x∈l,x<256):(A.setBlk i j l).fit:=by
 refine ⟨h.n,h.nb,λk m=>?_,λk m=>?_⟩
 . show (if k=i/\m=j then l else A.blk k m).length=64;split
   . exact b
   . exact h.len k m
 . show ∀ x∈(if k=i/\m=j then l else A.blk k m),x<256;split
   . exact a
   . exact h.byt k m
structure jC (R A:aB):Prop where
 n:R.n=A.n
 nb:R.nb=A.nb
 wait:R.wait=A.wait
 lost:R.lost=A.lost
 reads:R.reads=A.reads
 here:∀ i,A.lost i=Z3->R.blk i=A.blk i/\R.bad i=A.bad i
theorem jC.refl (A:aB):jC A A:=⟨rfl,rfl,rfl,rfl,rfl,λ_ _=>⟨rfl,rfl⟩⟩
def aq (X:Z2) (p:Nat) (A:aB) (F:bx):Prop:=∃ R,ay X p R F/\R.fit/\jC R A
theorem ay.at (h:ay X p A F) (a:A.fit):aq X p A F:=⟨A,h,a,jC.refl A⟩
theorem aq.has_lt (h:aq X p A F) {k:Nat} (c:F.has p A.n k):k<X.heap.size:=by
 obtain ⟨R,a,_,b⟩:=h;exact a.has_lt (by rw [b.n];exact c)
theorem aq.keep (h:aq X p A F) (d:∀ k,F.has p A.n k->Y.heap[k]?=X.heap[k]?):aq Y p A F:=by
 obtain ⟨R,b,c,a⟩:=h;exact ⟨R,b.keep (by rw [a.n];exact d),c,a⟩
theorem aq.below (h:aq X p A F) {B:Nat} (b:Z0 B X Y) (a:X.heap.size<=B):aq Y p A F:=h.keep λk c=>b.block k (Tr (h.has_lt c) a)
theorem aq.outside (h:aq X p A F) (c:aa S X Y) (b:∀ k,F.has p A.n k->¬ S k):aq Y p A F:=h.keep λk a=>c.block k (h.has_lt a) (b k a)
theorem aq.alloc (h:aq X p A F) (o:Obj):aq (X.alloc o) p A F:=h.below ((Below.refl _ _).alloc (Tm _) _) (Tm _)
theorem aq.p_cells (h:aq X p A F):X.cell? ⟨p,0,Z5⟩=Z4 (Z7 (Z4 ⟨F.g,0,Z5⟩) A.n F.cap)/\X.cell? ⟨p,1,Z5⟩=Z4 (Z9 .i64 A.wait)/\X.frozen? ⟨p,0,Z5⟩=Z3/\X.frozen? ⟨p,1,Z5⟩=Z3:=by
 obtain ⟨R,b,_,a⟩:=h;rw [<- a.n,<- a.wait];exact b.p_cells
theorem aq.drvs (h:aq X p A F) (i:Nat) (c:i<A.n):X.cell? ⟨F.g,i*4,Z5⟩=Z4 (.bool (A.lost i))/\X.cell? ⟨F.g,i*4+1,Z5⟩=Z4 (Z7 (Z4 ⟨F.bb i,0,Z5⟩) A.nb A.nb) /\
 X.cell? ⟨F.g,i*4+2,Z5⟩=Z4 (Z7 (Z4 ⟨F.bd i,0,Z5⟩) A.nb A.nb)/\X.cell? ⟨F.g,i*4+3,Z5⟩=Z4 (Z9 .i64 (A.reads i)):=by
 obtain ⟨R,b,_,a⟩:=h;rw [<- a.nb,<- a.lost,<- a.reads];exact b.drvs i (by rw [a.n];exact c)
theorem aq.lostPut (h:aq X p A F) {d:Nat} (m:A.lost d=true) (b:Nat) (l:List Nat):aq X p ((A.setBlk d b l).setBad d b Z3) F:=by
 obtain ⟨R,g,k,a⟩:=h;refine ⟨R,g,k,a.n,a.nb,a.wait,a.lost,a.reads,λi c=>?_⟩;have f:i≠d:=λe=>by rw [e] at c;exact absurd c (by show ¬ A.lost d=Z3;rw [m];decide)
 obtain ⟨o,r⟩:=a.here i c;refine ⟨o.trans (funext λj=>?_),r.trans (funext λj=>?_)⟩
 . exact (if_neg (λq:i=d/\j=b=>f q.1)).symm
 . exact (if_neg (λq:i=d/\j=b=>f q.1)).symm
theorem jC.setReads {R A:aB} (h:jC R A) (d:Nat) (x:Int):jC (R.setReads d x) (A.setReads d x):=⟨h.n,h.nb,h.wait,h.lost,by show (λk=>if k=d then x else R.reads k)=_;rw [h.reads];rfl,h.here⟩
theorem jC.lose {R A:aB} (h:jC R A) (d:Nat):jC (R.setLost d true) (A.setLost d true):=by
 refine ⟨h.n,h.nb,h.wait,by show (λk=>if k=d then true else R.lost k)=_;rw [h.lost];rfl,h.reads,λi b=>h.here i ?_⟩;have a:(if i=d then true else A.lost i)=Z3:=b;by_cases e:i=d
 . rw [if_pos e] at a;cases a
 . rwa [if_neg e] at a
theorem jC.put {R A:aB} (h:jC R A) (d b:Nat) (l:List Nat):jC ((R.setBlk d b l).setBad d b Z3) ((A.setBlk d b l).setBad d b Z3):=by
 refine ⟨h.n,h.nb,h.wait,h.lost,h.reads,λi a=>?_⟩;obtain ⟨c,e⟩:=h.here i a;refine ⟨funext λj=>?_,funext λj=>?_⟩
 . show (if i=d/\j=b then l else R.blk i j)=if i=d/\j=b then l else A.blk i j;rw [c]
 . show (if i=d/\j=b then Z3 else R.bad i j)=if i=d/\j=b then Z3 else A.bad i j;rw [e]
end
section
open Go.RowKit Go.Deep
def an (l:List Nat):Array Z1:=(aH l).toArray
theorem bz (l:List Nat):(an l).size=l.length:=by unfold an aH;simp
theorem uM (l:List Nat):(an l).toList=aH l:=by unfold an;rfl
theorem bm (l:List Nat):(aH l).length=l.length:=by unfold aH;simp
theorem zm (l:List Nat):(an l).all (λv=>v.oneCell')=true:=all_oneCell_toArray λv a=>by
 unfold aH at a;rw [List.mem_map] at a;obtain ⟨x,_,rfl⟩:=a;rfl
theorem Tryz.sizeBlk:(ZZ.info? 255).map (λi=>i.size)=Z4 64:=by kernel_rfl
theorem eW (h:l.length=64):(ZZ.info? 255).map (λi=>i.size)=Z4 (an l).size:=by rw [bz,h];exact Tryz.sizeBlk
def zb:List Nat:=Tn 64 0
theorem bD:zb.length=64:=by simp [zb]
theorem Tryz.zeroBlk:(ZZ.info? 255).map (λi=>(i.zero,i.size,i.bytes))=Z4 (Z4 (.agg (an zb)),64,64):=by kernel_rfl
theorem zeroBlk (w:Z2):(zeroValue 255).run ZZ w=.ok (.agg (an zb)) w:=by
 obtain ⟨c,a,b,_,_⟩:=info_parts Tryz.zeroBlk;simp [zeroValue,typeInfo,Sem.run_bind,a,b]
def bG (w:Z2) (b:Nat) (l:List Nat):Prop:=w.heap[b]?=Z4 (Z6 (an l) 255 (0,0))
theorem bG.lt (h:bG w b l):b<w.heap.size:=(To.1 h).1
theorem bG.new (w:Z2) (l:List Nat):bG (w.alloc (Z6 (an l) 255)) w.heap.size l:=blk_alloc_new _ _
theorem bG.keep (h:bG w b l) (e:w'.heap[b]?=w.heap[b]?):bG w' b l:=e.trans h
theorem bG.setRow (l:List Nat) (h:bG w b l'):bG (w.setRow b (an l)) b l:=setRow_heap w b (an l') (an l) _ _ h
theorem aI (w:Z2) (b:Nat) (cs:Array Z1):w.grownBy (w.setRow b cs) (Z4 b):=
 ⟨rfl,rfl,rfl,by simp,λk _ a=>by
  have:b≠k:=λe=>a (by rw [e]);simp [World.setRow,TC,this]⟩
theorem aa.setRow (w:Z2) (b:Nat) (cs:Array Z1) (h:S b):aa S w (w.setRow b cs):=
 have g:=aI w b cs
 ⟨g.os,g.tape,g.output,g.size,λk a c=>g.block k a (λe=>c (by cases e;exact h))⟩
theorem fY (w:Z2) (b:Nat) (cs:Array Z1):(w.setRow b cs).heap.size=w.heap.size:=by simp [World.setRow]
theorem mS (h:bG w b l) (a:l.length=64):(Instr.loadAt 255 (Z8 (Z4 ⟨b,0,Z5⟩))).run ZZ w=.ok (.agg (an l)) w:=by
 simp only [Instr.loadAt,Instr.sureAddr,Sem.run_bind,Sem.run_pure,Result.andThen_ok,run_loadVar_row w b 255 255 (an l) (0,0) _ h Tryz.underlying255 rfl (eW a)]
theorem pQ (h:bG w b l) (a:l.length=64):(loadVar 255 ⟨b,0,Z5⟩).run ZZ w=.ok (.agg (an l)) w:=
 run_loadVar_row w b 255 255 (an l) (0,0) _ h Tryz.underlying255 rfl (eW a)
theorem zn (l:List Nat) (h:bG w b l') (c:l'.length=64) (a:l.length=64):(Instr.storeAt 255 (Z8 (Z4 ⟨b,0,Z5⟩)) (.agg (an l))).run ZZ w=.ok () (w.setRow b (an l)):=by
 simp only [Instr.storeAt,Instr.sureAddr,Sem.run_bind,Sem.run_pure,Result.andThen_ok,run_storeVar_row w b 255 255 (an l') (an l) h (eW a) (by rw [bz,bz,a,c]) (zm l)]
theorem lV (d:o.guard=Z5) (x:Operand) (ho:o.op=.load 255 x) (b:Nat) (l:List Nat)
 (f:a.eval x=Z8 (Z4 ⟨b,0,Z5⟩)) (c:bG w b l) (e:l.length=64) (h:wpList ZZ ops Q rest (a.put o.dst (.agg (an l))) w):wpList ZZ ops Q (o::rest) a w:=by
 refine wpList_plain d λK hK=>?_;unfold Oper.wp;simp [execOp,ho,f,mS c e,Result.andThen];exact hK _ _ h
theorem fZ (e:o.guard=Z5) (x y:Operand) (ho:o.op=.store 255 x y) (b:Nat) (l l':List Nat)
 (g:a.eval x=Z8 (Z4 ⟨b,0,Z5⟩)) (i:a.eval y=.agg (an l)) (d:bG w b l') (c:l'.length=64) (f:l.length=64) (h:wpList ZZ ops Q rest (a.put o.dst undef) (w.setRow b (an l))):wpList ZZ ops Q (o::rest) a w:=by
 refine wpList_plain e λK hK=>?_;unfold Oper.wp;simp [execOp,ho,g,i,zn l d c f,Result.andThen];exact hK _ _ h
theorem BQ (d:o.guard=Z5) (x:Operand) (ho:o.op=.load 255 x) (b k:Nat) (l:List Nat)
 (f:a.eval x=Z8 (Z4 ⟨b,k,Z5⟩)) (c:w.rangeAt b k (aH l)) (e:l.length=64) (h:wpList ZZ ops Q rest (a.put o.dst (.agg (an l))) w):wpList ZZ ops Q (o::rest) a w:=
 wpList_load_mid d 255 x ho b k f (aH l) _ c Tryz.underlying255 rfl (by rw [bm,e];exact Tryz.sizeBlk) h
theorem iO {fn:Func} {p q:Tmp} {ty:TypeId} (h:fn.results=#[.cell p ty,.tmp q]) (tmps:Array Z1) (w:Z2) (a:Addr) (v u:Z1)
 (e:tmps.getD p undef=Z8 (Z4 a)) (f:tmps.getD q undef=u) (d:(loadVar ty a).run P w=.ok v w):(results fn tmps).run P w=.ok (.tuple #[v,u]) w:=by
 have b:tmps[p]?.getD undef=Z8 (Z4 a):=by simpa using e
 have c:tmps[q]?.getD undef=u:=by simpa using f
 simp [results,h,b,c,asAddr,d]
end
section
open Go.RowKit Go.Deep
def Bs (w:Z2) (v:Z1) (l:List Nat):Prop:=
 ∃ ao c,v=.slice ao l.length c/\l.length<=c/\l.length<=140737488355328/\(∀ x∈l,x<256)/\(l≠[]->∃ b off,ao=Z4 ⟨b,off,Z5⟩/\∀ k,k<l.length->w.cell? ⟨b,off+k,Z5⟩=Z4 (Z9 .u8 ((l.getD k 0:Nat):Int)))
theorem Bs.mono (h:Bs w v l) (m:Z0 w.heap.size w w'):Bs w' v l:=by
 obtain ⟨a,c,d,f,g,i,j⟩:=h;refine ⟨a,c,d,f,g,i,λp=>?_⟩;obtain ⟨b,off,e,n⟩:=j p;refine ⟨b,off,e,λk o=>?_⟩;have:=n k o;rw [m.cell (block_lt_of_cell this)];exact this
theorem Bs.of_row (h:aM w b l) (f:n<=l.length) (e:n<=140737488355328) (d:∀ x∈l,x<256):Bs w (Z7 (Z4 ⟨b,0,Z5⟩) n l.length) (l.take n):=by
 have c:(l.take n).length=n:=by rw [List.length_take];omega
 refine ⟨Z4 ⟨b,0,Z5⟩,l.length,by rw [c],by omega,by omega,λx h=>d x (List.mem_of_mem_take h),λ_=>⟨b,0,rfl,λk a=>?_⟩⟩;rw [c] at a;have:=h.cell k (by omega);rw [TD,this];simp [a]
def O6 (w:Z2) (n:Nat) (i:Z1) (wr:Z2):Prop:=∃ k m:Nat,k<=n/\i=Z9 .i64 k/\wr=w.drewN m
theorem D3 (n vb:Z1) (l:List Nat) (w:Z2) (u:Bs w n l) (v:Bs w vb l) :
 Calls ZZ 19 #[n,vb] w λe w'=>e=.returned (.bool true)/\∃ m,w'=w.drewN m:=by
 obtain ⟨y,B,rfl,p,r,G,c⟩:=u;obtain ⟨A,C,rfl,q,s,_,d⟩:=v;have D:l.length<=140737488355328:=by omega
 clear p r q s;by_cases a:l=[]
 . subst a;clear c d;go_enter Tryz.func19,Tryz.ntmps19;go_wp2;refine wp_loop_rounds 1 ?_;rw [rounds_succ];go_wp2;go_ret;exact ⟨rfl,0,rfl⟩
 . obtain ⟨b,off,rfl,f⟩:=c a;obtain ⟨z,j,rfl,g⟩:=d a;clear a c d;have E:(((l.length:Nat):Int) != ((l.length:Nat):Int))=Z3:=(by simp);go_enter Tryz.func19,Tryz.ntmps19;go_wp2;go_loopw [5] (λi wr=>O6 w l.length i wr) (λi _=>l.length-(intOf i).toNat)
   case atStart=>exact ⟨0,0,Nat.zero_le _,rfl,rfl⟩
   case round=>
    obtain ⟨k,m,F,rfl,rfl⟩:=hrel;by_cases h:k<l.length
    . have c1:=f k h;have o:=g k h;have t:(((l.getD k 0:Nat):Int) != ((l.getD k 0:Nat):Int))=Z3:=(by simp);generalize l.getD k 0=x at c1 o t;clear f g;go_wp2;go_quiet (fail);go_wp2;go_roundw
      case rel=>exact ⟨k+1,_,by omega,by go_num,rfl⟩
      case measure=>simp [intOf];omega
    . go_wp2;go_ret;exact ⟨rfl,_,rfl⟩
end
section
open Go.RowKit Go.Deep
theorem eX (h:w.grownBy w' (Z4 b)) (i:Nat) (v:Z1):w.grownBy (w'.setCell ⟨b,i,Z5⟩ v) (Z4 b):=
 ⟨h.os,h.tape,h.output,by rw [nblk_setCell];exact h.size,λk c a=>by
  rw [blk_setCell_other _ _ _ _ (by intro e;exact a (by rw [e]))];exact h.block k c a⟩
theorem BS {r:Option Nat} (h:w.grownBy w' r) (n:Nat):w.grownBy (w'.drewN n) r:=
 ⟨h.os,h.tape,h.output,h.size,h.block⟩
theorem gd {r:Option Nat} (h:w.grownBy w' r) (k:w'.grownBy w'' r):w.grownBy w'' r:=
 ⟨k.os.trans h.os,k.tape.trans h.tape,k.output.trans h.output,TB h.size k.size,λj b a=>(k.block j (Tr b h.size) a).trans (h.block j b a)⟩
theorem iP (h:Z0 B w0 w) (c:w.grownBy w' (Z4 b)) (a:B<=w.heap.size) (e:B<=b):Z0 B w0 w':=
 h.grown c a (λk d=>by simp at d;omega)
theorem BU (h:w.ownsRow base 34 1 v n xs) (c:w.grownBy w' (Z4 b)) (a:v.ownBlock≠Z4 b):w'.ownsRow base 34 1 v n xs:=
 h.kept c (.inr a)
theorem iL.wrote (h:iL w base v L) {i:Nat} (d:i<L.length) {l':List Nat} (f:w.grownBy w' (Z4 L[i].1)) (t:aM w' L[i].1 l') (r:l'.length=L[i].2.2.length) (u:∀ x∈l',x<256) :
 iL w' base v (L.set i (L[i].1,L[i].2.1,l')):=by
 have s:=Tu d;obtain ⟨g,k,y,z,A⟩:=h.row _ s;have o:(L.set i (L[i].1,L[i].2.1,l')).map lg=L.map lg:=by
  apply TR
  . simp
  . intro j m n;simp [TE];by_cases e:i=j
    . subst e;simp [lg,r]
    . simp [e]
 have l:(L.set i (L[i].1,L[i].2.1,l')).map (λp=>p.1)=L.map (λp=>p.1):=by
  apply TR
  . simp
  . intro j m n;simp [TE];by_cases e:i=j
    . subst e;simp
    . simp [e]
 refine ⟨?_,λp b=>?_,by rw [l];exact h.nodup⟩
 . rw [o,Tz];exact BU h.own f (wM h.own k)
 . obtain ⟨j,a,rfl⟩:=List.mem_iff_getElem.1 b;rw [Tz] at a;rw [TE];by_cases e:i=j
   . rw [if_pos e];exact ⟨g,t,by show L[i].2.1<=l'.length;omega,⟨by show L[i].2.1<=140737488355328;omega,by show l'.length<=9223372036854775807;omega⟩,u⟩
   . rw [if_neg e];obtain ⟨b1,b2,b3⟩:=h.row _ (Tu a);refine ⟨b1,b2.grown f ?_,b3⟩;intro q;simp at q;have b:=List.pairwise_iff_getElem.1 h.nodup;rcases Nat.lt_or_gt_of_ne e with c|c
     . exact b i j (by simpa using d) (by simpa using a) c (by simp [q])
     . exact b j i (by simpa using a) (by simpa using d) c (by simp [q])
theorem iL.row_at (h:iL w base v L) {i:Nat} (e:i<L.length):Bs w (lg L[i]) (L[i].2.2.take L[i].2.1):=by
 obtain ⟨f,a,b,c,d⟩:=h.row _ (Tu e);exact Bs.of_row a b c.1 d
theorem Lh (w:Z2) (n:Nat) (a:n=w.heap.size) (x:Z1) (t:TypeId):∀ j u,[x][j]?=Z4 u->(w.alloc (Z6 #[x] t)).cell? ((⟨n,0,Z5⟩:Addr).add j)=Z4 u:=by
 subst a;exact cell_one_new _ _ _
theorem jV {w1 w2:Z2} {T:List (Nat×Nat×List Nat)} {o:Obj} (h:iL w B v T) (b:Z0 B w0 w) (a:Z0 w.heap.size w w1) (d:B<=w.heap.size) (e:(w1.alloc o).grownBy w2 v.ownBlock):Z0 B w0 w2:=by
 have c:=b.trans (a.mono d);have g:=a.size;refine (c.alloc (by omega) o).grown e (by rw [nblk_alloc];omega) ?_;intro k f;exact (h.own.lt k f).1
end
section
open Go.RowKit Go.Deep
def uy:Array Z1->Nat->List Z1->Array Z1
 | cur,_,[]=>cur
 | cur,o,v::r=>uy (cur.setIfInBounds o v) (o+1) r
theorem vv:∀ (a:List Z1) (o:Nat) (cur:Array Z1),(uy cur o a).size=cur.size
 | [],_,_=>rfl
 | v::r,o,cur=>by unfold uy;rw [vv r];simp
theorem vw:∀ (a:List Z1) (o:Nat) (cur:Array Z1),o+a.length<=cur.size->(uy cur o a).toList.take (o+a.length)=cur.toList.take o++a
 | [],o,cur,_=>by simp [uy]
 | v::r,o,cur,h=>by
  simp only [Tp] at h ⊢;unfold uy;have:=vw r (o+1) (cur.setIfInBounds o v) (by simp;omega);rw [show o+(r.length+1)=o+1+r.length by omega,this,Array.toList_setIfInBounds];have e:(cur.toList.set o v).take (o+1)=cur.toList.take o++[v]:=by
   rw [List.take_add_one,List.take_set_of_le (Tm o),List.getElem?_set_self (by simp;omega)];rfl
  rw [e,TK];rfl
theorem jq:∀ (c:List Z1) (o:Nat) (w:Z2) {b:Nat} {cur:Array Z1} {t:TypeId} {a:Nat×Nat},w.heap[b]?=Z4 (Z6 cur t a)->(w.setCells b o c).heap[b]?=Z4 (Z6 (uy cur o c) t a)
 | [],_,_,_,_,_,_,h=>h
 | v::r,o,w,b,cur,t,a,h=>by
  show ((w.setCell ⟨b,o,Z5⟩ v).setCells b (o+1) r).heap[b]?=_;exact jq r (o+1) _ (by simp [World.setCell,TC,h])
theorem cD (w:Z2) (b o:Nat) (a:List Z1):w.grownBy (w.setCells b o a) (Z4 b):=by
 obtain ⟨d,f,g⟩:=ji b a o w;exact ⟨d,f,g,by rw [jh];exact Tm _,λk _ c=>bC b a o w k (λe=>c (by rw [e]))⟩
theorem kR (w:Z2) (base:Nat) (t tx q e:TypeId) (i:TypeInfo) (z:Z1) (size bytes:Nat) (p:P.underlying t=Z4 (.slice e)) (l:P.info? e=Z4 i) (E:i.zero=Z4 z)
 (G:i.size=size) (K:i.bytes=bytes) (Q:z.cells.size=size) (v:Z1) (n:Nat) (xs:List Z1) (f:w.ownsRow base e size v n xs)
 (x:Z1) (m:Nat) (news:List Z1) (a:Src P size tx x m news w) (C:n+m<=maxLen) (B:(n+m)*bytes<=140737488355328) (F:base<=w.heap.size) :
 ∃ r w',(Builtin.append_ #[t,tx] q #[v,x]).run P w=.ok r w'/\w'.ownsRow base e size r (n+m) (xs++news)/\w.grownBy w' v.ownBlock/\(r.ownBlock=v.ownBlock\/r.ownBlock=Z4 w.heap.size):=by
 subst G;subst K;have T:n+m<=9223372036854775807:=by simp only [maxLen] at C;omega
 have h:(xs++news).length=(n+m)*i.size:=by rw [Tx,f.1,a.newsLen,Tv]
 have grown:∀ (old:Nat),∀ (row:Option Nat),
  (w.drew.alloc (Z6 ((xs++news).toArray++Builtin.zeroCells z.cells (grownCap w (n+m) old e-(n+m))) e)).ownsRow base e i.size
   (Z7 (Z4 ⟨w.heap.size,0,Z5⟩) (n+m) (grownCap w (n+m) old e)) (n+m) (xs++news) /\
  w.grownBy (w.drew.alloc (Z6 ((xs++news).toArray++Builtin.zeroCells z.cells (grownCap w (n+m) old e-(n+m))) e)) row:=by
  intro old row;have O:=grownCap_ge w (n+m) old e;have y:grownCap w (n+m) old e<=maxLen:=grownCap_le_maxLen w (n+m) old e C;refine ⟨⟨h,.inr ⟨w.heap.size,_,_,rfl,F,heap_alloc_new w.drew _,O,y,?_,?_⟩⟩,⟨rfl,rfl,rfl,by simp,λk o _=>(blk_alloc_lt w.drew _ k o:_)⟩⟩
  . rw [Array.size_append,List.size_toArray,size_zeroCells,Q,h,<- Tv];congr 1;omega
  . rw [Array.toList_append,<- h];exact List.take_left
 rcases f.2 with ⟨rfl,rfl⟩|⟨g,cap,cur,rfl,J,A,U,y,D,H⟩
 . have R:xs=[]:=TA (by simpa using f.1);subst R;by_cases M:m=0
   . subst M;have N:news=[]:=TA (by simpa using a.newsLen);subst N;refine ⟨Z7 Z5 0 0,w,?_,World.ownsRow_nil w base e i.size,⟨rfl,rfl,rfl,Tm _,λ_ _ _=>rfl⟩,.inl rfl⟩;rcases a.kind with ⟨S,o⟩|o<;>simp [Builtin.append_,run_underlying p,run_underlying o,sizeOf,typeInfo,l,a.len,a.cells]
   . have c:=run_append_grow_src (P:=P) (w:=w) t tx q e i z p l E Z5 0 0 [] (by simp [Builtin.firstCells]) x m news a (by omega) (by omega) (growslice_fits (by omega) (by simpa using B));have d:=grown 0 (Value.ownBlock (Z7 Z5 0 0));simp only [TD,TJ] at d c ⊢;exact ⟨_,_,c,d.1,d.2,.inr rfl⟩
 . by_cases s:n+m<=cap
   . have I:n*i.size+news.length<=cur.size:=(by rw [a.newsLen,D,<- Tv];exact Nat.mul_le_mul_right _ s);have c:=run_append_room_src (P:=P) (w:=w) t tx q e i p l g 0 n cap x m news a s (λj L=>by simp [World.cell?,A];omega) (λj L=>by simp [World.frozen?,A]);rw [TD] at c;refine ⟨_,_,c,⟨h,.inr ⟨g,cap,_,rfl,J,jq news _ w A,s,y,by rw [vv];exact D,?_⟩⟩,cD w g _ news,.inl rfl⟩;rw [Tv,<- a.newsLen,vw news _ cur I,H]
   . have b:∀ j u,xs[j]?=Z4 u->w.cell? ((⟨g,0,Z5⟩:Addr).add j)=Z4 u:=f.cells (g:=g) rfl;have c:=run_append_grow_src (P:=P) (w:=w) t tx q e i z p l E (Z4 ⟨g,0,Z5⟩) n cap xs (run_firstCells_some w.drew i.size n ⟨g,0,Z5⟩ n cap xs f.1 (by simpa using b)) x m news a (by omega) (by omega) (growslice_fits (by omega) B);have d:=grown cap (Value.ownBlock (Z7 (Z4 ⟨g,0,Z5⟩) n cap));exact ⟨_,_,c,d.1,d.2,.inr rfl⟩
theorem af (w:Z2) {ops:Array Oper} {rest:List Oper} {o:Oper} {a:Act} {Q:Exit->Act->Z2->Prop} (g:o.guard=Z5) (s x:Operand) (t tx:TypeId)
 (ho:o.op=.call { callee:=.builtin .append,args:=#[s,x],argTypes:=#[t,tx] }) (base:Nat) (e:TypeId) (i:TypeInfo) (z:Z1) (size bytes:Nat) (ht:P.underlying t=Z4 (.slice e)) (hi:P.info? e=Z4 i) (hz:i.zero=Z4 z)
 (h5:i.size=size) (h8:i.bytes=bytes) (ha:z.cells.size=size) (v:Z1) (n:Nat) (xs:List Z1) (hv:a.eval s=v) (h6:w.ownsRow base e size v n xs)
 (u:Z1) (hu:a.eval x=u) (m:Nat) (news:List Z1) (hs:Src P size tx u m news w) (h7:n+m<=maxLen) (h0:(n+m)*bytes<=140737488355328) (h1:base<=w.heap.size)
 (h:∀ b w',w'.ownsRow base e size b (n+m) (xs++news)->w.grownBy w' v.ownBlock->(b.ownBlock=v.ownBlock\/b.ownBlock=Z4 w.heap.size)->wpList P ops Q rest (a.put o.dst b) w'):wpList P ops Q (o::rest) a w:=by
 obtain ⟨b,w',j,c,d,f⟩:=kR (P:=P) w base t tx o.type e i z size bytes ht hi hz h5 h8 ha v n xs h6 u m news hs h7 h0 h1;refine wpList_plain g λK hK=>?_;unfold Oper.wp execOp;simp only [ho,resolve,invoke,builtin,Sem.run_bind,Sem.run_pure,Result.andThen_ok,List.map_toArray,List.map_cons,List.map_nil,hv,hu,j];exact hK _ _ (h b w' c d f)
end
end Go.Proofs.YtfbmmcnpjhmjaaaGreatDoor
