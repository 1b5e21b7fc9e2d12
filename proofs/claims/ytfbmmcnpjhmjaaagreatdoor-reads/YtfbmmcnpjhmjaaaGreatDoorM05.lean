import Derived.Test.YtfbmmcnpjhmjaaaGreatDoorM03
set_option maxRecDepth 100000
set_option maxHeartbeats 8000000
open Go.IntKind renaming i64 -> Z9
open Go.Value renaming int -> Z8, pointer -> Z7, slice -> Z6
open Go.Obj renaming cells -> Z5
open Go.Ending renaming returned -> Z4
open Go.Operand renaming tmp -> Z3
open Go renaming undef -> Z2, World -> ZX, Value -> ZW, Calls -> ZU
open Option renaming none -> Z1, some -> Z0
open Bool renaming true -> ZZ, false -> ZY
open Go.RowKit renaming Below -> ZV
open List renaming range -> Tm, ext_getElem -> To, replicate -> Tq, mem_map -> Tr, length_map -> Ts, length_range -> Tt, getElem_set -> Tv, range_zero -> Tx, append_nil -> Ty, length_append -> Tz, append_assoc -> TA
open Array renaming getD_eq_getD_getElem? -> Tn, replicate -> TB
open Nat renaming zero_le -> Tp, lt_of_lt_of_le -> Tu, mul_le_mul_right -> Tw
open Go.Proofs.Tryz renaming prog -> ZT
namespace Go.Proofs.YtfbmmcnpjhmjaaaGreatDoor
open Go.RowKit
variable {a a':Act} {A:aB} {ops:Array Oper} {Q:Exit->Act->ZX->Prop} {Fc:Fence} {F:bx} {M:List (List Nat)} {T:List (Nat×Nat×List Nat)} {sh:List (Op×Option Nat×List Nat)} {p b l D g base n lo hi:Nat} {o:Oper} {P:Program} {v:ZW} {Vi:ZW->ZX->Prop} {w w1 wc w':ZX} {B S:ZX->Prop}
section
open Go.Deep
theorem zE (h:ay w p A F) (a:A.fit) (d b:Nat) (f:d<A.n) (t:b<A.nb) (x:A.wait≠0) (u:A.lost d=ZY) :
 ZU ZT 174 #[Z7 (Z0 ⟨p,0,Z1⟩),Z8 Z9 d,Z8 Z9 b] w λe w'=>e=Z4 (.tuple #[Z7 (Z0 ⟨F.g,d*4,Z1⟩),.nilIface])/\w'=w:=by
 obtain ⟨i,c1,_,_⟩:=h.p_cells;obtain ⟨j,d1,k,l⟩:=h.drvs d f;have v:=a.n;have s:=a.nb;have m:¬ (d:Int)<0:=by omega
 have o:¬ (A.n:Int)<=(d:Int):=by omega
 have c:(d:Int)<(A.n:Int):=by omega
 have q:¬ (b:Int)<0:=by omega
 have r:¬ (A.nb:Int)<=(b:Int):=by omega
 go_enter Tryz.func174,Tryz.ntmps174;go_wp2;go_ret2;exact ⟨rfl,rfl⟩
theorem Ig (h:ay w p A F) (i:A.fit) (d b:Nat) (f:d<A.n) (m:b<A.nb) (B:A.wait≠0) (z:A.lost d=ZY) (J:A.bad d b=ZY) :
 ZU ZT 159 #[Z7 (Z0 ⟨p,0,Z1⟩),Z8 Z9 d,Z8 Z9 b] w λe w'=>e=Z4 (.tuple #[.agg (an (A.blk d b)),.nilIface]) /\
  ay w' p (A.setReads d (wrap64 (A.reads d+1))) F/\aa (F.has p A.n) w w':=by
 have P:=zeroBlk;have j:=i.len d b;have O:=i.n;have hi:=i.nb;have a:=h.alloc (Z5 (an zb) 255);have r:=bG.new w zb;have N:=h.p_lt;have M:=h.g_lt;have o:aa (F.has p A.n) w (w.alloc (Z5 (an zb) 255)):=aa.alloc w _;obtain ⟨w1,y⟩:=nM (w.alloc (Z5 (an zb) 255));rw [y] at a r o;have K:(an zb).size=64:=by rw [bz,bD]
 go_enter Tryz.func159,Tryz.ntmps159;go_wp2_with fail;refine (zE a i d b f m B z).mono ?_;rintro e w' ⟨rfl,rfl⟩;have c:=a.setReads d (wrap64 (A.reads d+1));obtain ⟨D,d1,E,G⟩:=a.drvs d f;have L:=a.unfrozen (d*4+3);obtain ⟨w2,l⟩:=nM (w'.setCell ⟨F.g,d*4+3,Z1⟩ (Z8 Z9 (wrap64 (A.reads d+1))));rw [l] at c;obtain ⟨Q,R,S,U⟩:=c.drvs d f;have V:w2.cell? ⟨F.bd d,b,Z1⟩=Z0 (.bool (A.bad d b)):=c.badC d b f m;have C:w2.rangeAt (F.bb d) (b*64) (aH (A.blk d b)):=c.range (i.setReads _ _) d b f m;have s:bG w2 w.heap.size zb:=r.keep (by rw [<- l];exact blk_setCell_other _ _ _ _ (by show w.heap.size≠F.g;omega));have q:aa (F.has p A.n) w w2:=o.trans (by rw [<- l];exact aa.setCell _ _ _ (.inr (.inl rfl)));have H:¬ (b:Int)<0:=by omega
 have I:(b:Int)<(A.nb:Int):=by omega
 go_wp2_with (first|(refine BQ rfl (Z3 46) rfl (F.bb d) (b*64) (A.blk d b) rfl C j ?_)|(refine fZ rfl (Z3 6) (Z3 47) rfl w.heap.size (A.blk d b) zb rfl rfl s bD j ?_));have u:=s.setRow (A.blk d b);have x:=pQ u j;refine bodyPost_ret (v:=.tuple #[.agg (an (A.blk d b)),.nilIface]) (iO Tryz.results159 _ _ _ _ _ rfl rfl x) rfl ?_;refine ⟨rfl,c.keep λk t=>?_,q.later (T:=λk=>k=w.heap.size) (aa.setRow _ _ _ rfl) λk t e=>absurd e (by omega)⟩
 . have:=h.has_lt (k:=k) t;exact (aI w2 w.heap.size (an (A.blk d b))).block k (Tu this q.size) (λe=>by cases e;omega)
noncomputable def QY:Array Oper:=((Tryz.f155.body.bind (mD · 9))).getD #[]
def Qh:List (Op×Option Nat×List Nat):=[(Op.move (Z3 9),Z0 49,[]),
 (Op.nilCheck (Z3 49),Z0 50,[0]),
 (Op.fieldAddr 61 (Z3 50) 1,Z0 51,[1]),
 (Op.load 58 (Z3 51),Z0 52,[2]),
 (Op.move (Z3 2),Z0 53,[]),
 (Op.move (Z3 9),Z0 54,[]),
 (Op.nilCheck (Z3 54),Z0 55,[5]),
 (Op.fieldAddr 61 (Z3 55) 2,Z0 56,[6]),
 (Op.load 59 (Z3 56),Z0 57,[7]),
 (Op.move (Z3 2),Z0 58,[]),
 (Op.load 255 (Z3 7),Z0 59,[]),
 (Op.indexAddr 58 (Z3 52) (Z3 53),Z0 60,[3,4,0,1,2,3,4,8,10]),
 (Op.store 255 (Z3 60) (Z3 59),Z1,[11,10,0,1,2,3,4,8,10]),
 (Op.indexAddr 59 (Z3 57) (Z3 58),Z0 61,[8,9,0,1,2,3,4,5,6,7,8,9,10,11,12]),
 (Op.store 4 (Z3 61) (Operand.const (Value.bool ZY)),Z1,[13,12,0,1,2,3,4,5,6,7,8,9,10,11,12])]
theorem E9:aN QY 49 62 Qh:=bt (by kernel_rfl) (by kernel_rfl)
def Qi (F:bx) (nb d b:Nat) (l:List Nat):List ZW:=[Z7 (Z0 ⟨F.g,d*4,Z1⟩),Z7 (Z0 ⟨F.g,d*4,Z1⟩),Z7 (Z0 ⟨F.g,d*4+1,Z1⟩),Z6 (Z0 ⟨F.bb d,0,Z1⟩) nb nb,Z8 Z9 b,
 Z7 (Z0 ⟨F.g,d*4,Z1⟩),Z7 (Z0 ⟨F.g,d*4,Z1⟩),Z7 (Z0 ⟨F.g,d*4+2,Z1⟩),Z6 (Z0 ⟨F.bd d,0,Z1⟩) nb nb,Z8 Z9 b,.agg (an l),Z7 (Z0 ⟨F.bb d,b*64,Z1⟩),Z2,Z7 (Z0 ⟨F.bd d,b,Z1⟩),Z2]
def Li (F:bx) (nb d b:Nat) (l:List Nat):List ZW:=[Z7 (Z0 ⟨F.g,d*4,Z1⟩),Z7 (Z0 ⟨F.g,d*4,Z1⟩),Z7 (Z0 ⟨F.g,d*4+1,Z1⟩),Z6 (Z0 ⟨F.bb d,0,Z1⟩) nb nb,Z8 Z9 b,Z7 (Z0 ⟨F.g,d*4,Z1⟩),Z7 (Z0 ⟨F.g,d*4,Z1⟩),Z7 (Z0 ⟨F.g,d*4+2,Z1⟩),Z6 (Z0 ⟨F.bd d,0,Z1⟩) nb nb,Z8 Z9 b,.agg (an l),Z7 (Z0 ⟨F.bb d,b*64,Z1⟩),Z7 (Z0 ⟨F.bd d,b,Z1⟩)]
def jj (A:aB) (d b:Nat) (l:List Nat) (D:Nat->Bool):aB:=if D 14=ZZ then (A.setBlk d b l).setBad d b ZY else if D 12=ZZ then A.setBlk d b l else A
theorem Ih (A:aB) (d b:Nat) (l:List Nat) (D:Nat->Bool) (i:Nat) (a:i≠12) (c:i≠14):jj A d b l (dN D i)=jj A d b l D:=by
 unfold jj dN;rw [if_neg (λe:14=i=>c e.symm),if_neg (λe:12=i=>a e.symm)]
theorem wT (A:aB) (d b:Nat) (l:List Nat) (D:Nat->Bool):(jj A d b l D).n=A.n/\(jj A d b l D).nb=A.nb:=by
 unfold jj;split
 . exact ⟨rfl,rfl⟩
 . split<;>exact ⟨rfl,rfl⟩
theorem wU {d box:Nat} {l:List Nat} (W:QY=ops) (h:ay w p A F) (X:A.fit) (z:d<A.n) (K:b<A.nb) (G:l.length=64)
 (V:bG w box l) (L:¬ F.has p A.n box) (hj:a.tmps.size=62) (I:a.eval (Z3 9)=Z7 (Z0 ⟨F.g,d*4,Z1⟩)) (H:a.eval (Z3 2)=Z8 Z9 b) (M:a.eval (Z3 7)=Z7 (Z0 ⟨box,0,Z1⟩))
 (U:∀ w',ay w' p ((A.setBlk d b l).setBad d b ZY) F->aa (F.has p A.n) w w' ->
  Q .normal (Act.putFrom a 49 (Li F A.nb d b l)) w') :
 (Code.region 9 ops ZZ).wp ZT Q a w:=by
 subst W;have hh:=X.nb;have Z:¬ (b:Int)<0:=by omega
 have e4:(b:Int)<(A.nb:Int):=by omega
 refine bZ (by kernel_rfl) E9 a w (by omega) (λi v _=>v=(Qi F A.nb d b l).getD i Z2) (λD w'=>ay w' p (jj A d b l D) F/\bG w' box l/\aa (F.has p A.n) w w') ⟨(h.keep λ_ _=>rfl:ay w.drew p A F),V,aa.drew w⟩ ?_ ?_
 . intro i hi;have y:∀ (i:Nat),i≠12->i≠14->∀ (D:Nat->Bool) (w':ZX),(ay w' p (jj A d b l D) F/\bG w' box l/\aa (F.has p A.n) w w')->(ay w' p (jj A d b l (dN D i)) F/\bG w' box l/\aa (F.has p A.n) w w'):=λi N O D w' q=>by rw [Ih A d b l D i N O];exact q
   match i,hi with
   | 0,_=>exact λo a' w' D x ho m r t u k f j=>ab (ag ho ((r.slot 9 (by omega)).trans I) w') m ⟨y 0 (by decide) (by decide) D w' f,rfl,kq⟩
   | 1,_=>
    intro o a' w' D x ho m r t u k f j;have s:a'.eval (Z3 49)=Z7 (Z0 ⟨F.g,d*4,Z1⟩):=j 0 (k 0 (by decide));exact ab (v:=Z7 (Z0 ⟨F.g,d*4,Z1⟩)) (by simp only [execOp,show o.op=Op.nilCheck (Z3 49) from ho,s];go_simp) m ⟨y 1 (by decide) (by decide) D w' f,rfl,kq⟩
   | 2,_=>
    intro o a' w' D x ho m r t u k f j;have s:a'.eval (Z3 50)=Z7 (Z0 ⟨F.g,d*4,Z1⟩):=j 1 (k 1 (by decide));exact ab (v:=Z7 (Z0 ⟨F.g,d*4+1,Z1⟩)) (by simp only [execOp,show o.op=Op.fieldAddr 61 (Z3 50) 1 from ho,s];go_simp) m ⟨y 2 (by decide) (by decide) D w' f,rfl,kq⟩
   | 3,_=>
    intro o a' w' D x ho m r t u k f j;have s:a'.eval (Z3 51)=Z7 (Z0 ⟨F.g,d*4+1,Z1⟩):=j 2 (k 2 (by decide));have c:=(f.1.drvs d (by rw [(wT A d b l D).1];exact z)).2.1;rw [(wT A d b l D).2] at c;exact ab (v:=Z6 (Z0 ⟨F.bb d,0,Z1⟩) A.nb A.nb) (by simp only [execOp,show o.op=Op.load 58 (Z3 51) from ho,s];go_simp) m ⟨y 3 (by decide) (by decide) D w' f,rfl,kq⟩
   | 4,_=>exact λo a' w' D x ho m r t u k f j=>ab (ag ho ((r.slot 2 (by omega)).trans H) w') m ⟨y 4 (by decide) (by decide) D w' f,rfl,kq⟩
   | 5,_=>exact λo a' w' D x ho m r t u k f j=>ab (ag ho ((r.slot 9 (by omega)).trans I) w') m ⟨y 5 (by decide) (by decide) D w' f,rfl,kq⟩
   | 6,_=>
    intro o a' w' D x ho m r t u k f j;have s:a'.eval (Z3 54)=Z7 (Z0 ⟨F.g,d*4,Z1⟩):=j 5 (k 5 (by decide));exact ab (v:=Z7 (Z0 ⟨F.g,d*4,Z1⟩)) (by simp only [execOp,show o.op=Op.nilCheck (Z3 54) from ho,s];go_simp) m ⟨y 6 (by decide) (by decide) D w' f,rfl,kq⟩
   | 7,_=>
    intro o a' w' D x ho m r t u k f j;have s:a'.eval (Z3 55)=Z7 (Z0 ⟨F.g,d*4,Z1⟩):=j 6 (k 6 (by decide));exact ab (v:=Z7 (Z0 ⟨F.g,d*4+2,Z1⟩)) (by simp only [execOp,show o.op=Op.fieldAddr 61 (Z3 55) 2 from ho,s];go_simp) m ⟨y 7 (by decide) (by decide) D w' f,rfl,kq⟩
   | 8,_=>
    intro o a' w' D x ho m r t u k f j;have s:a'.eval (Z3 56)=Z7 (Z0 ⟨F.g,d*4+2,Z1⟩):=j 7 (k 7 (by decide));have c:=(f.1.drvs d (by rw [(wT A d b l D).1];exact z)).2.2.1;rw [(wT A d b l D).2] at c;exact ab (v:=Z6 (Z0 ⟨F.bd d,0,Z1⟩) A.nb A.nb) (by simp only [execOp,show o.op=Op.load 59 (Z3 56) from ho,s];go_simp) m ⟨y 8 (by decide) (by decide) D w' f,rfl,kq⟩
   | 9,_=>exact λo a' w' D x ho m r t u k f j=>ab (ag ho ((r.slot 2 (by omega)).trans H) w') m ⟨y 9 (by decide) (by decide) D w' f,rfl,kq⟩
   | 10,_=>
    intro o a' w' D x ho m r t u k f j;have s:a'.eval (Z3 7)=Z7 (Z0 ⟨box,0,Z1⟩):=(r.slot 7 (by omega)).trans M;exact ab (v:=.agg (an l)) (by simp [execOp,show o.op=Op.load 255 (Z3 7) from ho,s,mS f.2.1 G]) m ⟨y 10 (by decide) (by decide) D w' f,rfl,kq⟩
   | 11,_=>
    intro o a' w' D x ho m r t u k f j;have s:a'.eval (Z3 52)=Z6 (Z0 ⟨F.bb d,0,Z1⟩) A.nb A.nb:=j 3 (k 3 (by decide));have E:a'.eval (Z3 53)=Z8 Z9 b:=j 4 (k 4 (by decide));exact ab (v:=Z7 (Z0 ⟨F.bb d,b*64,Z1⟩)) (by simp only [execOp,show o.op=Op.indexAddr 58 (Z3 52) (Z3 53) from ho,s,E];go_simp) m ⟨y 11 (by decide) (by decide) D w' f,rfl,kq⟩
   | 12,_=>
    intro o a' w' D x ho m r t u k f j;have s:a'.eval (Z3 60)=Z7 (Z0 ⟨F.bb d,b*64,Z1⟩):=j 11 (k 11 (by decide));have E:a'.eval (Z3 59)=.agg (an l):=j 10 (k 10 (by decide));have J:D 14=ZY:=by
     cases q:D 14 with
     | false=>rfl
     | true=>have:=(u 14 q).2 12 (by decide);rw [t] at this;cases this
    have B:jj A d b l D=A:=(by unfold jj;rw [if_neg (by rw [J];decide),if_neg (by rw [t];decide)]);have C:jj A d b l (dN D 12)=A.setBlk d b l:=(by unfold jj dN;rw [if_neg (by rw [if_neg (by decide),J];decide),if_pos (by rw [if_pos rfl])]);rw [B] at f;refine iQ (w':=w'.setCells (F.bb d) (b*64) (aH l)) ?_ ⟨?_,rfl,kq⟩
    . have:=run_storeAt_mid (P:=ZT) w' (F.bb d) (b*64) 255 (an l) (by rw [bz,G];exact f.1.there d b z K) (eW G) (zm l);rw [uM] at this;simp [execOp,show o.op=Op.store 255 (Z3 60) (Z3 59) from ho,s,E,this]
    . show ay _ p (jj A d b l (dN D 12)) F/\_/\_;rw [C];refine ⟨f.1.setBlk d b z l G,f.2.1.keep (bC _ _ _ _ _ (λe=>L (.inr (.inr ⟨d,z,.inl e⟩)))),f.2.2.trans (aa.setCells _ _ _ _ (.inr (.inr ⟨d,z,.inl rfl⟩)))⟩
   | 13,_=>
    intro o a' w' D x ho m r t u k f j;have s:a'.eval (Z3 57)=Z6 (Z0 ⟨F.bd d,0,Z1⟩) A.nb A.nb:=j 8 (k 8 (by decide));have E:a'.eval (Z3 58)=Z8 Z9 b:=j 9 (k 9 (by decide));exact ab (v:=Z7 (Z0 ⟨F.bd d,b,Z1⟩)) (by simp only [execOp,show o.op=Op.indexAddr 59 (Z3 57) (Z3 58) from ho,s,E];go_simp) m ⟨y 13 (by decide) (by decide) D w' f,rfl,kq⟩
   | 14,_=>
    intro o a' w' D x ho m r t u k f j;have s:a'.eval (Z3 61)=Z7 (Z0 ⟨F.bd d,b,Z1⟩):=j 13 (k 13 (by decide));have R:D 12=ZZ:=k 12 (by decide);have B:jj A d b l D=A.setBlk d b l:=(by unfold jj;rw [if_neg (by rw [t];decide),if_pos R]);have C:jj A d b l (dN D 14)=(A.setBlk d b l).setBad d b ZY:=(by unfold jj dN;rw [if_pos (by rw [if_pos rfl])]);rw [B] at f;have c:=f.1.badC d b z K;have fz:=(f.1.bad d z).frozen b;refine iQ (w':=w'.setCell ⟨F.bd d,b,Z1⟩ (.bool ZY)) ?_ ⟨?_,rfl,kq⟩
    . simp only [execOp,show o.op=Op.store 4 (Z3 61) (.const (.bool ZY)) from ho,s];go_simp
    . show ay _ p (jj A d b l (dN D 14)) F/\_/\_;rw [C];exact ⟨f.1.setBad d b z ZY,f.2.1.keep (blk_setCell_other _ _ _ _ (λe=>L (.inr (.inr ⟨d,z,.inr e⟩)))),f.2.2.trans (aa.setCell _ _ _ (.inr (.inr ⟨d,z,.inr rfl⟩)))⟩
   | n+15,hn=>exact absurd hn (by show ¬ n+15<15;omega)
 . rintro a' w' r ⟨D,S,B,_,T⟩ j;have C:jj A d b l D=(A.setBlk d b l).setBad d b ZY:=(by unfold jj;rw [if_pos (S 14 (by decide))]);rw [C] at B;have Y:∀ i:Nat,i<13->a'.eval (.tmp (49+i))=(Li F A.nb d b l).getD i Z2:=by
    intro i hi;match i,hi with
    | 0,_=>exact j 0 (by decide)
    | 1,_=>exact j 1 (by decide)
    | 2,_=>exact j 2 (by decide)
    | 3,_=>exact j 3 (by decide)
    | 4,_=>exact j 4 (by decide)
    | 5,_=>exact j 5 (by decide)
    | 6,_=>exact j 6 (by decide)
    | 7,_=>exact j 7 (by decide)
    | 8,_=>exact j 8 (by decide)
    | 9,_=>exact j 9 (by decide)
    | 10,_=>exact j 10 (by decide)
    | 11,_=>exact j 11 (by decide)
    | 12,_=>exact j 13 (by decide)
    | n+13,hn=>exact absurd hn (by show ¬ n+13<13;omega)
   rw [r.out (Li F A.nb d b l) rfl (by omega) Y];exact U w' B T
theorem Fa (h:ay w p A F) (k:A.fit) (d b:Nat) (j:d<A.n) (i:b<A.nb) (y:A.wait<0) (t:A.lost d=ZY) (l:List Nat) (c:l.length=64) :
 ZU ZT 155 #[Z7 (Z0 ⟨p,0,Z1⟩),Z8 Z9 d,Z8 Z9 b,.agg (an l)] w λe w'=>e=Z4 .nilIface /\
  ay w' p ((A.setBlk d b l).setBad d b ZY) F/\aa (F.has p A.n) w w':=by
 have a:=h.alloc (Z5 (an l) 255);have g:=bG.new w l;have f:aa (F.has p A.n) w (w.alloc (Z5 (an l) 255)):=aa.alloc w _;have m:¬ F.has p A.n w.heap.size:=λq=>by have:=h.has_lt q;omega
 obtain ⟨w1,o⟩:=nM (w.alloc (Z5 (an l) 255));rw [o] at a g f;have v:(an l).size=64:=by rw [bz,c]
 obtain ⟨u,c1,_,_⟩:=a.p_cells;have x:¬ 0<A.wait:=by omega
 go_enter Tryz.func155,Tryz.ntmps155;go_wp2_with fail;refine (zE a k d b j i (by omega) t).mono ?_;rintro e w' ⟨rfl,rfl⟩;go_wp2_with fail;refine wU (by kernel_rfl) a k j i c g m rfl rfl rfl rfl ?_;intro z r s;rename_i hK
 refine hK _ _ ?_;simp only [Act.putFrom,Li];go_wp2;go_ret;exact ⟨rfl,r,f.trans s⟩
theorem Lj (h:aq w p A F) (_hf:A.fit) (d b:Nat) (m:d<A.n) (l:b<A.nb) (o:A.wait≠0) (g:A.lost d=ZY) (i:A.bad d b=ZY) :
 ZU ZT 159 #[Z7 (Z0 ⟨p,0,Z1⟩),Z8 Z9 d,Z8 Z9 b] w λe w'=>e=Z4 (.tuple #[.agg (an (A.blk d b)),.nilIface]) /\
  aq w' p (A.setReads d (wrap64 (A.reads d+1))) F/\aa (F.has p A.n) w w':=by
 obtain ⟨R,j,c,a⟩:=h;obtain ⟨q,r⟩:=a.here d g;refine (Ig j c d b (by rw [a.n];exact m) (by rw [a.nb];exact l) (by rw [a.wait];exact o) (by rw [a.lost];exact g) (by rw [r];exact i)).mono ?_;rintro e w' ⟨rfl,k,f⟩;rw [a.n] at f;exact ⟨by rw [q],⟨_,k,c.setReads _ _,by rw [a.reads];exact a.setReads _ _⟩,f⟩
theorem Ii (h:aq w p A F) (_hf:A.fit) (d b:Nat) (o:d<A.n) (m:b<A.nb) (r:A.wait<0) (q:A.lost d=ZY) (l:List Nat) (c:l.length=64) (j:∀ x∈l,x<256) :
 ZU ZT 155 #[Z7 (Z0 ⟨p,0,Z1⟩),Z8 Z9 d,Z8 Z9 b,.agg (an l)] w λe w'=>e=Z4 .nilIface /\
  aq w' p ((A.setBlk d b l).setBad d b ZY) F/\aa (F.has p A.n) w w':=by
 obtain ⟨R,i,f,a⟩:=h;refine (Fa i f d b (by rw [a.n];exact o) (by rw [a.nb];exact m) (by rw [a.wait];exact r) (by rw [a.lost];exact q) l c).mono ?_;rintro e w' ⟨rfl,k,g⟩;rw [a.n] at g;exact ⟨rfl,⟨_,k,(f.setBlk d b l c j).setBad d b ZY,a.put d b l⟩,g⟩
end
section
open Go.Deep
def cn (D L G:Int):Bool:=decide (1<=D/\D<=12/\1<=L/\L<=4/\0<=G/\G<=4/\D%L=0/\D+L+G<=16)
theorem zG {a b:Bool} (h:a=b):Ending.returned (.bool a)=Z4 (.bool b):=by rw [h]
theorem ea (D L G:Int) (w:ZX) (a:0<=D/\D<=100) (b:0<=L/\L<=100) (c:0<=G/\G<=100) :
 ZU ZT 9 #[.agg #[Z8 Z9 D,Z8 Z9 L,Z8 Z9 G]] w λe w'=>e=Z4 (Z8 Z9 (D+L+G))/\ZV w.heap.size w w':=by
 obtain ⟨d,f⟩:=a;obtain ⟨b1,b2⟩:=b;obtain ⟨c1,g⟩:=c;go_enter Tryz.func9,Tryz.ntmps9;go_wp2;go_ret;exact ⟨rfl,bA _ _⟩
theorem oV (D L G:Int) (w:ZX) :
 ZU ZT 59 #[.agg #[Z8 Z9 D,Z8 Z9 L,Z8 Z9 G]] w λe w'=>e=Z4 (.bool (cn D L G))/\ZV w.heap.size w w':=by
 go_enter Tryz.func59,Tryz.ntmps59;go_wp2_with (go_at_call 9;refine (ea D L G _ (by omega) (by omega) (by omega)).mono ?_;rintro e w' ⟨rfl,a⟩);all_goals go_ret
 . refine ⟨zG (b:=cn D L G) ?_,(bA _ _).trans (a.mono (by simp))⟩;unfold cn;rw [decide_eq_decide];constructor
   . intro h;exact ⟨by omega,by omega,by omega,by omega,by omega,by omega,by assumption,h⟩
   . intro h;exact h.2.2.2.2.2.2.2
 all_goals
  refine ⟨zG (b:=cn D L G) ?_,bA _ _⟩;unfold cn;symm;rw [decide_eq_false_iff_not];intro h;omega
end
section
open Go.Deep Gf
def dw (D i:Nat):List Nat:=(Tq D 0).set i 1
theorem zH (D L G i:Nat) (f:D<=12) (hi:i<D) (w:ZX) :
 ZU ZT 60 #[.agg #[Z8 Z9 D,Z8 Z9 L,Z8 Z9 G],Z8 Z9 i] w λe w'=>∃ b,e=Z4 (Z6 (Z0 ⟨b,0,Z1⟩) D D)/\w.heap.size<=b/\aM w' b (dw D i)/\ZV w.heap.size w w':=by
 go_enter Tryz.func60,Tryz.ntmps60;go_wp2_with (at_make;refine eB _ rfl (Z3 7) (Z3 7) rfl D D rfl rfl rfl (by omega) ?_;intro w1 a c d;rw [nblk_alloc] at a c d;have g:=a.cell i (by simpa using hi);have h:=a.frozen i);go_ret;refine ⟨w.heap.size+1,rfl,by omega,?_,?_⟩
 . exact a.set i 1
 . exact ((bA _ _).trans (c.mono (by omega))).setCell (by simp) _
def dO (D L g:Nat):List Nat:=(Tm D).map λj=>if g*(D/L)<=j/\j<(g+1)*(D/L) then 1 else 0
def iU (D s k:Nat):List Nat:=(Tm D).map λj=>if s<=j/\j<k then 1 else 0
theorem uk (D s:Nat):iU D s s=Tq D 0:=by
 unfold iU;apply To
 . simp
 . intro i a b;simp
theorem wX (D s k:Nat) (d:s<=k):(iU D s k).set k 1=iU D s (k+1):=by
 unfold iU;apply To
 . simp
 . intro i b c;simp [Tv];by_cases e:k=i
   . subst e;simp;omega
   . simp only [if_neg e];by_cases a:s<=i/\i<k
     . rw [if_pos a,if_pos ⟨a.1,by omega⟩]
     . rw [if_neg a,if_neg (by omega)]
theorem Iq {L:Nat} (a:D%L=0) (b:g<L):(g+1)*(D/L)<=D:=by
 have c:(g+1)*(D/L)<=L*(D/L):=Tw _ b;have d:L*(D/L)=D:=Nat.mul_div_cancel' (Nat.dvd_of_mod_eq_zero a);omega
theorem wY (D L G g:Nat) (E:D<=12) (F:1<=L) (H:L<=4) (n:D%L=0) (y:g<L) (w:ZX) :
 ZU ZT 61 #[.agg #[Z8 Z9 D,Z8 Z9 L,Z8 Z9 G],Z8 Z9 g] w λe w'=>∃ b,e=Z4 (Z6 (Z0 ⟨b,0,Z1⟩) D D)/\w.heap.size<=b/\aM w' b (dO D L g)/\ZV w.heap.size w w':=by
 have M:=Iq n y;have N:D/L<=D:=Nat.div_le_self _ _;have f:dO D L g=iU D (g*(D/L)) ((g+1)*(D/L)):=rfl;have B:wrap64 ((D:Int)/(L:Int))=((D/L:Nat):Int):=by
  rw [<- Int.natCast_ediv];exact fH (by omega)
 generalize D/L=q at *;have r:g*q<=(g+1)*q:=Tw _ (by omega);have m:wrap64 ((g:Int)*(q:Int))=((g*q:Nat):Int):=by
  rw [<- Int.natCast_mul];unfold wrap64;omega
 have C:wrap64 (((g:Int)+1)*(q:Int))=(((g+1)*q:Nat):Int):=by
  have:((g:Int)+1)*(q:Int)=(((g+1)*q:Nat):Int):=by push_cast;rfl
  rw [this];unfold wrap64;omega
 generalize g*q=s at *;generalize (g+1)*q=t at *;have l:=hide f;clear f;go_enter Tryz.func61,Tryz.ntmps61;go_wp2_with (at_make;refine eB _ rfl (Z3 9) (Z3 9) rfl D D rfl rfl rfl (by omega) ?_;intro w1 d a A;rw [nblk_alloc] at d a A;have z:=a.cell (p:=⟨w.heap.size,0,Z1⟩) (by simp);have x:=a.cell (p:=⟨w.heap.size,1,Z1⟩) (by simp));rw [<- uk D s] at d;go_loopw [7] (λi wr=>∃ k:Nat,s<=k/\k<=t/\i=Z8 Z9 k/\aM wr (w.heap.size+1) (iU D s k)/\ZV w.heap.size w wr) (λi _=>t-(intOf i).toNat)
 case atStart=>exact ⟨s,Nat.le_refl _,r,by rw [m],d,(bA _ _).trans (a.mono (by omega))⟩
 case round=>
  obtain ⟨k,u,J,rfl,c,j⟩:=hrel;clear d a z x;by_cases hi:k<t
  . have I:=c.cell k (by simp [iU];omega);have K:=c.frozen k;have h:=c.set k 1;rw [wX _ _ _ u] at h;have o:=j.setCell (p:=⟨w.heap.size+1,k,Z1⟩) (by simp) (Z8 .u8 1);go_wp2;go_roundw
    case rel=>exact ⟨k+1,by omega,by omega,by go_num,h,o⟩
    case measure=>simp [intOf];omega
  . have v:k=t:=(by omega);subst v;go_wp2;go_ret;exact ⟨w.heap.size+1,rfl,by omega,by rw [l.out];exact c,j⟩
def cd (D i:Nat):List Nat:=(Tm D).map λj=>gi ((D+i)^^^j)
def fu (D i k:Nat):List Nat:=(Tm D).map λj=>if j<k then gi ((D+i)^^^j) else 0
theorem rN (D i:Nat):fu D i 0=Tq D 0:=by
 unfold fu;apply To
 . simp
 . intro j a b;simp
theorem wZ (D i:Nat):fu D i D=cd D i:=by
 unfold fu cd;apply To
 . simp
 . intro j a b;simp at a;simp [a]
theorem uo (D i k:Nat):(fu D i k).set k (gi ((D+i)^^^k))=fu D i (k+1):=by
 unfold fu;apply To
 . simp
 . intro j b c;simp [Tv];by_cases e:k=j
   . subst e;simp
   . simp only [if_neg e];by_cases a:j<k
     . rw [if_pos a,if_pos (by omega)]
     . rw [if_neg a,if_neg (by omega)]
theorem Ir (D i j:Nat) (a:D<=12) (hi:i<=4) (b:j<D):(D+i)^^^j<256/\bits .xor .i64 ((D:Int)+(i:Int)) (j:Int)=(((D+i)^^^j:Nat):Int):=by
 refine ⟨jU (by omega) (by omega),?_⟩;have:=Ld (D+i) j (by omega) (by omega);rw [<- this];congr 1
theorem uq (D L G i:Nat) (s:D<=12) (hi:i<=4) (w:ZX) :
 ZU ZT 62 #[.agg #[Z8 Z9 D,Z8 Z9 L,Z8 Z9 G],Z8 Z9 i] w λe w'=>∃ b,e=Z4 (Z6 (Z0 ⟨b,0,Z1⟩) D D)/\w.heap.size<=b/\aM w' b (cd D i)/\ZV w.heap.size w w':=by
 go_enter Tryz.func62,Tryz.ntmps62;go_wp2_with (at_make;refine eB _ rfl (Z3 8) (Z3 8) rfl D D rfl rfl rfl (by omega) ?_;intro w1 c d t;rw [nblk_alloc] at c d t;have f:=d.cell (p:=⟨w.heap.size,0,Z1⟩) (by simp));rw [<- rN D i] at c;simp at f;go_loopw [12] (λj wr=>∃ k:Nat,k<=D/\j=Z8 Z9 k/\aM wr (w.heap.size+1) (fu D i k)/\wr.cell? ⟨w.heap.size,0,Z1⟩=Z0 (Z8 Z9 D)/\ZV w.heap.size w wr) (λj _=>D-(intOf j).toNat)
 case atStart=>exact ⟨0,Tp _,rfl,c,f,(bA _ _).trans (d.mono (by omega))⟩
 case round=>
  obtain ⟨k,A,rfl,a,q,h⟩:=hrel;clear c d f;by_cases n:k<D
  . have y:=a.cell k (by simp [fu];omega);have z:=a.frozen k;obtain ⟨r,u⟩:=Ir D i k s hi n;have g:=a.set k (gi ((D+i)^^^k));rw [uo] at g;have l:=h.setCell (p:=⟨w.heap.size+1,k,Z1⟩) (by simp) (Z8 .u8 (gi ((D+i)^^^k)));have o:(wr.setCell ⟨w.heap.size+1,k,Z1⟩ (Z8 .u8 (gi ((D+i)^^^k)))).cell? ⟨w.heap.size,0,Z1⟩=Z0 (Z8 Z9 D):=(by rw [<- q];exact World.cell?_of_block (blk_setCell_other _ _ _ _ (by simp)));generalize (D+i)^^^k=x at *;have v:(x:Int)<256:=(by omega);go_wp2_with (go_at_call 90;refine (qU x r _).mono ?_;rintro e w' ⟨rfl,rfl⟩);go_roundw
    case rel=>exact ⟨k+1,by omega,by go_num,g,o,l⟩
    case measure=>simp [intOf];omega
  . have m:k=D:=(by omega);subst m;rw [wZ] at a;go_wp2;go_ret;exact ⟨w.heap.size+1,rfl,by omega,a,h⟩
end
section
open Go.Deep Gf
def aL (D L G:Nat):List (List Nat):=(Tm D).map (dw D)++(Tm L).map (dO D L)++(Tm G).map (cd D)
def cZ (T:List (Nat×Nat×List Nat)) (D:Nat) (M:List (List Nat)):Prop:=T.map (λp=>p.2)=M.map (λr=>(D,r))
theorem cZ.push (h:cZ T D M) (b:Nat) (r:List Nat):cZ (T++[(b,D,r)]) D (M++[r]):=by
 unfold cZ at *;simp [h]
theorem cZ.length (h:cZ T D M):T.length=M.length:=by
 have:=congrArg List.length h;simpa using this
theorem Is (D i:Nat):(dw D i).length=D/\∀ x∈dw D i,x<256:=by
 refine ⟨by simp [dw],λx a=>?_⟩;rcases List.mem_or_eq_of_mem_set a with h|h
 . have:=List.eq_of_mem_replicate h;omega
 . omega
theorem Fh (D L g:Nat):(dO D L g).length=D/\∀ x∈dO D L g,x<256:=by
 refine ⟨by simp [dO],λx a=>?_⟩;obtain ⟨j,_,rfl⟩:=Tr.1 a;split<;>decide
theorem Ci (D i:Nat) (c:D<=12) (hi:i<=4):(cd D i).length=D/\∀ x∈cd D i,x<256:=by
 refine ⟨by simp [cd],λx b=>?_⟩;obtain ⟨j,a,rfl⟩:=Tr.1 b;exact cY (jU (by omega) (by have:=List.mem_range.1 a;omega))
theorem iL.append {w2:ZX} {v':ZW} {r:List Nat} {o:Obj} (h:iL w base v T) (g:ZV w.heap.size w w1) (k:base<=w.heap.size) (l:w.heap.size<=b) (f:aM w1 b r) (a:r.length=D/\∀ x∈r,x<256) (m:D<=1000000)
 (i:(w1.alloc o).grownBy w2 v.ownBlock) (c:w2.ownsRow base 34 1 v' (T.length+1) (T.map lg++[Z6 (Z0 ⟨b,0,Z1⟩) D D])):iL w2 base v' (T++[(b,D,r)]):=by
 have d:=(h.below g).alloc o;refine d.push i (p:=(b,D,r)) ?_ ⟨by show base<=b;omega,f.alloc o,by show D<=r.length;omega,⟨by show D<=140737488355328;omega,by show r.length<=9223372036854775807;omega⟩,a.2⟩ ?_
 . have e:lg (b,D,r)=Z6 (Z0 ⟨b,0,Z1⟩) D D:=(by unfold lg;simp [a.1]);rw [e];exact c
 . intro q j;have:=(h.row q j).2.1.lt;show q.1≠b;omega
theorem fK {wx:ZX} {a b c:ZW} {t:TypeId} (h:ZV (w.heap.size+1) (w.alloc (Z5 #[a,b,c] t)) wx) :
 wx.cell? ⟨w.heap.size,0,Z1⟩=Z0 a/\wx.cell? ⟨w.heap.size,1,Z1⟩=Z0 b/\wx.cell? ⟨w.heap.size,2,Z1⟩=Z0 c:=by
 have d:=h.cell (p:=⟨w.heap.size,0,Z1⟩) (by simp);have e:=h.cell (p:=⟨w.heap.size,1,Z1⟩) (by simp);have f:=h.cell (p:=⟨w.heap.size,2,Z1⟩) (by simp);rw [World.cell?_alloc_at _ _ _ _ rfl] at d e f;exact ⟨d,e,f⟩
theorem Cj {B:Nat} {w0 wa wb:ZX} (c:ZV B w0 wa) (b:B<=wa.heap.size) (a:ZV wa.heap.size wa wb) (d:wb.grownBy wc Z1):ZV B w0 wc:=
 (c.trans (a.mono b)).grown d (by have:=a.size;omega) (λk e=>by simp at e)
theorem iL.made {cap:Nat} (h:wc.ownsRow base 34 1 (Z6 (Z0 ⟨g,0,Z1⟩) 0 cap) 0 []):iL wc base (Z6 (Z0 ⟨g,0,Z1⟩) 0 cap) []:=
 ⟨h,λp a=>by simp at a,by simp⟩
theorem cZ.nil (D:Nat):cZ [] D []:=rfl
theorem mY {α:Type} (f:Nat->α) (k:Nat):(Tm (k+1)).map f=(Tm k).map f++[f k]:=by
 rw [List.range_succ,List.map_append];rfl
theorem jZ (D L G:Nat) (Y:cn D L G=ZZ) (C:D<=12) (S:1<=L) (V:L<=4) (X:G<=4) (U:D%L=0) (w:ZX) :
 ZU ZT 41 #[.agg #[Z8 Z9 D,Z8 Z9 L,Z8 Z9 G]] w λe w'=>∃ v T,e=Z4 (.tuple #[v,.nilIface])/\iL w' (w.heap.size+1) v T/\cZ T D (aL D L G)/\ZV w.heap.size w w':=by
 obtain ⟨I,hi,E,F,H⟩:=info_parts Tryz.infoBytes;go_enter Tryz.func41,Tryz.ntmps41;go_wp2_with fail;refine (oV D L G _).mono ?_;rintro e wa ⟨rfl,x⟩;rw [nblk_alloc] at x;have Q:=x.size;rw [nblk_alloc] at Q;obtain ⟨o,p,q⟩:=fK x;go_wp2_with fail;refine (ea D L G _ (by omega) (by omega) (by omega)).mono ?_;rintro e W ⟨rfl,J⟩;have Z:=J.size;clear o p q;go_wp2_with (at_make;refine wpList_make_own _ rfl (.const (Z8 Z9 0)) (Z3 13) 95 rfl (w.heap.size+1) 34 I (Z6 Z1 0 0) 1 Tryz.underlying95 hi E F .i64 .i64 (D+L+G) (D+L+G) rfl rfl (by omega) (by rw [H];omega) (by unfold maxLen;omega) (by omega) ?_;intro wc O M;have K:=Cj x Q J M;obtain ⟨o,p,q⟩:=fK K);have a:=iL.made O;have k6:=M.size;clear O M x J;generalize Value.slice (Z0 ⟨W.heap.size,0,Z1⟩) 0 (D+L+G)=v0 at *;go_loopw [4,17] (λv i wr=>∃ k T,k<=D/\i=Z8 Z9 (k:Nat)/\iL wr (w.heap.size+1) v T/\cZ T D ((Tm k).map (dw D))/\ZV (w.heap.size+1) (w.alloc (Z5 #[Z8 Z9 D,Z8 Z9 L,Z8 Z9 G] 25)) wr/\w.heap.size+1<=wr.heap.size) (λ_ i _=>D-(intOf i).toNat)
 case atStart=>exact ⟨0,[],Tp _,rfl,a,cZ.nil D,K,by omega⟩
 case round=>
  clear a K o p q;obtain ⟨k,T,B,rfl,a,d,f,j⟩:=hrel;obtain ⟨o,p,q⟩:=fK f;by_cases r:k<D
  . have m:=d.length;rw [Ts,Tt] at m;have N:T.length<=12:=(by omega);clear m;have h:=hide d;clear d;go_wp2_with fail;refine (zH D L G k C r _).mono ?_;rintro e w1 ⟨b,rfl,t,n,c⟩;have P:=c.size;go_wp2_with (at_builtin;refine wpList_append_own _ rfl (Z3 20) (Z3 24) 95 rfl (w.heap.size+1) 34 I (Z6 Z1 0 0) 1 24 Tryz.underlying95 hi E F H rfl (by decide) _ T.length (T.map lg) rfl ((a.below c).alloc _).own ⟨w1.heap.size,0,Z1⟩ 1 1 [Z6 (Z0 ⟨b,0,Z1⟩) D D] rfl rfl (cell_one_new _ _ _) (by simp [Value.oneCell']) (by unfold maxLen;omega) (by omega) (by rw [nblk_alloc];omega) ?_;intro R w2 l g z);have s:=iL.append a c j t n (Is D k) (by omega) g l;have u:=jV a f c j g;have A:=g.size;rw [nblk_alloc] at A;clear a l g z n c f;go_roundw
    case rel=>exact ⟨k+1,_,by omega,by go_num,s,by rw [mY];exact h.out.push b _,u,by omega⟩
    case measure=>simp [intOf];omega
  . have y:D=k:=(by omega);clear r B;subst y;have h:=hide d;clear d;go_wp2_with fail;go_loopw [4,29] (λv i wr=>∃ k T,k<=L/\i=Z8 Z9 (k:Nat)/\iL wr (w.heap.size+1) v T/\cZ T D ((Tm D).map (dw D)++(Tm k).map (dO D L))/\ZV (w.heap.size+1) (w.alloc (Z5 #[Z8 Z9 D,Z8 Z9 L,Z8 Z9 G] 25)) wr/\w.heap.size+1<=wr.heap.size) (λ_ i _=>L-(intOf i).toNat)
    case atStart=>exact ⟨0,T,Tp _,rfl,a,by rw [Tx,List.map_nil,Ty];exact h.out,f,j⟩
    case round=>
     clear a f o p q h j;obtain ⟨k,T,B,rfl,a,d,f,j⟩:=hrel;obtain ⟨o,p,q⟩:=fK f;by_cases r:k<L
     . have m:=d.length;simp only [Tz,Ts,Tt] at m;have N:T.length<=20:=(by omega);clear m;have h:=hide d;clear d;go_wp2_with fail;refine (wY D L G k C S V U r _).mono ?_;rintro e w1 ⟨b,rfl,t,n,c⟩;have P:=c.size;go_wp2_with (at_builtin;refine wpList_append_own _ rfl (Z3 32) (Z3 36) 95 rfl (w.heap.size+1) 34 I (Z6 Z1 0 0) 1 24 Tryz.underlying95 hi E F H rfl (by decide) _ T.length (T.map lg) rfl ((a.below c).alloc _).own ⟨w1.heap.size,0,Z1⟩ 1 1 [Z6 (Z0 ⟨b,0,Z1⟩) D D] rfl rfl (cell_one_new _ _ _) (by simp [Value.oneCell']) (by unfold maxLen;omega) (by omega) (by rw [nblk_alloc];omega) ?_;intro R w2 l g z);have s:=iL.append a c j t n (Fh D L k) (by omega) g l;have u:=jV a f c j g;have A:=g.size;rw [nblk_alloc] at A;clear a l g z n c f;go_roundw
       case rel=>exact ⟨k+1,_,by omega,by go_num,s,by rw [mY,<- TA];exact h.out.push b _,u,by omega⟩
       case measure=>simp [intOf];omega
     . have y:L=k:=(by omega);clear r B;subst y;have h:=hide d;clear d;go_wp2_with fail;go_loopw [4,41] (λv i wr=>∃ k T,k<=G/\i=Z8 Z9 (k:Nat)/\iL wr (w.heap.size+1) v T/\cZ T D (((Tm D).map (dw D)++(Tm L).map (dO D L))++(Tm k).map (cd D))/\ZV (w.heap.size+1) (w.alloc (Z5 #[Z8 Z9 D,Z8 Z9 L,Z8 Z9 G] 25)) wr/\w.heap.size+1<=wr.heap.size) (λ_ i _=>G-(intOf i).toNat)
       case atStart=>exact ⟨0,T,Tp _,rfl,a,by rw [Tx,List.map_nil,Ty];exact h.out,f,j⟩
       case round=>
        clear a f o p q h j;obtain ⟨k,T,B,rfl,a,d,f,j⟩:=hrel;obtain ⟨o,p,q⟩:=fK f;by_cases r:k<G
        . have m:=d.length;simp only [Tz,Ts,Tt] at m;have N:T.length<=20:=(by omega);clear m;have h:=hide d;clear d;go_wp2_with fail;refine (uq D L G k C (by omega) _).mono ?_;rintro e w1 ⟨b,rfl,t,n,c⟩;have P:=c.size;go_wp2_with (at_builtin;refine wpList_append_own _ rfl (Z3 44) (Z3 48) 95 rfl (w.heap.size+1) 34 I (Z6 Z1 0 0) 1 24 Tryz.underlying95 hi E F H rfl (by decide) _ T.length (T.map lg) rfl ((a.below c).alloc _).own ⟨w1.heap.size,0,Z1⟩ 1 1 [Z6 (Z0 ⟨b,0,Z1⟩) D D] rfl rfl (cell_one_new _ _ _) (by simp [Value.oneCell']) (by unfold maxLen;omega) (by omega) (by rw [nblk_alloc];omega) ?_;intro R w2 l g z);have s:=iL.append a c j t n (Ci D k C (by omega)) (by omega) g l;have u:=jV a f c j g;have A:=g.size;rw [nblk_alloc] at A;clear a l g z n c f;go_roundw
          case rel=>exact ⟨k+1,_,by omega,by go_num,s,by rw [mY,<- TA];exact h.out.push b _,u,by omega⟩
          case measure=>simp [intOf];omega
        . have y:G=k:=(by omega);clear r B;subst y;have h:=hide d;clear d;go_wp2;go_ret2;refine ⟨_,T,rfl,a,h.out,?_⟩;exact (bA _ _).trans (f.mono (by omega))
end
section
open Go.Shelf
def Eg (Fc:Fence) (n:Nat) (P:Program) (Q:Exit->Act->ZX->Prop) (lo hi:Nat) (sh:List (Op×Option Nat×List Nat)) (a0:Act) (V:Nat->ZW->ZX->Prop) (B:(Nat->Bool)->ZX->Prop) (i:Nat):Prop:=
 ∀ (o:Oper) (a:Act) (w:ZX) (D:Nat->Bool),o.guard=Z1->o.op=(bV sh i).1->o.dst=(bV sh i).2.1->dM lo hi a0 a->D i=ZY->(∀ j,D j=ZZ->j<sh.length/\∀ k∈(bV sh j).2.2,D k=ZZ) ->
  (∀ k∈(bV sh i).2.2,D k=ZZ)->B D w->(∀ j,D j=ZZ->V j (cM (bV sh j).2.1 a) w) ->
  o.wpIn Fc n P a w (λa' w'=>∃ v,a'=a.put o.dst v/\(o.dst=Z1->v=Z2)/\B (dN D i) w'/\V i v w'/\∀ j u,D j=ZZ->V j u w->V j u w') Q
theorem CK (x:aN ops lo hi sh) (p:Act) (hy:hi<=p.tmps.size)
 (V:Nat->ZW->ZX->Prop) (B:(Nat->Bool)->ZX->Prop) (Z:∀ i,i<sh.length->Eg Fc n P Q lo hi sh p V B i)
 (hh:∀ (a:Act) (w:ZX),dM lo hi p a->(∀ s,(∀ i,i<sh.length->(bV sh i).2.1≠Z0 s)->a.eval (.tmp s)=p.eval (.tmp s))->(∃ D,(∀ i,i<sh.length->D i=ZZ)/\B D w)->(∀ i,i<sh.length->V i (cM (bV sh i).2.1 a) w)->Q .normal a w) :
 ∀ (f:Nat) (listed:Array Bool) (a:Act) (w:ZX),listed.size=sh.length->fJ listed=f->dM lo hi p a->(∀ s,(∀ i,i<sh.length->(bV sh i).2.1≠Z0 s)->a.eval (.tmp s)=p.eval (.tmp s))->(∀ j,listed.getD j ZY=ZZ->j<sh.length/\∀ k∈(bV sh j).2.2,listed.getD k ZY=ZZ)->B (λj=>listed.getD j ZY) w ->
  (∀ i,listed.getD i ZY=ZZ->V i (cM (bV sh i).2.1 a) w)->wpAnyIn Fc n P .any ops Q f listed a w:=by
 have k5:=x.size;have X:∀ listed:Array Bool,listed.size=sh.length->fJ listed≠0->Region.ready .any ops listed≠[]:=by
  intro listed I y hr;have hg:∀ i,i<sh.length->listed.getD i ZY=ZZ:=by
   intro i;induction i using Nat.strongRecOn with
   | ind i ih=>
    intro c;by_cases g:listed.getD i ZY=ZZ
    . exact g
    . exfalso;have z:i∈Region.ready .any ops listed:=gU.2 ⟨by omega,by simpa [Tn,show i<listed.size by omega] using g,λk m=>by
       obtain ⟨o,_,_,_,_,e⟩:=x.get i c;rw [e] at m;have:=x.early i c k m;exact ih k this (by omega)⟩
      rw [hr] at z;cases z
  apply y;unfold fJ;rw [List.length_eq_zero_iff,List.filter_eq_nil_iff];intro b Y;obtain ⟨i,c,rfl⟩:=List.getElem_of_mem Y;have hz:i<listed.size:=by simpa using c
  have:=hg i (by omega);simp [Tn,hz] at this;simp [this]
 intro f;induction f with
 | zero=>
  intro listed a w I y m J G K F;refine ⟨?_,hh a w m J ⟨_,λi c=>eY y i (by omega),K⟩ λi c=>F i (eY y i (by omega))⟩;rw [List.eq_nil_iff_forall_not_mem];intro i z;obtain ⟨W,r,_⟩:=gU.1 z;have:=eY y i (by omega);simp [Tn,show i<listed.size by omega] at this r;rw [this] at r;cases r
 | succ f ih=>
  intro listed a w I y m J G K F;refine ⟨λe=>absurd e (X listed I (by omega)),λi z=>?_⟩;obtain ⟨W,r,N⟩:=gU.1 z;have c:i<sh.length:=by omega
  have R:i<listed.size:=by omega
  obtain ⟨o,T,U,A,L,M⟩:=x.get i c;have hq:listed.getD i ZY=ZY:=by simpa [Tn,R] using r
  have E:∀ j,(listed.setIfInBounds i ZZ).getD j ZY=dN (λj=>listed.getD j ZY) i j:=by
   intro j;unfold dN;by_cases l:j=i
   . subst l;rw [if_pos rfl];simp [Tn,R]
   . rw [if_neg l,Tn,Array.getElem?_setIfInBounds,if_neg (λq:i=j=>l q.symm),<- Tn]
  unfold wpOpIn;rw [T];show if Region.wanted o (yielded ops a.tmps)=ZZ then _ else _;rw [if_pos (by simp [Region.wanted,L])];refine (Oper.wpIn_mono (λa' w' h=>?_) (Z i c o a w (λj=>listed.getD j ZY) L U A m hq G (λk t=>?_) K F))
  . obtain ⟨v,rfl,hu,hp,hv,k0⟩:=h;have O:∀ d,o.dst=Z0 d->lo<=d/\d<hi:=λd g=>by rw [A] at g;exact (x.slots i i d c c g).1
    refine ih _ _ _ (by simpa using I) (by have:=rE r;omega) (m.put v O) (λs S=>?_) (λj H=>?_) ?_ λj u=>?_
    . refine Eq.trans ?_ (J s S);cases g:o.dst with
      | none=>rfl
      | some d=>exact gZ _ _ _ _ (λe=>S i c (by rw [show (bV sh i).2.1=o.dst from A.symm,g,e]))
    . rw [E] at H;unfold dN at H;by_cases l:j=i
      . subst l;refine ⟨c,λk t=>?_⟩;rw [E];unfold dN;by_cases C:k=j
        . rw [if_pos C]
        . rw [if_neg C];rw [<- M] at t;exact N k t
      . rw [if_neg l] at H;obtain ⟨q1,q2⟩:=G j H;refine ⟨q1,λk t=>?_⟩;rw [E];unfold dN;by_cases C:k=i
        . rw [if_pos C]
        . rw [if_neg C];exact q2 k t
    . have e:(λj=>(listed.setIfInBounds i ZZ).getD j ZY)=dN (λj=>listed.getD j ZY) i:=funext E;rw [e];exact hp
    . rw [E] at u;unfold dN at u;by_cases l:j=i
      . subst l;have:cM (bV sh j).2.1 (a.put o.dst v)=v:=by
         show cM (sh.getD j (.move (.const Z2),Z1,[])).2.1 (a.put o.dst v)=v;rw [<- A];cases g:o.dst with
         | none=>exact (hu g).symm
         | some d=>exact qV _ _ _ (Tu (O d g).2 (by rw [m.size];exact hy))
        rw [this];exact hv
      . rw [if_neg l] at u;have:cM (bV sh j).2.1 (a.put o.dst v)=cM (bV sh j).2.1 a:=by
         cases hx:(bV sh j).2.1 with
         | none=>rfl
         | some d'=>
          cases g:o.dst with
          | none=>rfl
          | some d=>
           refine gZ _ _ _ _ λq=>l ?_;subst q;rw [A] at g;exact (x.slots j i d (G j u).1 c hx).2 g
        rw [this];exact k0 j _ u (F j u)
  . exact N k (by rw [M];exact t)
theorem dK {m:Nat} (r:P.follows .mixedOrders=ZZ) (f:aN ops lo hi sh) (b:Act) (d:ZX) (o:hi<=b.tmps.size)
 (V:Nat->ZW->ZX->Prop) (B:(Nat->Bool)->ZX->Prop) (q:B (λ_=>ZY) d.drew) (k:∀ i,i<sh.length->Eg Fc n P Q lo hi sh b V B i)
 (l:∀ (a:Act) (w:ZX),dM lo hi b a->(∀ s,(∀ i,i<sh.length->(bV sh i).2.1≠Z0 s)->a.eval (.tmp s)=b.eval (.tmp s))->(∃ D,(∀ i,i<sh.length->D i=ZZ)/\B D w)->(∀ i,i<sh.length->V i (cM (bV sh i).2.1 a) w)->Q .normal a w):(Code.region m ops ZZ).wpIn Fc n P Q b d:=by
 refine wpIn_region_any r ?_;have p:=f.size;have c:∀ i,(TB ops.size ZY).getD i ZY=ZY:=λi=>by
  simp only [Tn,Array.getElem?_replicate];split<;>rfl
 refine CK f b o V B k l _ _ b d.drew (by simp [p]) ?_ (dM.refl _ _ _) (λ_ _=>rfl) (λj g=>?_) ?_ λi h=>?_
 . unfold fJ;simp
 . rw [c] at g;cases g
 . have e:(λj=>(TB ops.size ZY).getD j ZY)=λ_=>ZY:=funext c;rw [e];exact q
 . rw [c] at h;cases h
theorem aT (g:(execOp a.eval o).run P w=.ok (.value v) w') (b:∀ c,o.op≠.defer c) {d:Nat} (f:o.dst=Z0 d) (h:B w'/\Vi v w'/\S w') :
 o.wpIn (Fence.wide.inRound l) n P a w (λa' w'=>∃ v,a'=a.put o.dst v/\(o.dst=Z1->v=Z2)/\B w'/\Vi v w'/\S w') Q:=by
 refine ⟨λ_ _=>trivial,?_⟩;rw [Oper.semAt_plain _ _ _ b,g];exact ⟨v,rfl,λe=>(by rw [f] at e;cases e),h.1,h.2.1,h.2.2⟩
theorem r9 (d:(execOp a.eval o).run P w=.ok .skip w') (b:∀ c,o.op≠.defer c) (h:B w'/\Vi Z2 w'/\S w') :
 o.wpIn (Fence.wide.inRound l) n P a w (λa' w'=>∃ v,a'=a.put o.dst v/\(o.dst=Z1->v=Z2)/\B w'/\Vi v w'/\S w') Q:=by
 refine ⟨λ_ _=>trivial,?_⟩;rw [Oper.semAt_plain _ _ _ b,d];exact ⟨Z2,rfl,λ_=>rfl,h.1,h.2.1,h.2.2⟩
theorem nZ {f:FuncId} {args:Array ZW} {Rr:Ending->ZX->Prop} (k:(execOp a.eval o).run P w=.ok (.enter f args) w1) (b:∀ c,o.op≠.defer c) {d:Nat} (j:o.dst=Z0 d) (i:ZU P f args w1 Rr)
 (h:∀ e w',Rr e w'->∃ v,e=Z4 v/\B w'/\Vi v w'/\S w'):o.wpIn (Fence.wide.inRound l) n P a w (λa' w'=>∃ v,a'=a.put o.dst v/\(o.dst=Z1->v=Z2)/\B w'/\Vi v w'/\S w') Q:=by
 refine ⟨λ_ _=>trivial,?_⟩;rw [Oper.semAt_plain _ _ _ b,k];refine ⟨λh=>(by cases h),CallsIn.inRound l (callsIn_wide.2 (i.mono λe w' g=>?_))⟩;obtain ⟨v,rfl,m,p,q⟩:=h e w' g;exact ⟨v,rfl,λe=>(by rw [j] at e;cases e),m,p,q⟩
end
def MP (ds:List (Option Nat)) (l1 n1 l2 n2:Nat):Bool:=ds.all λx=>match x with
 | none=>ZZ
 | some d=>(decide (l1<=d)&&decide (d<l1+n1)) || (decide (l2<=d)&&decide (d<l2+n2))
theorem Qs {l1 l2:Nat} {vs1 vs2:List ZW} {ds:List (Option Nat)} (g:a'.tmps.size=a.tmps.size) (h:a'.defers=a.defers) (f:∀ s,(∀ x∈ds,x≠Z0 s)->a'.eval (.tmp s)=a.eval (.tmp s)) (b:MP ds l1 vs1.length l2 vs2.length=ZZ)
 (r:l1+vs1.length<=l2) (m:l2+vs2.length<=a.tmps.size) (j:∀ i,i<vs1.length->a'.eval (.tmp (l1+i))=vs1.getD i Z2) (k:∀ i,i<vs2.length->a'.eval (.tmp (l2+i))=vs2.getD i Z2):a'=Act.putFrom (Act.putFrom a l1 vs1) l2 vs2:=by
 obtain ⟨d,o⟩:=fs vs1 a l1;obtain ⟨p,q⟩:=fs vs2 (Act.putFrom a l1 vs1) l2;refine wO (g.trans (p.trans d).symm) (h.trans (q.trans o).symm) λs _=>?_;rw [ft vs2 _ l2 s (by rw [d];exact m)];by_cases e:l2<=s/\s<l2+vs2.length
 . rw [if_pos e];have:=k (s-l2) (by omega);rwa [show l2+(s-l2)=s by omega] at this
 . rw [if_neg e,ft vs1 a l1 s (by omega)];by_cases c:l1<=s/\s<l1+vs1.length
   . rw [if_pos c];have:=j (s-l1) (by omega);rwa [show l1+(s-l1)=s by omega] at this
   . rw [if_neg c];refine f s λx n l=>?_;unfold MP at b;rw [List.all_eq_true] at b;have:=b x n;rw [l] at this;simp at this;omega
theorem LB (h:∀ s,(∀ i,i<sh.length->(bV sh i).2.1≠Z0 s)->a'.eval (.tmp s)=a.eval (.tmp s)):∀ s,(∀ x∈sh.map (λx=>x.2.1),x≠Z0 s)->a'.eval (.tmp s)=a.eval (.tmp s):=λs b=>h s λi hi e=>b _ (Tr.2 ⟨sh[i],List.getElem_mem hi,rfl⟩) (by
 have:bV sh i=sh[i]:=by simp [bV,hi]
 rw [<- this];exact e)
end Go.Proofs.YtfbmmcnpjhmjaaaGreatDoor
