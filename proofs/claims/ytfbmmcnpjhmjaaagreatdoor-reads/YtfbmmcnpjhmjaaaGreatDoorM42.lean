import Derived.Test.YtfbmmcnpjhmjaaaGreatDoorM40
import Derived.Test.YtfbmmcnpjhmjaaaGreatDoorM41
import Derived.Test.YtfbmmcnpjhmjaaaGreatDoorM34
set_option maxRecDepth 100000
set_option maxHeartbeats 8000000
open Go.Value renaming pointer -> Z9, slice -> Z8
open Go.Obj renaming cells -> Z7
open Go.Operand renaming tmp -> Z6
open Option renaming none -> Z5, some -> Z4
open Go renaming World -> Z3, Value -> Z2
open Array renaming getElem?_eq_some_iff -> Tm
open List renaming range -> Tn, length_map -> To, length_range -> Tp, getElem?_map -> Tq, mem_append -> Tr, mem_map -> Ts, getD_eq_getElem?_getD -> Tt, mem_singleton -> Tu, mem_filter -> Tv, mem_range -> Tw
open List.Pairwise renaming filter -> Tx
namespace Go.Proofs.YtfbmmcnpjhmjaaaGreatDoor
open Go.RowKit Go.Deep
variable {L:List (ByteArray×Z2)} {l ds:List Nat} {os:List Ob} {base c r N i bl:Nat} {R:Nat->List Nat} {K K':Nat->Prop} {v:Z2} {w:Z3}
section
open Gf
structure yT (D L G:Nat):Prop where
 r:cn D L G=true
 d1:1<=D
 d:D<=12
 l1:1<=L
 l4:L<=4
 g:G<=4
 div:D%L=0
 s:D+L+G<=16
def BM (T:TypeId):Prop:=T=230\/T=265\/T=262\/T=284
structure dD where
 ps:Nat
 ho:Nat
 bl:Nat->Prop
 S:Z3->Prop
 keep:∀ w w',S w->(∀ k,bl k->w'.heap[k]?=w.heap[k]?)->S w'
 kd:∀ w,S w->∀ k,bl k->∀ cs T z,w.heap[k]?=Z4 (Z7 cs T z)->BM T
 lt:∀ w,S w->∀ k,bl k->k<w.heap.size
structure bf (w:Z3) (ar v p:Nat) (ps:dD) (D L G t:Nat) (pg ob:Z2) (P:List Nat) (xs:bg) (A:aB) (F:bx):Prop where
 arc:bJ w ar v D L G t (P.getD 0 0) (aC xs.os).length pg ob false
 vol:m6 w v p D L G ps.ps ps.ho A F
 free:jI F p A.n v
 nar:¬ F.has p A.n ar
 vlt:3<=v/\v<ar
 arK:3<=ar
 fit:A.fit
 par:yT D L G
 disk:fT A D L G t P xs
 pgs:bK (λk=>ar<k/\¬ F.has p A.n k/\¬ ps.bl k) w pg P
 cat:gz (λk=>ar<k/\¬ F.has p A.n k/\¬ ps.bl k) w ob xs.os
 nb:A.nb<=1000
 turn:t<=1000000
 kit:ps.S w
 apt:∀ k,ps.bl k->3<=k/\k≠ar/\k≠v/\¬ F.has p A.n k
theorem bK.any (h:bK K w v l):bK (λk=>k<w.heap.size) w v l:=by
 obtain ⟨d,c,e,f,g⟩:=h;refine ⟨d,c,e,f,λi=>?_⟩;obtain ⟨b,off,j,n,a,m⟩:=g i;exact ⟨b,off,j,a,a,m⟩
theorem gz.any (h:gz K w v os):gz (λk=>k<w.heap.size) w v os:=by
 obtain ⟨d,c,e,f,g⟩:=h;refine ⟨d,c,e,f,λl=>?_⟩;obtain ⟨b,off,m,t,a,n⟩:=g l;refine ⟨b,off,m,a,a,λi j=>?_⟩;obtain ⟨s,o,p,q,r⟩:=n i j;exact ⟨s,o,p,q,r.any⟩
theorem A7 {D:Nat}:∀ {xs:bg},(∀ x∈xs,kX D x)->xs.os.length<=(ai xs.os).length
 | [],_=>Nat.le_refl _
 | x::xs,h=>by
  have ih:=A7 (xs:=xs) (λy c=>h y (by simp [c]));have b:=(h x (by simp)).st;have d:1<=x.1.stripes.length:=by rw [b];exact Nat.le_max_left _ _
  have e:ai (bg.os (x::xs))=x.1.stripes++ai (bg.os xs):=by simp [ai,bg.os]
  have a:(bg.os (x::xs)).length=(bg.os xs).length+1:=by simp [bg.os]
  rw [e,a,List.length_append];omega
section
variable {w:Z3} {ar v p D L G t:Nat} {ps:dD} {pg ob:Z2} {P:List Nat} {xs:bg} {A:aB} {F:bx}
theorem bf.vne (h:bf w ar v p ps D L G t pg ob P xs A F):v≠ar:=by have:=h.vlt;omega
theorem bf.n0 (h:bf w ar v p ps D L G t pg ob P xs A F):0<A.n:=by have:=h.disk.n;have:=h.par.d1;omega
theorem bf.few (h:bf w ar v p ps D L G t pg ob P xs A F):xs.os.length<=1000/\(ai xs.os).length<=1000/\P.length<=1000:=by
 have a:=A7 h.disk.fits;have b:=h.disk.room;have c:=h.nb;omega
theorem bf.packL_le (h:bf w ar v p ps D L G t pg ob P xs A F):(aC xs.os).length<=1000000:=by
 have a:=je h.par.d1 h.disk.fits;have b:=h.few.1;have e:xs.os.length=xs.length:=by simp [bg.os]
 have c:1500/(D*44)<=34:=by
  have:=h.par.d1;have:1500/(D*44)<=1500/44:=Nat.div_le_div_left (by omega) (by decide);omega
 have d:xs.length*(19+4*(1500/(D*44)+1))<=1000*(19+4*(34+1)):=Nat.mul_le_mul (by omega) (by omega);omega
theorem bf.below (h:bf w ar v p ps D L G t pg ob P xs A F) {w':Z3} (a:Below w.heap.size w w'):bf w' ar v p ps D L G t pg ob P xs A F:=
 ⟨h.arc.keep (a.block _ h.arc.lt),h.vol.below a lR,h.free,h.nar,h.vlt,h.arK,h.fit,h.par,h.disk,h.pgs.keep (eM.of_below a),h.cat.keep (eM.of_below a),h.nb,h.turn,ps.keep _ _ h.kit λk b=>a.block k (ps.lt _ h.kit k b),h.apt⟩
theorem eu (xs:bg):aZ xs.os=xs.names:=by simp [aZ,bg.os,bg.names]
theorem bf.find (h:bf w ar v p ps D L G t pg ob P xs A F) (x:ByteArray) :
 Calls Tryz.prog 73 #[ob,.string x] w λe w'=>e=.returned (.tuple #[.int .i64 (aF xs.names x:Nat),.bool (lO xs.os x)])/\Below w.heap.size w w':=by
 have a:Up (aZ xs.os):=by rw [eu];exact h.disk.up
 have:=Kg h.cat.any (by have:=h.few.1;omega) a x;rwa [eu] at this
theorem bf.there (h:bf w ar v p ps D L G t pg ob P xs A F) {x:ByteArray} (b:x∈xs.names):lO xs.os x=true:=by
 have a:Up (aZ xs.os):=by rw [eu];exact h.disk.up
 exact (AZ a x).2 (by rw [eu];exact b)
theorem bf.notThere (h:bf w ar v p ps D L G t pg ob P xs A F) {x:ByteArray} (b:x∉xs.names):lO xs.os x=false:=by
 have a:Up (aZ xs.os):=by rw [eu];exact h.disk.up
 cases hi:lO xs.os x
 . rfl
 . exact absurd ((AZ a x).1 hi) (by rw [eu];exact b)
end
theorem bK.wk (h:bK K w v l) (i:∀ k,K k->k<w.heap.size->K' k):bK K' w v l:=by
 obtain ⟨d,c,e,f,g⟩:=h;refine ⟨d,c,e,f,λj=>?_⟩;obtain ⟨b,off,m,n,a,o⟩:=g j;exact ⟨b,off,m,i _ n a,a,o⟩
theorem gz.wk (h:gz K w v os) (a:∀ k,K k->k<w.heap.size->K' k):gz K' w v os:=by
 obtain ⟨e,c,f,g,j⟩:=h;refine ⟨e,c,f,g,λm=>?_⟩;obtain ⟨b,off,n,o,d,p⟩:=j m;refine ⟨b,off,n,a _ o d,d,λi l=>?_⟩;obtain ⟨u,q,r,s,t⟩:=p i l;exact ⟨u,q,r,s,t.wk a⟩
end
theorem tJ (f:∀ o∈L,ld o.2):∀ u∈aP L,u.oneCell'=true:=by
 intro u a;unfold aP at a;rw [List.mem_flatMap] at a;obtain ⟨q,d,b⟩:=a;simp at b;rcases b with rfl|rfl
 . rfl
 . obtain ⟨g,n,c,e,_⟩:=f q d;rw [e];rfl
theorem Ku (h:w.ownsRow base 80 2 v L.length (aP L)) (b:∀ o∈L,ld o.2):Src Tryz.prog 2 51 v L.length (aP L) w:=by
 rcases h.2 with ⟨rfl,a⟩|⟨g,cap,cur,rfl,c,d,e,f,i,j⟩
 . have:L=[]:=List.eq_nil_of_length_eq_zero a;subst this;exact Src.ofNil w Tryz.underlying51 0
 . exact Src.ofSlice w Tryz.underlying51 ⟨g,0,Z5⟩ L.length cap (aP L) (kK L) (h.cells (g:=g) rfl) (tJ b)
theorem Tryz.infoRobj:(Tryz.prog.info? 80).map (λi=>(i.zero,i.size,i.bytes))=Z4 (Z4 (.agg #[.string ByteArray.empty,Z8 Z5 0 0]),2,40):=by kernel_rfl
noncomputable def Rp:Array Oper:=((Tryz.f22.body.bind (mD · 2))).getD #[]
def QK:List (Op×Option Nat×List Nat):=[(Op.move (Z6 3),Z4 6,[]),
 (Op.move (Z6 3),Z4 7,[]),
 (Op.nilCheck (Z6 7),Z4 8,[1]),
 (Op.fieldAddr 53 (Z6 8) 0,Z4 9,[2]),
 (Op.load 51 (Z6 9),Z4 10,[3]),
 (Op.move (Z6 0),Z4 11,[]),
 (Op.nilCheck (Z6 11),Z4 12,[5]),
 (Op.fieldAddr 53 (Z6 12) 0,Z4 13,[6]),
 (Op.load 51 (Z6 13),Z4 14,[7]),
 (Op.call { callee:=Callee.builtin Builtin.append,args:=#[Z6 10,Z6 14],argTypes:=#[51,51] },Z4 15,[4,8]),
 (Op.nilCheck (Z6 6),Z4 16,[0,0,1,2,3,4,5,6,7,8,9]),
 (Op.fieldAddr 53 (Z6 16) 0,Z4 17,[10,0,1,2,3,4,5,6,7,8,9]),
 (Op.store 51 (Z6 17) (Z6 15),Z5,[11,9,9,0,1,2,3,4,5,6,7,8,9])]
theorem GH:aN Rp 6 18 QK:=bt (by kernel_rfl) (by kernel_rfl)
def Rq (w0:Z3) (r c:Nat) (v:Z2) (L:List (ByteArray×Z2)) (i:Nat) (u:Z2) (w:Z3):Prop:=match i with
 | 0|1|2|3|10|11=>u=Z9 (Z4 ⟨c,0,Z5⟩)
 | 4=>u=Z8 Z5 0 0
 | 5|6|7=>u=Z9 (Z4 ⟨r,0,Z5⟩)
 | 8=>u=v
 | 9=>w.ownsRow w0.heap.size 80 2 u L.length (aP L)
 | 12=>∃ u',w.heap[c]?=Z4 (Z7 #[u'] 53 (0,0))/\w.ownsRow w0.heap.size 80 2 u' L.length (aP L)
 | _=>True
def PQ (w0:Z3) (c:Nat) (D:Nat->Bool) (w:Z3):Prop:=aa (λk=>D 12=true/\k=c) w0 w
theorem eF {w0:Z3} {D:Nat->Bool} {w':Z3} (h:PQ w0 c D w) (i:Nat) (b:aa (λk=>i=12/\k=c) w w'):PQ w0 c (dN D i) w':=by
 unfold PQ at *;have a:aa (λk=>dN D i 12=true/\k=c) w0 w:=h.mono λk _ q=>⟨by
  unfold dN;split
  . rfl
  . exact q.1,q.2⟩
 exact a.later b (λk _ q=>⟨by unfold dN;rw [if_pos q.1.symm],q.2⟩)
theorem Bh {ops:Array Oper} {Q:Exit->Act->Z3->Prop} {a:Act} (hp:Rp=ops) (h:oN w r base v L) (hl:L.length<=1000000) (hs:∀ o∈L,ld o.2) (J:w.heap[c]?=Z4 (Z7 #[Z8 Z5 0 0] 53 (0,0))) (k0:r≠c)
 (k7:a.tmps.size=19) (O:a.eval (Z6 3)=Z9 (Z4 ⟨c,0,Z5⟩)) (V:a.eval (Z6 0)=Z9 (Z4 ⟨r,0,Z5⟩))
 (Y:∀ (w':Z3) (U:List Z2) (u:Z2),U.length=12->oN w' c w.heap.size u L->aa (λk=>k=c) w w'->Q .normal (Act.putFrom a 6 U) w'):(Code.region 2 ops true).wp Tryz.prog Q a w:=by
 subst hp;have R:c<w.heap.size:=(Tm.1 J).1;have k5:r<w.heap.size:=(Tm.1 h.top).1;obtain ⟨id,K,hx,hv,hq⟩:=info_parts Tryz.infoRobj;have F:∀ (D:Nat->Bool) (w':Z3) (k:Nat),PQ w c D w'->(D 12=false\/k≠c)->k<w.heap.size->w'.heap[k]?=w.heap[k]?:=λD w' k b p hz=>b.block k hz (λq=>by
  rcases p with e|e
  . rw [e] at q;cases q.1
  . exact e q.2)
 refine bZ (by kernel_rfl) GH a w (by omega) (Rq w r c v L) (PQ w c) (aa.drew w) ?_ ?_
 . intro i A;match i,A with
   | 0,_=>exact λo d w' D y ho m p s t l b f=>ab (ag ho ((p.slot 3 (by omega)).trans O) w') m ⟨eF b _ (aa.refl _ _),rfl,kq⟩
   | 1,_=>exact λo d w' D y ho m p s t l b f=>ab (ag ho ((p.slot 3 (by omega)).trans O) w') m ⟨eF b _ (aa.refl _ _),rfl,kq⟩
   | 2,_=>
    intro o d w' D y ho m p s t l b f;have u0:d.eval (Z6 7)=Z9 (Z4 ⟨c,0,Z5⟩):=f 1 (l 1 (by decide));exact ab (dZ ho u0 w') m ⟨eF b _ (aa.refl _ _),rfl,kq⟩
   | 3,_=>
    intro o d w' D y ho m p s t l b f;have u0:d.eval (Z6 8)=Z9 (Z4 ⟨c,0,Z5⟩):=f 2 (l 2 (by decide));exact ab (v:=Z9 (Z4 ⟨c,0,Z5⟩)) (by simp only [execOp,show o.op=Op.fieldAddr 53 (Z6 8) 0 from ho,u0];go_simp) m ⟨eF b _ (aa.refl _ _),rfl,kq⟩
   | 4,_=>
    intro o d w' D y ho m p s t l b f;have u0:d.eval (Z6 9)=Z9 (Z4 ⟨c,0,Z5⟩):=f 3 (l 3 (by decide));have G:D 12=false:=by
     cases q:D 12 with
     | false=>rfl
     | true=>have:=(t 12 q).2 4 (by decide);rw [s] at this;cases this
    have N:w'.cell? ⟨c,0,Z5⟩=Z4 (Z8 Z5 0 0):=by
     have:=(F D w' c b (.inl G) R).trans J;simp [World.cell?,this]
    exact ab (v:=Z8 Z5 0 0) (by simp only [execOp,show o.op=Op.load 51 (Z6 9) from ho,u0];go_simp) m ⟨eF b _ (aa.refl _ _),rfl,kq⟩
   | 5,_=>exact λo d w' D y ho m p s t l b f=>ab (ag ho ((p.slot 0 (by omega)).trans V) w') m ⟨eF b _ (aa.refl _ _),rfl,kq⟩
   | 6,_=>
    intro o d w' D y ho m p s t l b f;have u0:d.eval (Z6 11)=Z9 (Z4 ⟨r,0,Z5⟩):=f 5 (l 5 (by decide));exact ab (dZ ho u0 w') m ⟨eF b _ (aa.refl _ _),rfl,kq⟩
   | 7,_=>
    intro o d w' D y ho m p s t l b f;have u0:d.eval (Z6 12)=Z9 (Z4 ⟨r,0,Z5⟩):=f 6 (l 6 (by decide));exact ab (v:=Z9 (Z4 ⟨r,0,Z5⟩)) (by simp only [execOp,show o.op=Op.fieldAddr 53 (Z6 12) 0 from ho,u0];go_simp) m ⟨eF b _ (aa.refl _ _),rfl,kq⟩
   | 8,_=>
    intro o d w' D y ho m p s t l b f;have u0:d.eval (Z6 13)=Z9 (Z4 ⟨r,0,Z5⟩):=f 7 (l 7 (by decide));have N:w'.cell? ⟨r,0,Z5⟩=Z4 v:=by
     have:=(F D w' r b (.inr k0) k5).trans h.top;simp [World.cell?,this]
    exact ab (v:=v) (by simp only [execOp,show o.op=Op.load 51 (Z6 13) from ho,u0];go_simp) m ⟨eF b _ (aa.refl _ _),rfl,kq⟩
   | 9,_=>
    intro o d w' D y ho m p s t l b f;have u0:d.eval (Z6 10)=Z8 Z5 0 0:=f 4 (l 4 (by decide));have u1:d.eval (Z6 14)=v:=f 8 (l 8 (by decide));have G:D 12=false:=by
     cases q:D 12 with
     | false=>rfl
     | true=>have:=(t 12 q).2 9 (by decide);rw [s] at this;cases this
    have H:w.grownBy w' Z5:=⟨b.os,b.tape,b.output,b.size,λk p _=>F D w' k b (.inl G) p⟩;have Z:=h.own.kept H (by cases v.ownBlock<;>simp);obtain ⟨v',C,hr,E,B,h4⟩:=kR (P:=Tryz.prog) w' w.heap.size 51 51 o.type 80 id _ 2 40 Tryz.underlying51 K hx hv hq rfl (Z8 Z5 0 0) 0 [] (World.ownsRow_nil _ _ _ _) v L.length (aP L) (Ku Z hs) (by unfold maxLen;omega) (by omega) b.size;rw [Nat.zero_add,List.nil_append] at E;have X:aa (λ_=>False) w' C:=⟨B.os,B.tape,B.output,B.size,λk p _=>B.block k p (by simp [Value.ownBlock])⟩;refine ab (v:=v') (w':=C) (by unfold execOp;simp only [show o.op=Op.call { callee:=Callee.builtin Builtin.append,args:=#[Z6 10,Z6 14],argTypes:=#[51,51] } from ho,resolve,invoke,builtin,Sem.run_bind,Sem.run_pure,Result.andThen_ok,List.map_toArray,List.map_cons,List.map_nil,u0,u1,hr]) m ⟨eF b 9 (X.mono λ_ _ q=>q.elim),E,λj u z q=>?_⟩;match j,z,q with
    | 0,_,q|1,_,q|2,_,q|3,_,q|10,_,q|11,_,q|4,_,q|5,_,q|6,_,q|7,_,q|8,_,q=>exact q
    | 9,z,_=>rw [s] at z;cases z
    | 12,z,_=>rw [G] at z;cases z
    | n+13,_,_=>trivial
   | 10,_=>
    intro o d w' D y ho m p s t l b f;have u0:d.eval (Z6 6)=Z9 (Z4 ⟨c,0,Z5⟩):=f 0 (l 0 (by decide));exact ab (dZ ho u0 w') m ⟨eF b _ (aa.refl _ _),rfl,kq⟩
   | 11,_=>
    intro o d w' D y ho m p s t l b f;have u0:d.eval (Z6 16)=Z9 (Z4 ⟨c,0,Z5⟩):=f 10 (l 10 (by decide));exact ab (v:=Z9 (Z4 ⟨c,0,Z5⟩)) (by simp only [execOp,show o.op=Op.fieldAddr 53 (Z6 16) 0 from ho,u0];go_simp) m ⟨eF b _ (aa.refl _ _),rfl,kq⟩
   | 12,_=>
    intro o d w' D y ho m p s t l b f;have u0:d.eval (Z6 17)=Z9 (Z4 ⟨c,0,Z5⟩):=f 11 (l 11 (by decide));have u1:w'.ownsRow w.heap.size 80 2 (d.eval (Z6 15)) L.length (aP L):=f 9 (l 9 (by decide));have I:w'.heap[c]?=Z4 (Z7 #[Z8 Z5 0 0] 53 (0,0)):=(F D w' c b (.inl s) R).trans J;obtain ⟨u,M⟩:=nM (d.eval (Z6 15));have N:w'.cell? ⟨c,0,Z5⟩=Z4 (Z8 Z5 0 0):=(by simp [World.cell?,I]);have fz:w'.frozen? ⟨c,0,Z5⟩=false:=(by simp [World.frozen?,I]);rw [M] at u1;obtain ⟨T,sl,S,k6⟩:∃ T sl S,u=.slice T sl S:=by
     rcases u1.2 with ⟨e,_⟩|⟨g,cap,cur,e,_⟩
     . exact ⟨_,_,_,e⟩
     . exact ⟨_,_,_,e⟩
    have H:w'.grownBy (w'.setCell ⟨c,0,Z5⟩ u) (Z4 c):=⟨rfl,rfl,rfl,by simp [World.setCell],λi _ A=>blk_setCell_other _ _ _ _ (λe=>A (by rw [e]))⟩;have hh:(w'.setCell ⟨c,0,Z5⟩ u).ownsRow w.heap.size 80 2 u L.length (aP L):=u1.kept H (.inr λe=>by have:=(u1.lt c e).1;omega);refine iQ (w':=w'.setCell ⟨c,0,Z5⟩ u) (by rw [k6] at M ⊢;simp only [execOp,show o.op=Op.store 51 (Z6 17) (Z6 15) from ho,u0,M];go_simp) ⟨eF b 12 (aa.setCell _ _ _ ⟨rfl,rfl⟩),⟨u,by simp [World.setCell,Array.getElem?_modify,I],hh⟩,λj x z q=>?_⟩;match j,z,q with
    | 0,_,q|1,_,q|2,_,q|3,_,q|10,_,q|11,_,q|4,_,q|5,_,q|6,_,q|7,_,q|8,_,q=>exact q
    | 9,_,q=>exact World.ownsRow.kept q H (.inr λe=>by have:=(World.ownsRow.lt q c e).1;omega)
    | 12,z,_=>rw [s] at z;cases z
    | n+13,_,_=>trivial
   | n+13,hn=>exact absurd hn (by show ¬ n+13<13;omega)
 . rintro d w' hy ⟨D,hD,b⟩ f;obtain ⟨u,W,E⟩:Rq w r c v L 12 undef w':=f 12 (by decide);have e:d=Act.putFrom a 6 ((Tn 12).map λi=>d.eval (.tmp (6+i))):=hy.out _ (by rw [To,Tp]) (by omega) (λi A=>by
    rw [To,Tp] at A;rw [Tt,Tq,List.getElem?_range A];rfl)
   rw [e];exact Y w' _ u (by rw [To,Tp]) ⟨W,E⟩ (b.mono λk _ q=>q.2)
theorem Mi {vs:List Z2} (h:vs.length=12):∃ a b c d e f g i j k l m,vs=[a,b,c,d,e,f,g,i,j,k,l,m]:=by
 match vs,h with
 | [a,b,c,d,e,f,g,i,j,k,l,m],_=>exact ⟨_,_,_,_,_,_,_,_,_,_,_,_,rfl⟩
theorem wB (h:oN w r base v L) (m:L.length<=1000000) (n:∀ o∈L,ld o.2) :
 Calls Tryz.prog 22 #[Z9 (Z4 ⟨r,0,Z5⟩)] w λe w'=>e=.returned (Z9 (Z4 ⟨w.heap.size,0,Z5⟩))/\(∃ u,oN w' w.heap.size (w.heap.size+1) u L)/\Below w.heap.size w w':=by
 have l:r<w.heap.size:=(Tm.1 h.top).1;have d:oN (w.alloc (Z7 #[Z8 Z5 0 0] 53)) r base v L:=⟨(blk_alloc_lt _ _ _ l).trans h.top,h.own.alloc _⟩;have j:=blk_alloc_new w (Z7 #[Z8 Z5 0 0] 53);have b:(w.alloc (Z7 #[Z8 Z5 0 0] 53)).heap.size=w.heap.size+1:=by simp
 have f:Below w.heap.size w (w.alloc (Z7 #[Z8 Z5 0 0] 53)):=bA w _;go_enter Tryz.func22,Tryz.ntmps22;go_wp2_with fail;refine Bh (by kernel_rfl) d m n j (by omega) rfl rfl rfl ?_;intro w' q u g a i;obtain ⟨s,t,x,y,z,A,B,C,D,E,F,G,rfl⟩:=Mi g;rw [b] at a;have c:Below w.heap.size w w':=f.trans (i.below λk p=>⟨by rw [b];omega,λe=>by omega⟩);have H:=hide2 a c;clear a i c g d j b f;rename_i hK
 refine hK _ _ ?_;clear hK;simp only [Act.putFrom,Act.put,List.setIfInBounds_toArray,List.set_cons_succ,List.set_cons_zero];go_wp2;go_ret;exact ⟨rfl,⟨u,H.out.1⟩,H.out.2⟩
section
open Gf
theorem Bv (A:aB) (ds:List Nat) (i:Nat):(bS A ds).testBit i=true↔i∈ds/\A.lost i=true:=by
 obtain ⟨Q,rfl⟩:∃ Q,ds=Q.reverse:=⟨ds.reverse,by simp⟩;induction Q with
 | nil=>simp [bS]
 | cons t Q ih=>
  rw [List.reverse_cons];cases h:A.lost t
  . rw [ku A _ _ h,ih,Tr,Tu];constructor
    . rintro ⟨b,a⟩;exact ⟨.inl b,a⟩
    . rintro ⟨b|rfl,a⟩
      . exact ⟨b,a⟩
      . rw [h] at a;cases a
  . rw [jP A _ _ h,Nat.testBit_or,Nat.testBit_two_pow,Bool.or_eq_true,ih,decide_eq_true_eq,Tr,Tu];constructor
    . rintro (⟨b,a⟩|rfl)
      . exact ⟨.inl b,a⟩
      . exact ⟨.inr rfl,h⟩
    . rintro ⟨b|rfl,a⟩
      . exact .inl ⟨b,a⟩
      . exact .inr rfl
theorem By (A:aB) (ds a:List Nat) (h:∀ i∈a,i∉ds):(A.readAt ds).readAt a=A.readAt (ds++a):=by
 unfold aB.readAt;congr 1;funext i;show (if i∈a then wrap64 ((if i∈ds then wrap64 (A.reads i+1) else A.reads i)+1) else (if i∈ds then wrap64 (A.reads i+1) else A.reads i))=if i∈ds++a then wrap64 (A.reads i+1) else A.reads i;by_cases b:i∈a
 . rw [if_pos b,if_neg (h i b),if_pos (List.mem_append_right _ b)]
 . rw [if_neg b];by_cases c:i∈ds
   . rw [if_pos c,if_pos (List.mem_append_left _ c)]
   . rw [if_neg c,if_neg (λq=>(Tr.1 q).elim c b)]
theorem DO (A:aB) (ds a:List Nat):lL (A.readAt ds) a=lL A a:=rfl
theorem Bz (A:aB) (ds a:List Nat):bS (A.readAt ds) a=bS A a:=rfl
def zc (N:Nat) (ds:List Nat) (R:Nat->List Nat):List (List Nat):=(Tn N).map λi=>if i∈ds then R i else []
def Mq (N:Nat) (ds:List Nat):Nat:=zk (((Tn N).filter λi=>decide (i∉ds)).map λi:Nat=>⟨0,0,(i:Int),0⟩)
theorem tU (N:Nat) (ds:List Nat) (i:Nat):(Mq N ds).testBit i=true↔i<N/\i∉ds:=by
 unfold Mq;rw [ry];constructor
 . rintro ⟨s,f,_,a⟩;obtain ⟨j,e,rfl⟩:=Ts.1 f;obtain ⟨c,d⟩:=Tv.1 e;have:j=i:=a;subst this;exact ⟨Tw.1 c,of_decide_eq_true d⟩
 . rintro ⟨b,a⟩;exact ⟨_,Ts.2 ⟨i,Tv.2 ⟨Tw.2 b,decide_eq_true a⟩,rfl⟩,rfl,rfl⟩
theorem BA (N:Nat) (ds:List Nat) (R:Nat->List Nat):(zc N ds R).length=N:=by simp [zc]
theorem BB (a:i<N):(zc N ds R).getD i []=if i∈ds then R i else []:=by simp [zc,a]
theorem KG (h:w.heap[bl]?=Z4 (Z7 (aH l).toArray 217 (0,0))) (c:l.length=44) (d:∀ x∈l,x<256):Bs w (Z8 (Z4 ⟨bl,0,Z5⟩) 44 44) l:=by
 refine ⟨Z4 ⟨bl,0,Z5⟩,44,by rw [c],by omega,by omega,d,λ_=>⟨bl,0,rfl,λk a=>?_⟩⟩;have e:(aH l)[k]?=Z4 (.int .u8 ((l.getD k 0:Nat):Int)):=by
  unfold aH;rw [Tq,List.getElem?_eq_getElem a];simp [a]
 have b:(aH l).toArray[k]?=Z4 (.int .u8 ((l.getD k 0:Nat):Int)):=by simpa using e
 simp [World.cell?,h,b]
theorem PU {g:Nat} {f:Nat->Z2} (n:w.rowIs g 34 N f) (o:∀ i∈ds,(R i).length=44/\∀ x∈R i,x<256) (j:Kn w base AP f R ds):In w g (zc N ds R) (Mq N ds):=by
 intro i c;have b:i<N:=by rw [BA] at c;exact c
 have p:(zc N ds R)[i]=if i∈ds then R i else []:=by rw [<- BB b];simp [c]
 have h:=n.cell b;refine ⟨λa=>?_,λa=>?_⟩
 . rw [h,j.1 i ((tU N ds i).1 (oD.1 a)).2];rfl
 . have d:i∈ds:=by
    by_cases q:i∈ds
    . exact q
    . exact absurd (oD.2 ((tU N ds i).2 ⟨b,q⟩)) a
   obtain ⟨bl,k,_,_,l⟩:=j.2 i d;obtain ⟨e,m⟩:=o i d;rw [p,if_pos d,e];exact ⟨⟨bl,0,Z5⟩,44,by rw [h,k],KG l e m⟩
theorem GS (b:∀ i∈ds,(R i).length=44/\∀ x∈R i,x<256):∀ l∈zc N ds R,l.length<=100000:=by
 intro l a;unfold zc at a;obtain ⟨i,_,rfl⟩:=Ts.1 a;split
 . rename_i h;rw [(b i h).1];omega
 . simp
theorem GT {m:Nat} {row:List Nat} (h:aM w bl l) (g:m<=l.length) (e:l.take m=row):w.rangeAt bl 0 (aH row)/\row.length=m:=by
 have c:row.length=m:=by rw [<- e,List.length_take];omega
 refine ⟨λj u a=>?_,c⟩;unfold aH at a;rw [Tq,Option.map_eq_some_iff] at a;obtain ⟨x,b,rfl⟩:=a;have f:j<row.length:=(List.getElem?_eq_some_iff.1 b).1;have d:=World.rowIs.cell h (i:=j) (by omega);rw [Nat.zero_add];rw [d];unfold vb;have:l.getD j 0=x:=by
  rw [<- e,List.getElem?_take,if_pos (by omega)] at b;rw [Tt,b];rfl
 rw [this]
theorem qH (h:w.heap[bl]?=Z4 (Z7 (aH l).toArray 217 (0,0))):w.rangeAt bl 0 (aH l):=λj u a=>by simp [World.cell?,h];simpa using a
theorem EE {S gone sp:Nat} (e:gone<65536) (f:sp<65536) {i:Nat}:i∈ny ds (ae (Er (Er S gone) sp))↔i∈ae S/\gone.testBit i=false/\sp.testBit i=false/\i∉ds:=by
 rw [Et,rk f,rk e];constructor
 . rintro ⟨⟨⟨a,b⟩,c⟩,d⟩;exact ⟨a,b,c,d⟩
 . rintro ⟨a,b,c,d⟩;exact ⟨⟨⟨a,b⟩,c⟩,d⟩
theorem wG (ds:List Nat) (S:Nat):(ny ds (ae S)).Nodup:=Tx _ (kl S)
theorem oR {A:aB} (h:l.Nodup):(lL A l).Nodup:=Tx _ h
theorem zd {x:Nat} (h:¬ x.testBit i=true):x.testBit i=false:=by cases q:x.testBit i;rfl;exact absurd q h
end
end Go.Proofs.YtfbmmcnpjhmjaaaGreatDoor
