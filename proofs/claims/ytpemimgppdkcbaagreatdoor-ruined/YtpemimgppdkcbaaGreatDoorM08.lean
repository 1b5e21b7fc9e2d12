import Derived.Test.YtpemimgppdkcbaaGreatDoorM07
set_option maxRecDepth 100000
set_option linter.all false
set_option maxHeartbeats 8000000
open Go.IntKind renaming i64 -> Z9
open Go.Value renaming int -> Z8, pointer -> Z7, slice -> Z6, bool -> Z3, string -> Z2, tuple -> Z1
open Go.Obj renaming cells -> Z5
open Go.Ending renaming returned -> Z4
open Option renaming none -> Z0, some -> ZZ
open Bool renaming true -> ZY, false -> ZX
open Go renaming World -> ZW, Value -> ZV, Calls -> ZU
open List.Nodup renaming sublist -> YD
open UInt8 renaming ofNat -> YE
open Nat renaming zero_testBit -> YF, left_le_or -> YH
open List renaming mem_eraseIdx_iff_getElem -> YG
open ByteArray renaming empty -> YI
open Go.Proofs.Tryz renaming prog -> ZT
open Go.Proofs.Tryz
namespace Go.Proofs.YtpemimgppdkcbaaGreatDoor
open Go.RowKit Go.Deep Go.Shelf Gf
variable {C:Ck} {room z:Int} {ps ps' ps1:aU} {Kind:aU->Prop} {es:List (Nat×Nat×Nat)} {l:a8} {os:List Ob} {D L G s lost m c B r b g N gone sp p ho sb k l1 base:Nat} {sv:Nat->ZV} {ao:Option Addr} {v er:ZV} {w wx w1 w3 w2 w':ZW}
def cJ (a:ps.S w) {k:Nat} {cs:Array ZV} {T:TypeId} {z:Nat×Nat} (h:w.heap[k]?=ZZ (Z5 cs T z)) (b:¬ ry T):¬ ps.bl k:=λc=>b (ps.kd w a k c cs T z h)
def xP:¬ ry 216:=by unfold ry;decide
def uL:¬ ry 31:=by unfold ry;decide
def F7 (h:w.ownsRow 0 292 4 v (b9 D L G s C).length (eh .u8 (b9 D L G s C))) (hl:(b9 D L G s C).length<=4398046511104):Ps .u8 w v (b9 D L G s C):=Nc h hl
def aac (a b:Nat) (c:a<65536) (d:b<65536):bits .or .u64 (a:Int) (b:Int)=((a|||b:Nat):Int):=aaX a b (by omega) (by omega)
theorem IR {S l:Nat} (h:S &&& l=0) {i:Nat} (a:S.testBit i=ZY):l.testBit i=ZX:=by
 have:=congrArg (λx=>x.testBit i) h;simp only [Xg,a,Bool.true_and,YF] at this;exact this
structure EP (D L G:Nat) (Kind:aU->Prop) (ps ps':aU) (lost s:Nat) (C:Ck) (ao:Option Addr) (m c B:Nat) (wx:ZW):Prop where
 kind:Kind ps'
 psE:ps'.ps=ps.ps
 hoE:ps'.ho=ps.ho
 kit:ps'.S wx
 bl:∀ k,ps'.bl k->ps.bl k\/B<=k
 ob:∀ k,(Value.slice ao m c).ownBlock=ZZ k->ps.bl k\/B<=k
 own:wx.ownsRow 0 292 4 (.slice ao m c) (b9 D L G s C).length (eh .u8 (b9 D L G s C))
 TG:∀ i,lost.testBit i=ZY->s.testBit i=ZY
 told:tells (ll D L G) (ab (aC (D+L+G) s))=ZZ C
def EP.keep {wy:ZW} (h:EP D L G Kind ps ps' lost s C ao m c B wx) {T:Nat->Prop} (d:aa T wx wy) (f:∀ k,T k->k<B/\¬ ps.bl k):EP D L G Kind ps ps' lost s C ao m c B wy:=
 ⟨h.kind,h.psE,h.hoE,ps'.keep _ _ h.kit λk a=>d.block k (ps'.lt _ h.kit k a) (λq=>by
  have b:=f k q;rcases h.bl k a with e|e
  . exact b.2 e
  . omega),h.bl,h.ob,bS h.own d (λk a q=>by
  have b:=f k q;rcases h.ob k a with e|e
  . exact b.2 e
  . omega),h.TG,h.told⟩
def EP.mono {B':Nat} (h:EP D L G Kind ps ps' lost s C ao m c B wx) (b:B'<=B):EP D L G Kind ps ps' lost s C ao m c B' wx:=
 ⟨h.kind,h.psE,h.hoE,h.kit,λk a=>(h.bl k a).imp id λq=>TW b q,λk a=>(h.ob k a).imp id λq=>TW b q,h.own,h.TG,h.told⟩
def C5 (r v ps D L G:Nat) (w:ZW):Prop:=w.cell? ⟨r,0,Z0⟩=ZZ (Z7 (ZZ ⟨v,0,Z0⟩))/\w.cell? ⟨v,1,Z0⟩=ZZ (Z8 Z9 (D:Int))/\w.cell? ⟨v,2,Z0⟩=ZZ (Z8 Z9 (L:Int))/\w.cell? ⟨v,3,Z0⟩=ZZ (Z8 Z9 (G:Int))/\w.cell? ⟨v,4,Z0⟩=ZZ (Z7 (ZZ ⟨ps,0,Z0⟩))
def L7 {v ps:Nat} (hr:dI w r v b g N gone sp) (a:bk w v p D L G ps ho):C5 r v ps D L G w:=by
 obtain ⟨_,c,d,e,f,_⟩:=a.cells;exact ⟨hr.cells.1,c,d,e,f⟩
section
structure Pq where
 lost:Nat
 nb:Nat
 s:Nat
 C:Ck
 ao:Option Addr
 m:Nat
 c:Nat
def Pq.cn (D L G:Nat) (q:Pq):EE:=⟨D,L,G,(eC q.lost:Nat),fH q.lost,1+((ab (aC (D+L+G) q.s)).length:Int),.slice q.ao q.m q.c⟩
def jV (qs:List Pq):a8:=qs.map (·.nb)
def oT (sb:Nat) (qs:List Pq) (a:Nat):Prop:=a=sb\/a∈jV qs
structure gG (w:ZW) (sb:Nat) (room:Int) (D L G:Nat) (es:List (Nat×Nat×Nat)) (qs:List Pq):Prop where
 list:fE w sb room
 R4:w.heap[sb+1+1+1]?=ZZ (Z5 #[Z7 (ZZ ⟨sb+1+1,0,Z0⟩)] 189 (0,0))
 map:∃ n,w.heap[sb+1]?=ZZ (.map (dU D L G es).toArray n)
 ring:∃ cn nw ol,pf w (oT sb qs) cn nw ol/\uZ nw ol sb (jV qs) sb/\∀ q∈qs,cn q.nb=q.cn D L G
 nd:(sb::jV qs).Nodup
 lo:(cL es).Nodup
 TC:∀ e∈es,∃ q∈qs,q.lost=e.1/\q.nb=e.2.1
 qs_es:∀ q∈qs,∃ e∈es,e.1=q.lost/\e.2.1=q.nb
 len:es.length=qs.length
 SI:∀ q∈qs,sb+1+1+1<q.nb
 own:∀ q∈qs,w.ownsRow 0 292 4 (.slice q.ao q.m q.c) (b9 D L G q.s q.C).length (eh .u8 (b9 D L G q.s q.C))
 TG:∀ q∈qs,∀ i,(eC q.lost).testBit i=ZY->q.s.testBit i=ZY
 told:∀ q∈qs,tells (ll D L G) (ab (aC (D+L+G) q.s))=ZZ q.C
section
variable {w w':ZW} {sb:Nat} {room:Int} {D L G:Nat} {es:List (Nat×Nat×Nat)} {qs:List Pq}
def gG.apart (h:gG w sb room D L G es qs) (a:Nat) (b:oT sb qs a):a≠sb+1/\a≠sb+1+1/\a≠sb+1+1+1/\a<w.heap.size/\∃ cs,w.heap[a]?=ZZ (Z5 cs 234 (0,0)):=by
 obtain ⟨cn,nw,ol,d,_,_⟩:=h.ring;have c:=d a b;refine ⟨?_,?_,?_,c.lt,_,c⟩;all_goals
  rcases b with rfl|b
  . omega
  . obtain ⟨q,e,rfl⟩:=T6.1 b;have:=h.SI q e;omega
def gG.steps (h:gG w sb room D L G es qs) {q:Pq} (f:q∈qs) {k:Nat} (d:(Value.slice q.ao q.m q.c).ownBlock=ZZ k):¬ oT sb qs k:=λe=>by
 obtain ⟨_,_,_,_,cs,b⟩:=h.apart k e;obtain ⟨cur,a⟩:=bF (h.own q f) d;rw [b] at a;simp only [UO,Vm] at a;exact absurd a.2.1 (by decide)
def L8 (qs l r:List Pq) (q:Pq) (h:qs=l++q::r):jV qs=jV l++q.nb::jV r:=by rw [h];simp [jV]
theorem Qx (h:gG w sb room D L G es qs) {x:Nat} (X:x∈cL es) :
 ∃ q t,q∈qs/\q.lost=x/\(∀ p,p∈t↔p∈qs)/\∀ W,gG W sb room D L G es qs->ZU ZT 171 #[Z7 (ZZ ⟨sb+1+1,0,Z0⟩),bK D L G (eC x:Nat) (fH x)] W λe w'=>e=Z4 (Z1 #[.agg #[Z8 Z9 (1+((ab (aC (D+L+G) q.s)).length:Int)),.slice q.ao q.m q.c],Z3 ZY])/\gG w' sb room D L G es t/\aa (oT sb qs) W w':=by
 obtain ⟨e,u,f⟩:=T6.1 X;obtain ⟨k,H,M⟩:=U0 u;obtain ⟨q,v,O,Z⟩:=h.TC e u;obtain ⟨l,r,B⟩:=List.append_of_mem v;have d:∀ p,p∈q::(l++r)↔p∈qs:=λp=>by rw [B];simp only [Ur,Uf];constructor<;>(intro h;rcases h with h|h|h<;>simp [h])
 refine ⟨q,q::(l++r),v,O.trans f,d,λW h=>?_⟩;obtain ⟨cn,nw,ol,S,hL,K⟩:=h.ring;obtain ⟨n,P⟩:=h.map;have N:=L8 qs l r q B;have i:=h.nd;rw [N] at hL i;have F:sb∉jV l++q.nb::jV r:=(UM.1 i).1;obtain ⟨U,hs,V⟩:=uZ.take hL i F;have Y:∀ a,oT sb (q::(l++r)) a↔oT sb qs a:=λa=>by
  unfold oT jV;simp only [T6];constructor
  . rintro (e|⟨p,b,e⟩)
    . exact .inl e
    . exact .inr ⟨p,(d p).1 b,e⟩
  . rintro (e|⟨p,b,e⟩)
    . exact .inl e
    . exact .inr ⟨p,(d p).2 b,e⟩
 have E:∀ a,a∈sb::(jV l++q.nb::jV r)->oT sb qs a:=λa g=>by
  rcases Ur.1 g with e|e
  . exact .inl e
  . exact .inr (by rw [N];exact e)
 have I:oT sb qs (nw q.nb):=E _ (by
  rcases Ur.1 hs with e|e
  . rw [e];exact UZ ..
  . exact UJ _ (UB _ e))
 have J:oT sb qs (ol q.nb):=by
  rcases V with e|e
  . exact E _ (UJ _ (VK _ (UJ _ e)))
  . exact .inl e
 have R:oT sb qs (ol sb):=by
  rcases hL.Sf with e|e
  . exact .inl e.1
  . exact E _ (UJ _ e)
 have C:q.nb∉sb::(jV l++jV r):=by
  intro o;have A:=(UM.1 i).2;rcases Ur.1 o with e|e
  . exact F (by rw [<- e];simp)
  . rw [UU] at A;rcases Uf.1 e with e|e
    . exact A.2.2 _ e _ (UZ ..) rfl
    . exact (UM.1 A.2.1).1 e
 have z:(sb::(jV l++jV r)).Nodup:=by
  refine UM.2 ⟨λe=>F ?_,?_⟩
  . rcases Uf.1 e with e|e
    . exact UB _ e
    . exact VK _ (UJ _ e)
  . exact YD (List.Sublist.append_left (List.sublist_cons_self _ _) _) (UM.1 i).2
 have T:=U.put z C;refine (IG h.list P H h.lo (by rw [M];exact f) (by rw [M];exact Z.symm) S (λa g=>⟨(h.apart a g).1,(h.apart a g).2.1⟩) (.inr (T6.2 ⟨q,v,rfl⟩)) I J (.inl rfl) R (by rw [K q v,Pq.cn,O.trans f])).mono ?_;rintro e w' ⟨rfl,hr,j⟩;have y:∀ a,sb<a->a<=sb+1+1+1->¬ oT sb qs a:=λa I J q=>by
  obtain ⟨q1,q2,q3,_⟩:=h.apart a q;rcases q with q|q
  . omega
  . obtain ⟨p,b,rfl⟩:=T6.1 q;have:=h.SI p b;omega
 have hll:sb+1+1+1<W.heap.size:=(TX.1 h.R4).1;refine ⟨rfl,⟨(j.block _ (by omega) (y _ (by omega) (by omega))).trans h.list,(j.block _ hll (y _ (by omega) (by omega))).trans h.R4,⟨n,(j.block _ (by omega) (y _ (by omega) (by omega))).trans P⟩,⟨cn,_,_,λa g=>hr a ((Y a).1 g),?_,λp b=>K p ((d p).1 b)⟩,?_,h.lo,λe u=>?_,λp b=>h.qs_es p ((d p).1 b),?_,λp b=>h.SI p ((d p).1 b),λp b=>bS (h.own p ((d p).1 b)) j (λk H q=>h.steps ((d p).1 b) H q),λp b=>h.TG p ((d p).1 b),λp b=>h.told p ((d p).1 b)⟩,j⟩
 . have e:jV (q::(l++r))=q.nb::(jV l++jV r):=(by simp [jV]);rw [e];exact T
 . have e:jV (q::(l++r))=q.nb::(jV l++jV r):=(by simp [jV]);rw [e,UM];refine ⟨λo=>?_,UM.2 ⟨λo=>C (UJ _ o),(UM.1 z).2⟩⟩;rcases Ur.1 o with e|e
   . exact C (by rw [<- e];exact UZ ..)
   . exact (UM.1 z).1 e
 . obtain ⟨p,b,Q⟩:=h.TC e u;exact ⟨p,(d p).2 b,Q⟩
 . rw [h.len,B];simp;omega
end
end
section
section
variable {w w':ZW} {sb:Nat} {room:Int} {D L G:Nat} {es:List (Nat×Nat×Nat)} {qs:List Pq}
theorem uM:∀ (es:List (Nat×Nat×Nat)) (j:Nat),cL (es.eraseIdx j)=(cL es).eraseIdx j
 | [],_=>rfl
 | _::_,0=>rfl
 | e::es,j+1=>congrArg (e.1::·) (uM es j)
def ER (h:l.Nodup) {i j:Nat} (a:i<l.length) (b:j<l.length) (e:l[i]=l[j]):i=j:=by
 rcases Nat.lt_trichotomy i j with q|q|q
 . exact absurd e (Wf.1 h i j a b q)
 . exact q
 . exact absurd e.symm (Wf.1 h j i b a q)
def Ab (q:Pq) (qs:List Pq):jV (q::qs)=q.nb::jV qs:=rfl
theorem Qy (h:gG w sb room D L G es qs) {x:Nat} (hx:x∉cL es) {s m c:Nat} {C:Ck} {ao:Option Addr} (ho:w.ownsRow 0 292 4 (.slice ao m c) (b9 D L G s C).length (eh .u8 (b9 D L G s C))) (hr:∀ i,(eC x).testBit i=ZY->s.testBit i=ZY) (ht:tells (ll D L G) (ab (aC (D+L+G) s))=ZZ C) :
 ZU ZT 173 #[Z7 (ZZ ⟨sb+1+1,0,Z0⟩),bK D L G (eC x:Nat) (fH x),.agg #[Z8 Z9 (1+((ab (aC (D+L+G) s)).length:Int)),.slice ao m c]] w λe w'=>e=Z4 (Z1 #[])/\(∃ f S,gG w' sb room D L G f S/\∀ q∈S,q∈qs\/q=⟨x,w.heap.size+1+1,s,C,ao,m,c⟩)/\aa (λk=>oT sb qs k\/k=sb+1) w w':=by
 obtain ⟨cn,nw,ol,hN,hL,q9⟩:=h.ring;obtain ⟨n,hm⟩:=h.map;have hll:sb+1+1+1<w.heap.size:=(TX.1 h.R4).1;obtain ⟨N,ky⟩:∃ N,N=w.heap.size+1+1:=⟨_,rfl⟩;obtain ⟨g,z⟩:∃ g:Pq,g=⟨x,N,s,C,ao,m,c⟩:=⟨_,rfl⟩;have q6:∀ a,oT sb qs a->a<w.heap.size:=λa r=>(h.apart a r).2.2.2.1;have Z:N∉sb::jV qs:=λe=>by
  have:=q6 N (by rcases Ur.1 e with e|e;exact .inl e;exact .inr e);omega
 have W:=hL.put h.nd Z;obtain ⟨A,kb⟩:∃ A,A=ir (ir nw N sb) (ol sb) N:=⟨_,rfl⟩;obtain ⟨F,kc⟩:∃ F,F=ir (ir ol N (ol sb)) sb N:=⟨_,rfl⟩;obtain ⟨cn',k5⟩:∃ cn',cn'=cnN cn N (g.cn D L G):=⟨_,rfl⟩;obtain ⟨f,I⟩:∃ f,f=es++[(x,N,n)]:=⟨_,rfl⟩;rw [<- kb,<- kc] at W;have h3:oT sb qs (ol sb):=by
  rcases hL.Sf with e|e
  . exact .inl e.1
  . exact .inr e
 have J:g.nb=N:=by rw [z]
 have kr:∀ q∈g::qs,cn' q.nb=q.cn D L G:=λq d=>by
  rw [k5];unfold cnN;rcases Ur.1 d with e|e
  . rw [e,J,if_pos rfl]
  . rw [if_neg (show ¬ q.nb=N from λt=>Z (UJ _ (by rw [<- t];exact T6.2 ⟨q,e,rfl⟩))),q9 q e]
 have ko:(cL f).Nodup:=by
  have e:cL f=cL es++[x]:=by rw [I];simp [cL]
  rw [e,UU];exact ⟨h.lo,by simp,λa r b hb e=>hx (by rw [Vp] at hb;rw [<- hb,<- e];exact r)⟩
 have kx:∀ q∈g::qs,∃ e∈f,e.1=q.lost/\e.2.1=q.nb:=λq d=>by
  rcases Ur.1 d with e|e
  . exact ⟨(x,N,n),by rw [I];simp,by rw [e,z],by rw [e,z]⟩
  . obtain ⟨y,hy,o⟩:=h.qs_es q e;exact ⟨y,by rw [I];exact UB _ hy,o⟩
 have ks:∀ e∈f,∃ q∈g::qs,q.lost=e.1/\q.nb=e.2.1:=λe B=>by
  rw [I] at B;rcases Uf.1 B with o|o
  . obtain ⟨q,d,t⟩:=h.TC e o;exact ⟨q,UJ _ d,t⟩
  . rw [Vp] at o;exact ⟨g,UZ ..,by rw [o,z],by rw [o,z]⟩
 have k8:f.length=qs.length+1:=by rw [I,T8,h.len];rfl
 have U:(sb::jV (g::qs)).Nodup:=by
  rw [Ab,J];refine UM.2 ⟨λe=>?_,UM.2 ⟨λe=>Z (UJ _ e),(UM.1 h.nd).2⟩⟩;rcases Ur.1 e with e|e
  . exact Z (by rw [<- e];exact UZ ..)
  . exact (UM.1 h.nd).1 e
 rw [<- J,<- Ab] at W;obtain ⟨l,u,R⟩:∃ l u,g::qs=l++[u]:=⟨(g::qs).dropLast,(g::qs).getLast (by simp),(List.dropLast_concat_getLast (by simp)).symm⟩;have hz:u∈g::qs:=by rw [R];simp
 have T:jV (g::qs)=jV l++u.nb::jV []:=by rw [R];simp [jV]
 have kp:=W;have V:=U;rw [T] at kp V;have H:A sb=u.nb:=by
  rw [kp.last (by simp)];simp [jV]
 obtain ⟨hT,q7,q8⟩:=uZ.take kp V (UM.1 V).1;have kk:∀ a,a∈sb::jV (g::qs)->a=N\/oT sb qs a:=λa r=>by
  rw [Ab,J] at r;rcases Ur.1 r with e|e
  . exact .inr (.inl e)
  . rcases Ur.1 e with e|e
    . exact .inl e
    . exact .inr (.inr e)
 have k7:∀ q∈g::qs,q.nb=u.nb->q∉l:=λq d e qe=>by
  have q4:=(UM.1 V).2;rw [UU] at q4;exact q4.2.2 q.nb (T6.2 ⟨q,qe,rfl⟩) u.nb (by simp) e
 have ke:∀ q∈g::qs,q∈l\/q=u:=λq d=>by
  rw [R] at d;rcases Uf.1 d with e|e
  . exact .inl e
  . exact .inr (Vp.1 e)
 refine (EG (cn':=cn') (regs:=1+((ab (aC (D+L+G) s)).length:Int)) (ao:=ao) (m:=m) (c:=c) h.list hm hx hN (λa r=>⟨(h.apart a r).1,(h.apart a r).2.1⟩) (.inl rfl) h3 ky (by rw [k5,z];rfl) kb kc I (λ_=>⟨ko,?_⟩)).mono ?_
 . obtain ⟨e,B,o,t⟩:=kx u hz;obtain ⟨j,M,q5⟩:=U0 B;refine ⟨j,M,by rw [q5,t,H],⟨_,_,by rw [H,kr u hz,q5,o];rfl⟩,?_,?_,?_⟩
   . rw [H];exact kk _ (UJ _ (T6.2 ⟨u,hz,rfl⟩))
   . rw [H];refine kk _ ?_;rw [T];rcases Ur.1 q7 with e|e
     . rw [e];exact UZ ..
     . exact UJ _ (UB _ e)
   . rw [H];rcases q8 with e|e
     . cases e
     . rw [e];exact .inr (.inl rfl)
 . rintro e w' ⟨rfl,hA,K⟩;have hh:∀ {v:ZV} {nn:Nat} {xs:List ZV},w.ownsRow 0 292 4 v nn xs->∀ k,v.ownBlock=ZZ k->¬ (oT sb qs k\/k=sb+1):=λhw k O q=>by
    obtain ⟨cur,P⟩:=bF hw O;rcases q with q|q
    . obtain ⟨_,_,_,_,cs,hc⟩:=h.apart k q;rw [hc] at P;simp only [UO,Vm] at P;exact absurd P.2.1 (by decide)
    . rw [q,hm] at P;cases P
   have k9:∀ a,sb+1<a->a<=sb+1+1+1->¬ (oT sb qs a\/a=sb+1):=λa h1 h2 q=>by
    rcases q with q|q
    . obtain ⟨q1,q2,q3,_⟩:=h.apart a q;rcases q with q|q
      . omega
      . obtain ⟨p,hp,rfl⟩:=T6.1 q;have:=h.SI p hp;omega
    . omega
   have hs:=(K.block (sb+1+1) (by omega) (k9 _ (by omega) (by omega))).trans h.list;have h6:=(K.block _ hll (k9 _ (by omega) (by omega))).trans h.R4;have kz:∀ q∈g::qs,sb+1+1+1<q.nb:=λq d=>by
    rcases Ur.1 d with e|e
    . rw [e,J];omega
    . exact h.SI q e
   have kf:∀ q∈g::qs,w'.ownsRow 0 292 4 (.slice q.ao q.m q.c) (b9 D L G q.s q.C).length (eh .u8 (b9 D L G q.s q.C)):=λq d=>by
    rcases Ur.1 d with e|e
    . subst z;rw [e];exact bS ho K (λk O q=>hh ho k O q)
    . exact bS (h.own q e) K (λk O q'=>hh (h.own q e) k O q')
   have X:∀ q∈g::qs,(∀ i,(eC q.lost).testBit i=ZY->q.s.testBit i=ZY)/\tells (ll D L G) (ab (aC (D+L+G) q.s))=ZZ q.C:=λq d=>by
    rcases Ur.1 d with e|e
    . subst z;rw [e];exact ⟨hr,ht⟩
    . exact ⟨h.TG q e,h.told q e⟩
   have kh:∀ q∈g::qs,q∈qs\/q=⟨x,w.heap.size+1+1,s,C,ao,m,c⟩:=λq d=>by
    rcases Ur.1 d with e|e
    . right;rw [e,z,ky]
    . exact .inl e
   refine ⟨rfl,?_,K⟩;by_cases kg:((f.length:Nat):Int)<=room
   . obtain ⟨kv,Y⟩:=hA.1 kg;exact ⟨f,g::qs,⟨hs,h6,kv,⟨cn',A,F,λa r=>Y a (kk a (by rcases r with e|e;rw [e];exact UZ ..;exact UJ _ e)),W,kr⟩,U,ko,ks,kx,by rw [k8];rfl,kz,kf,λq d=>(X q d).1,λq d=>(X q d).2⟩,kh⟩
   . obtain ⟨j,M,km,kv,Y⟩:=hA.2 (by omega);rw [H] at Y km;have E:∀ q∈l,q∈g::qs:=λq d=>by rw [R];exact UB _ d
     have qb:f[j].1=u.lost:=by
      obtain ⟨q,d,o,t⟩:=ks _ (T4 M);rcases ke q d with e|e
      . exact absurd e (k7 q d (by rw [t,km]))
      . rw [<- o,e]
     have e0:cL (f.eraseIdx j)=(cL f).eraseIdx j:=uM _ _;have qd:jV l++jV []=jV l:=(by simp [jV]);rw [qd] at hT;refine ⟨f.eraseIdx j,l,⟨hs,h6,kv,⟨cn',_,_,λa r=>Y a (kk a ?_),hT,λq d=>kr q (E q d)⟩,?_,?_,λe B=>?_,λq d=>?_,?_,λq d=>kz q (E q d),λq d=>kf q (E q d),λq d=>(X q (E q d)).1,λq d=>(X q (E q d)).2⟩,λq d=>kh q (E q d)⟩
     . rw [T];rcases r with e|e
       . rw [e];exact UZ ..
       . exact UJ _ (UB _ e)
     . rw [T] at U;exact YD (List.Sublist.cons_cons _ (List.sublist_append_left _ _)) U
     . rw [e0];exact YD (List.eraseIdx_sublist _ _) ko
     . obtain ⟨i,hi,qc,Q⟩:=YG.1 B;obtain ⟨q,d,o,t⟩:=ks e (by rw [<- Q];exact T4 _);refine ⟨q,(ke q d).resolve_right λeq=>?_,o,t⟩;subst eq;have qa:(cL f)[i]'(by simpa [cL] using hi)=(cL f)[j]'(by simpa [cL] using M):=by
        simp only [cL,Ve,Q,qb,o]
       exact qc (ER ko _ _ qa)
     . obtain ⟨e,B,o,t⟩:=kx q (E q d);obtain ⟨i,hi,Q⟩:=U0 B;refine ⟨e,YG.2 ⟨i,hi,λhd=>?_,Q⟩,o,t⟩;subst hd;rw [Q,t] at km;exact k7 q (E q d) km d
     . have:(g::qs).length=l.length+1:=by rw [R];simp
       rw [List.length_eraseIdx_of_lt M,k8];simp at this;omega
def N9 (sb:Nat) (qs:List Pq) (k:Nat):Prop:=(sb<=k/\k<=sb+1+1+1)\/k∈jV qs\/∃ q∈qs,(Value.slice q.ao q.m q.c).ownBlock=ZZ k
def CH {qs:List Pq} (h:oT sb qs k):N9 sb qs k:=h.elim (λe=>.inl (by omega)) λe=>.inr (.inl e)
def gG.keep (h:gG w sb room D L G es qs) (b:∀ k,N9 sb qs k->w'.heap[k]?=w.heap[k]?):gG w' sb room D L G es qs:=by
 obtain ⟨cn,nw,ol,g,hL,f⟩:=h.ring;obtain ⟨n,i⟩:=h.map;exact ⟨(b _ (.inl ⟨by omega,by omega⟩)).trans h.list,(b _ (.inl ⟨by omega,by omega⟩)).trans h.R4,⟨n,(b _ (.inl ⟨by omega,by omega⟩)).trans i⟩,⟨cn,nw,ol,λa c=>(g a c).keep (b a (CH c)),hL,f⟩,h.nd,h.lo,h.TC,h.qs_es,h.len,h.SI,λq d=>Hv (h.own q d) λk e=>b k (.inr (.inr ⟨q,d,e⟩)),h.TG,h.told⟩
def gG.blt (h:gG w sb room D L G es qs) (k:Nat) (a:N9 sb qs k):k<w.heap.size:=by
 have:sb+1+1+1<w.heap.size:=(TX.1 h.R4).1;rcases a with e|e|⟨q,b,e⟩
 . omega
 . exact (h.apart k (.inr e)).2.2.2.1
 . exact P4 (h.own q b) e
def oU (sb:Nat) (room:Int) (D L G:Nat) (es:List (Nat×Nat×Nat)) (qs:List Pq) (ho:Nat):aU where
 ps:=sb+1+1+1
 ho:=ho
 bl:=N9 sb qs
 S:=λw=>gG w sb room D L G es qs
 keep:=λ_ _ h hk=>h.keep hk
 kd:=λw h k hk cs T z e=>by
  rcases hk with ⟨h1,h2⟩|hk|⟨q,hq,hk⟩
  . have hx:k=sb\/k=sb+1\/k=sb+1+1\/k=sb+1+1+1:=by omega
    rcases hx with rfl|rfl|rfl|rfl
    . obtain ⟨_,_,_,_,cs',q⟩:=h.apart k (.inl rfl)
      rw [q] at e;injection e with e;injection e with _ e;exact .inr (.inr (.inl e.symm))
    . obtain ⟨n,q⟩:=h.map;rw [q] at e;injection e with e;cases e
    . have q:w.heap[sb+1+1]?=_:=h.list
      rw [q] at e;injection e with e;injection e with _ e;exact .inr (.inl e.symm)
    . rw [h.R4] at e;injection e with e;injection e with _ e;exact .inl e.symm
  . obtain ⟨_,_,_,_,cs',q⟩:=h.apart k (.inr hk)
    rw [q] at e;injection e with e;injection e with _ e;exact .inr (.inr (.inl e.symm))
  . obtain ⟨cur,q⟩:=bF (h.own q hq) hk
    rw [q] at e;injection e with e;injection e with _ e;exact .inr (.inr (.inr e.symm))
 lt:=λ_ h=>h.blt
 cl:=λw h k hk=>by
  rcases hk with ⟨h1,h2⟩|hk|⟨q,hq,hk⟩
  . have hx:k=sb\/k=sb+1\/k=sb+1+1\/k=sb+1+1+1:=by omega
    rcases hx with rfl|rfl|rfl|rfl
    . obtain ⟨_,_,_,_,cs',q⟩:=h.apart k (.inl rfl)
      exact .inr ⟨_,_,_,q⟩
    . exact .inl rfl
    . exact .inr ⟨_,_,_,h.list⟩
    . exact .inr ⟨_,_,_,h.R4⟩
  . obtain ⟨_,_,_,_,cs',q⟩:=h.apart k (.inr hk)
    exact .inr ⟨_,_,_,q⟩
  . obtain ⟨cur,q⟩:=bF (h.own q hq) hk
    exact .inr ⟨_,_,_,q⟩
def oV (sb:Nat) (room:Int) (D L G:Nat) (ps:aU):Prop:=∃ es qs ho,ps=oU sb room D L G es qs ho
end
end
def CJ {qs qs':List Pq} (h:∀ p,p∈qs'↔p∈qs) (c:N9 sb qs' k):N9 sb qs k:=by
 rcases c with e|e|⟨q,a,e⟩
 . exact .inl e
 . obtain ⟨q,a,b⟩:=T6.1 e;exact .inr (.inl (T6.2 ⟨q,(h q).1 a,b⟩))
 . exact .inr (.inr ⟨q,(h q).1 a,e⟩)
def gG.cell {qs:List Pq} (h:gG w sb room D L G es qs):w.cell? ⟨sb+1+1+1,0,Z0⟩=ZZ (Z7 (ZZ ⟨sb+1+1,0,Z0⟩)):=by
 have a:=h.R4;simp [World.cell?,a]
theorem L9 {qs:List Pq} (t:gG w sb room D L G es qs) {lost:Nat} (T:lost∈cL es):∃ q d,q∈qs/\q.lost=lost/\(∀ p,p∈d↔p∈qs)/\ZU ZT 153 #[Z7 (ZZ ⟨sb+1+1+1,0,Z0⟩),bK D L G (eC lost:Nat) (fH lost)] w λe w'=>nC D L G q.s q.ao q.m q.c e/\gG w' sb room D L G es d/\aa (oT sb qs) w w':=by
 obtain ⟨q,d,R,S,B,E⟩:=Qx t T;refine ⟨q,d,R,S,B,?_⟩;obtain ⟨s,hs⟩:=nM (q.s);obtain ⟨ao,Q⟩:=nM (q.ao);obtain ⟨m,P⟩:=nM (q.m);obtain ⟨c,K⟩:=nM (q.c);rw [hs,Q,P,K] at E ⊢;clear hs Q P K;have f:=vL.new w D L G (eC lost:Nat) (fH lost);obtain ⟨w2,k0⟩:=nM ((w.alloc (Z5 #[Z8 Z9 (D:Int),Z8 Z9 (L:Int),Z8 Z9 (G:Int),Z8 .u64 ((eC lost:Nat):Int),Z3 (fH lost)] 184)).alloc (Z5 #[Z8 Z9 0,Z6 Z0 0 0] 187));rw [k0] at f;obtain ⟨c0,c1,V,W,X⟩:=f.cells;have j:∀ k,N9 sb qs k->k<w.heap.size:=t.blt;have g:∀ k,N9 sb d k->k<w.heap.size:=λk b=>j k (CJ B b);have u:=t.keep λk b=>f.below.block k (j k b);have hy:=u.cell;obtain ⟨z,i⟩:∃ z:Int,1+((ab (aC (D+L+G) s)).length:Int)=z:=⟨_,rfl⟩;have J:∀ w',bW w2 w'->ZU ZT 171 #[Z7 (ZZ ⟨sb+1+1,0,Z0⟩),bK D L G (eC lost:Nat) (fH lost)] w' λe o=>e=Z4 (Z1 #[.agg #[Z8 Z9 z,.slice ao m c],Z3 ZY])/\gG o sb room D L G es d/\aa (oT sb qs) w' o:=λw' hb=>by
  rw [<- i];exact E w' (u.keep λk b=>hb.block k (TZ (j k b) f.below.size))
 have C:bW w2 (w2.alloc (Z5 #[Z8 Z9 0,Z6 Z0 0 0] 187)):=bA w2 _;obtain ⟨Y,d1,Z,d3,d4⟩:=(f.mono C).cells;have dp:=(u.keep λk b=>C.block k (TZ (j k b) f.below.size)).cell;have k6:=f.size;have O:∀ k,oT sb qs k->k<w.heap.size:=λk b=>j k (CH b);have M:=al O;have H:=a5 f g i J;clear f J C t u g j O E B R S T;unfold bK at H ⊢;unfold nC;rw [i];clear i;go_enter func153,ntmps153;go_upto_region 1 with fail;go_cut [6,7] from 10 to 18 (λv6 v7 wx=>v7=Z3 ZY/\∃ r,v6=Z7 (ZZ ⟨r,0,Z0⟩)/\w2.heap.size<=r/\wx.heap[r]?=ZZ (Z5 #[Z8 Z9 z,.slice ao m c] 187 (0,0))/\gG wx sb room D L G es d/\aa (oT sb qs) w2 wx)
 case first=>
  go_region_with (go_at_call 171;refine (H.out.2.2.2 _ ?_).mono ?_;(first|exact (TY _ _).drew|exact ((TY _ _).drew).alloc lR _);rintro e w3 ⟨rfl,h,a⟩;(try (have F:w3.heap[w2.heap.size]?=ZZ (Z5 #[Z8 Z9 0,Z6 Z0 0 0] 187 (0,0)):=(a.block w2.heap.size (by simp) (λq=>by have:=M.out _ q;omega)).trans (Uc w2.drew _);obtain ⟨r0,r1,g1,g0⟩:=aw F;have U:=al F;clear F));have I:aa (oT sb qs) w2 w3:=(by first|exact (aa.drew w2).trans a|exact aa.after ((bA w2 _).drew) a);have x:=au h I;clear h a I);all_goals (go_wp2_with fail;go_meet;case rel=>(
   obtain ⟨h,a⟩:=x.out;have g:=H.out.2.1;have hg:=a.size;first
    | (refine ⟨rfl,w2.heap.size,rfl,TV _,iR (y':=.slice ao m c) (iQ (x':=Z8 Z9 z) U.out),h.keep λk b=>(iq w3 w2.heap.size 0 1 _ _).block k (by have:=g k b;omega) (by have:=g k b;omega),?_⟩
       have n:=iq w3 w2.heap.size 0 1 (Z8 Z9 z) (.slice ao m c);exact ⟨n.os.trans a.os,n.tape.trans a.tape,n.output.trans a.output,TW a.size n.size,λk y A=>(n.block k (by omega) (by omega)).trans (a.block k y A)⟩)
    | exact ⟨rfl,w3.heap.size,rfl,hg,Uc _ _,h.keep λk b=>Ux _ _ _ (by have:=g k b;omega),a.os,a.tape,a.output,by rw [Uq];omega,λk y A=>(Ux _ _ _ (by omega)).trans (a.block k y A)⟩))
 case rest=>
  clear c0 c1 V W X Y d1 Z d3 d4 dp hy;rename ZW=>w3;obtain ⟨rfl,r,rfl,k5,hr,h,a⟩:=hcut;obtain ⟨f,g,i,_⟩:=H.out;have l:=(a.block (w.heap.size+1) (by omega) (λq=>by have:=M.out _ q;omega)).trans f.res;obtain ⟨q0,q1,g1,g0⟩:=aw l;obtain ⟨r0,r1,_,_⟩:=aw hr;have x:=aE l h a;clear l h a hr f g i;go_wp2;obtain ⟨l,h,a⟩:=x.out;obtain ⟨f,g,i,_⟩:=H.out;obtain ⟨n0,n1,_⟩:=aw (iR (y':=.slice ao m c) (iQ (x':=Z8 Z9 z) l));have N:aa (λk=>k=w.heap.size+1) w3 ((w3.setCell ⟨w.heap.size+1,0,Z0⟩ (Z8 Z9 z)).setCell ⟨w.heap.size+1,1,Z0⟩ (.slice ao m c)):=iq w3 (w.heap.size+1) 0 1 _ _;refine Um (v:=Z1 #[.agg #[Z8 Z9 z,.slice ao m c],.nilIface]) (by simp [results,results153,go_sem,n0,n1]) rfl ?_;exact ⟨rfl,h.keep λk b=>N.block k (by have:=g k b;have:=a.size;omega) (by have:=g k b;omega),(aa.after f.below a).later N (λk b q=>by omega)⟩
section
def Ma:¬ ry 231:=by unfold ry;decide
section
variable {w':ZW} {D L G:Nat} {Kind:aU->Prop} {ps:aU}
def Qz (D L G:Nat) (Kind:aU->Prop) (ps:aU) (l1:Nat) (w1:ZW) (v6 v7:ZV) (wx:ZW):Prop:=v7=.nilIface/\∃ gb ps' s C ao m c,v6=Z7 (ZZ ⟨gb,0,Z0⟩)/\w1.heap.size<=gb/\wx.heap[gb]?=ZZ (Z5 #[Z8 Z9 (1+((ab (aC (D+L+G) s)).length:Int)),.slice ao m c] 187 (0,0))/\EP D L G Kind ps ps' l1 s C ao m c w1.heap.size wx/\aa ps.bl w1 wx
def IS (e:EP D L G Kind ps ps' l1 s C ao m c w1.heap.size w3) (d:bW w1 w') (b:aa ps.bl w' w3) :
 Qz D L G Kind ps l1 w1 (Z7 (ZZ ⟨w3.heap.size,0,Z0⟩)) .nilIface (w3.alloc (Z5 #[Z8 Z9 (1+((ab (aC (D+L+G) s)).length:Int)),.slice ao m c] 187)):=by
 have a:bW w3 (w3.alloc (Z5 #[Z8 Z9 (1+((ab (aC (D+L+G) s)).length:Int)),.slice ao m c] 187)):=bA _ _;exact ⟨rfl,_,ps',s,C,ao,m,c,rfl,TW d.size b.size,Uc _ _,e.keep (T:=λ_=>False) (aa.RS a _) (λ_ q=>q.elim),(aa.after d b).trans (aa.RS a _)⟩
def ES (n:EP D L G Kind ps ps' l1 s C ao m c (w1.heap.size+1) w3) (hl:∀ k,ps.bl k->k<w1.heap.size) (r:w2.heap.size=w1.heap.size) (o:bW w1 w2) (g:aa ps.bl (w2.alloc (Z5 #[Z8 Z9 0,Z6 Z0 0 0] 187)) w3) :
 Qz D L G Kind ps l1 w1 (Z7 (ZZ ⟨w1.heap.size,0,Z0⟩)) .nilIface ((w3.setCell ⟨w1.heap.size,0,Z0⟩ (Z8 Z9 (1+((ab (aC (D+L+G) s)).length:Int)))).setCell ⟨w1.heap.size,1,Z0⟩ (.slice ao m c)):=by
 have p:w3.heap[w1.heap.size]?=ZZ (Z5 #[Z8 Z9 0,Z6 Z0 0 0] 187 (0,0)):=(g.block w1.heap.size (by rw [Uq];omega) (λq=>by have:=hl _ q;omega)).trans (by rw [<- r];exact Uc _ _);have b:=iq w3 w1.heap.size 0 1 (Z8 Z9 (1+((ab (aC (D+L+G) s)).length:Int))) (.slice ao m c);have j:EP D L G Kind ps ps' l1 s C ao m c w1.heap.size ((w3.setCell ⟨w1.heap.size,0,Z0⟩ (Z8 Z9 (1+((ab (aC (D+L+G) s)).length:Int)))).setCell ⟨w1.heap.size,1,Z0⟩ (.slice ao m c)):=by
  have h:=n.keep b (λk (q:k=w1.heap.size)=>⟨by omega,λe=>by have:=hl k e;omega⟩);exact ⟨h.kind,h.psE,h.hoE,h.kit,λk d=>(h.bl k d).imp id (by omega),λk d=>(h.ob k d).imp id (by omega),h.own,h.TG,h.told⟩
 have l:bW w1 (w2.alloc (Z5 #[Z8 Z9 0,Z6 Z0 0 0] 187)):=o.alloc (by omega) _;have a:=aa.after l g;exact ⟨rfl,_,ps',s,C,ao,m,c,rfl,TV _,iR (iQ p),j,b.os.trans a.os,b.tape.trans a.tape,b.output.trans a.output,TW a.size b.size,λk f i=>(b.block k (TZ f a.size) (by omega)).trans (a.block k f i)⟩
end
end
section
section
variable (D L G lost:Nat) (hr:eF D L G=ZY) (hD1:1<=D) (hD:D<=12) (hL:1<=L) (hL4:L<=4) (hG:G<=4) (hdiv:D%L=0) (h16:D+L+G<=16) (hl:lost<2^(D+L+G))
include hr hD1 hD hL hL4 hG hdiv h16 hl
theorem IT (rd:Bool) (w:ZW) (g:aG w) (i:3<=w.heap.size):ZU ZT 172 #[bK D L G lost rd] w (Qm D L G lost w):=by
 have a:=vL.new w D L G lost rd;obtain ⟨w2,n⟩:=nM ((w.alloc (Z5 #[Z8 Z9 (D:Int),Z8 Z9 (L:Int),Z8 Z9 (G:Int),Z8 .u64 (lost:Int),Z3 rd] 184)).alloc (Z5 #[Z8 Z9 0,Z6 Z0 0 0] 187));rw [n] at a;obtain ⟨c0,c1,r,t,u⟩:=a.cells;have l:=Cf D L G lost hr hD1 hD hL hL4 hG hdiv h16 hl w2 (g.mono (by omega) a.below) (TW i a.below.size);have j:=qT D L G lost hr hD1 hD hL hL4 hG hdiv h16 hl w2 (g.mono (by omega) a.below) (TW i a.below.size);have H:=aE a l j;clear a j l g;unfold bK;cases rd;all_goals (
  go_enter func172,ntmps172;go_wp2_with fail;first|refine H.out.2.1.mono ?_|refine H.out.2.2.mono ?_
  rintro e w3 ⟨z,ao,m,c,er,rfl,b,f⟩;have a:=H.out.1;have hs:=a.size;have d:=(b.block (w.heap.size+1) (by omega)).trans a.res;obtain ⟨M,N,K,J⟩:=aw d;have o:=a5 f b d hs;clear f b d c0 c1 r t u n a;go_wp2;obtain ⟨f,b,d,hs⟩:=o.out;obtain ⟨n0,A,_⟩:=aw (iR (y':=.slice ao m c) (iQ (x':=Z8 Z9 z) d));refine Um (v:=Z1 #[.agg #[Z8 Z9 z,.slice ao m c],er]) (by simp [results,results172,go_sem,n0,A]) rfl ?_;have x:bW w w3:=H.out.1.below.trans (b.mono H.out.1.below.size);refine ⟨z,ao,m,c,er,rfl,(x.setCell (p:=⟨w.heap.size+1,0,Z0⟩) (by show w.heap.size<=w.heap.size+1;omega) _).setCell (p:=⟨w.heap.size+1,1,Z0⟩) (by show w.heap.size<=w.heap.size+1;omega) _,?_⟩;rcases f with q|⟨B,s,C,E,F,I,k⟩
  . exact .inl q
  . have h:(Value.slice ao m c).ownBlock≠ZZ (w.heap.size+1):=λe=>by have:=jM k e;omega
    have y:=(k.kept (dk w3 (w.heap.size+1) 0 (Z8 Z9 z)) (.inr h)).kept (dk _ (w.heap.size+1) 1 (.slice ao m c)) (.inr h);exact .inr ⟨B,s,C,E,F,I,fZ y (by omega)⟩)
end
def PlA (sb:Nat) (room:Int) (D L G x:Nat) (qs:List Pq) (w w':ZW) (z:Int) (ao:Option Addr) (m c:Nat) (er:ZV):Prop:=(er=.iface 58 (Z8 Z9 3)/\z=0/\ao=Z0/\m=0/\c=0/\bW w w')\/(er=.nilIface/\∃ s C es' qs',(∀ i,(eC x).testBit i=ZY->s.testBit i=ZY)/\tells (ll D L G) (ab (aC (D+L+G) s))=ZZ C/\z=1+((ab (aC (D+L+G) s)).length:Int)/\w'.ownsRow w.heap.size 292 4 (.slice ao m c) (b9 D L G s C).length (eh .u8 (b9 D L G s C))/\gG w' sb room D L G es' qs'/\(∀ q∈qs',q∈qs\/(w.heap.size<=q.nb/\∀ k,(Value.slice q.ao q.m q.c).ownBlock=ZZ k->w.heap.size<=k))/\aa (λk=>oT sb qs k\/k=sb+1) w w')
section
variable (D L G x:Nat) (hr:eF D L G=ZY) (hD1:1<=D) (hD:D<=12) (hL:1<=L) (hL4:L<=4) (hG:G<=4) (hdiv:D%L=0) (h16:D+L+G<=16) (hl:eC x<2^(D+L+G))
include hr hD1 hD hL hL4 hG hdiv h16 hl
theorem Mc {qs:List Pq} (V:gG w sb room D L G es qs) (hx:x∉cL es) (hT:aG w) (h2:3<=w.heap.size):ZU ZT 153 #[Z7 (ZZ ⟨sb+1+1+1,0,Z0⟩),bK D L G (eC x:Nat) (fH x)] w λe w'=>∃ z ao m c er,e=Z4 (Z1 #[.agg #[Z8 Z9 z,.slice ao m c],er])/\PlA sb room D L G x qs w w' z ao m c er:=by
 have l:=vL.new w D L G (eC x:Nat) (fH x);obtain ⟨w2,q2⟩:=nM ((w.alloc (Z5 #[Z8 Z9 (D:Int),Z8 Z9 (L:Int),Z8 Z9 (G:Int),Z8 .u64 ((eC x:Nat):Int),Z3 (fH x)] 184)).alloc (Z5 #[Z8 Z9 0,Z6 Z0 0 0] 187));rw [q2] at l;obtain ⟨c0,c1,R,S,U⟩:=l.cells;have g:=V.keep λk a=>l.below.block k (V.blt k a);have k8:=g.list;obtain ⟨n,k9⟩:=g.map;have kz:=g.cell;have k0:∀ w',bW w2 w'->ZU ZT 171 #[Z7 (ZZ ⟨sb+1+1,0,Z0⟩),bK D L G (eC x:Nat) (fH x)] w' λe hd=>e=Z4 (Z1 #[.agg #[Z8 Z9 0,Z6 Z0 0 0],Z3 ZX])/\bW w' hd:=λw' hb=>EF ((hb.block _ (TX.1 k8).1).trans k8) ((hb.block _ (TX.1 k9).1).trans k9) hx;have kb:bW w2 (w2.alloc (Z5 #[Z8 Z9 0,Z6 Z0 0 0] 187)):=bA w2 _;obtain ⟨d0,d1,d2,d3,d4⟩:=(l.mono kb).cells;have dp:=(g.keep λk a=>kb.block k (g.blt k a)).cell;have kf:=aE (TX.1 V.R4).1 (λk (a:oT sb qs k)=>V.blt k (CH a)) hx;have q5:=l.size;have H:=aE l g k0;clear l g k0 k8 k9 V kb hx;unfold bK at H ⊢;go_enter func153,ntmps153;go_upto_region 1 with fail;go_cut [6,7] from 10 to 18 (λv6 v7 wx=>v7=Z3 ZX/\bW w2 wx)
 case first=>
  go_region_with (go_at_call 171;refine (H.out.2.2 _ ?_).mono ?_;(first|exact (TY _ _).drew|exact ((TY _ _).drew).alloc lR _);rintro e w3 ⟨rfl,A⟩;(try (have q3:w3.heap[w2.heap.size]?=ZZ (Z5 #[Z8 Z9 0,Z6 Z0 0 0] 187 (0,0)):=(A.block w2.heap.size (by simp)).trans (Uc w2.drew _);obtain ⟨r0,r1,g1,g0⟩:=aw q3;clear q3));have hy:bW w2 w3:=(by first|exact ((TY _ w2).drew).trans A|exact ((bA w2 _).drew).trans (A.mono (by simp)));have O:=al hy;clear A hy);all_goals (go_wp2_with fail;go_meet;case rel=>(refine ⟨rfl,?_⟩;first|exact O.out.alloc O.out.size _|exact (O.out.setCell (p:=⟨w2.heap.size,0,Z0⟩) lR _).setCell (p:=⟨w2.heap.size,1,Z0⟩) lR _))
 case rest=>
  clear c0 c1 R S U d0 d1 d2 d3 d4 dp kz;rename ZW=>w3;obtain ⟨rfl,A⟩:=hcut;obtain ⟨l,g,_⟩:=H.out;have f:=l.mono A;have K:=g.keep λk a=>A.block k (g.blt k a);obtain ⟨c0,c1,R,S,U⟩:=f.cells;have kc:=IT D L G (eC x) hr hD1 hD hL hL4 hG hdiv h16 hl (fH x) w3 (hT.mono (by omega) f.below) (TW h2 f.below.size);unfold bK at kc;have O:=aE f K kc;clear l g f K kc A hT;go_wp2_with fail;refine O.out.2.2.mono ?_;rintro e d ⟨z,ao,m,c,er,rfl,M,ks⟩;clear c0 c1 R S U;obtain ⟨f,K,_⟩:=O.out;have q4:=f.size;rcases ks with ⟨rfl,rfl,rfl,rfl,rfl⟩|⟨rfl,s,C,hs,J,N,kj⟩
  . have I:bW d (d.alloc (Z5 #[Z8 Z9 0,Z6 Z0 0 0] 187)):=bA d _;have t:=M.trans (I.mono M.size);have X:=(t.block (w.heap.size+1) (by omega)).trans f.res;have h:(d.alloc (Z5 #[Z8 Z9 0,Z6 Z0 0 0] 187)).heap[d.heap.size]?=ZZ (Z5 #[Z8 Z9 0,Z6 Z0 0 0] 187 (0,0)):=Uc _ _;obtain ⟨q0,q1,g1,g0⟩:=aw X;obtain ⟨r0,r1,_,_⟩:=aw h;have hg:bW w (d.alloc (Z5 #[Z8 Z9 0,Z6 Z0 0 0] 187)):=f.below.trans (t.mono f.below.size);have Q:=au X hg;clear M I t X h hg f K;go_wp2;obtain ⟨X,hg⟩:=Q.out;obtain ⟨n0,n1,_⟩:=aw (iR (y':=Z6 Z0 0 0) (iQ (x':=Z8 Z9 0) X));refine Um (v:=Z1 #[.agg #[Z8 Z9 0,Z6 Z0 0 0],.iface 58 (Z8 Z9 3)]) (by simp [results,results153,go_sem,n0,n1]) rfl ⟨0,Z0,0,0,_,rfl,.inl ⟨rfl,rfl,rfl,rfl,rfl,?_⟩⟩;exact (hg.setCell (p:=⟨w.heap.size+1,0,Z0⟩) (by show w.heap.size<=w.heap.size+1;omega) _).setCell (p:=⟨w.heap.size+1,1,Z0⟩) (by show w.heap.size<=w.heap.size+1;omega) _
  have kp:=al (show w.heap.size+2<=w3.heap.size/\w3.heap.size<=d.heap.size from ⟨f.size,M.size⟩);have I:bW d (d.alloc (Z5 #[Z8 Z9 z,.slice ao m c] 187)):=bA d _;have t:=M.trans (I.mono M.size);have j:=f.mono t;have y:=K.keep λk a=>t.block k (K.blt k a);have kk:=y.cell;have h:(d.alloc (Z5 #[Z8 Z9 z,.slice ao m c] 187)).heap[d.heap.size]?=ZZ (Z5 #[Z8 Z9 z,.slice ao m c] 187 (0,0)):=Uc _ _;have u:=ay kj I;obtain ⟨i,ke⟩:=nM (d.alloc (Z5 #[Z8 Z9 z,.slice ao m c] 187));rw [ke] at I t j y kk h u;obtain ⟨c0,c1,R,S,U⟩:=j.cells;obtain ⟨r0,r1,_,_⟩:=aw h;have Z:=Qy (w:=i.drew) (y.keep λ_ _=>rfl) kf.out.2.2 (show i.drew.ownsRow 0 292 4 (.slice ao m c) (b9 D L G s C).length (eh .u8 (b9 D L G s C)) from fZ (ay u (TY _ i).drew) (T9 _)) hs J;rw [<- N] at Z;unfold bK at Z;have Q:=hide8 j y h u Z hs J N;clear kj M I t j y h u Z f K hs J N;go_upto_region 6 with fail;go_cut [34] from 28 to 33 (λ_v wx=>(∃ o b,gG wx sb room D L G o b/\∀ q∈b,q∈qs\/q=⟨x,i.drew.heap.size+1+1,s,C,ao,m,c⟩)/\aa (λk=>oT sb qs k\/k=sb+1) i.drew wx)
  case first=>
   go_region_with (go_at_call 173;refine Q.out.2.2.2.2.1.mono ?_;rintro e E ⟨rfl,r,W⟩;have H6:=au r W;clear r W);all_goals (go_wp2_with fail;go_meet;case rel=>exact H6.out)
  case rest=>
   rename ZW=>E;clear c0 c1 R S U r0 r1 kk;obtain ⟨⟨o,b,r,k6⟩,W⟩:=hcut;obtain ⟨j,y,h,u,_,hs,J,N⟩:=Q.out;have F:aa (λk=>oT sb qs k\/k=sb+1) i E:=(aa.drew i).trans W;obtain ⟨ko,kh,_⟩:=kf.out;have km:=j.size;have ky:d.heap.size<i.heap.size:=(TX.1 h).1;have kg:=kp.out;have k7:∀ k,w.heap.size<=k->¬ (oT sb qs k\/k=sb+1):=λk h1 q=>by
    rcases q with q|q
    . have:=kh k q;omega
    . omega
   have B:=(F.block (w.heap.size+1) (by omega) (k7 _ (by omega))).trans j.res;have ki:=(F.block d.heap.size ky (k7 _ (by omega))).trans h;have P:E.ownsRow w3.heap.size 292 4 (.slice ao m c) (b9 D L G s C).length (eh .u8 (b9 D L G s C)):=bS u F (λk a q=>k7 k (by have:=dY u a;omega) q);obtain ⟨q0,q1,g1,g0⟩:=aw B;obtain ⟨r0,r1,_,_⟩:=aw ki;have q6:i.drew.heap.size=i.heap.size:=rfl;have Y:∀ q∈b,q∈qs\/(w.heap.size<=q.nb/\∀ k,(Value.slice q.ao q.m q.c).ownBlock=ZZ k->w.heap.size<=k):=λq hq=>(k6 q hq).imp id λe=>by
    subst e;exact ⟨by show w.heap.size<=i.drew.heap.size+1+1;omega,λk a=>by have:=dY P a;omega⟩
   have H6:=hide9 B r P F Y km ko kg y.blt;clear r k6 Y W j y h u F B ki P hs J N kh k7;go_wp2;obtain ⟨B,r,P,F,Y,km,ko,kg,kr⟩:=H6.out;obtain ⟨n0,n1,_⟩:=aw (iR (y':=.slice ao m c) (iQ (x':=Z8 Z9 z) B));have ka:aa (λk=>k=w.heap.size+1) E ((E.setCell ⟨w.heap.size+1,0,Z0⟩ (Z8 Z9 z)).setCell ⟨w.heap.size+1,1,Z0⟩ (.slice ao m c)):=iq E (w.heap.size+1) 0 1 _ _;refine Um (v:=Z1 #[.agg #[Z8 Z9 z,.slice ao m c],.nilIface]) (by simp [results,results153,go_sem,n0,n1]) rfl ?_;obtain ⟨j,_,_,_,_,hs,J,N⟩:=Q.out;have kv:∀ k,N9 sb b k->k≠w.heap.size+1:=λk a e=>by
    obtain ⟨cs,T,zz,kx⟩:∃ cs T zz,E.heap[k]?=ZZ (Z5 cs T zz):=⟨_,_,_,by rw [e];exact B⟩;rw [e,B] at kx;have:=(oU sb room D L G o b 0).kd E r k a _ _ _ (by rw [e];exact B);exact absurd this (by unfold ry;decide)
   exact ⟨z,ao,m,c,_,rfl,.inr ⟨rfl,s,C,o,b,hs,J,N,fZ (bS P ka (λk a q=>by have:=dY P a;omega)) (by omega),r.keep λk a=>ka.block k (r.blt k a) (kv k a),Y,(aa.after j.below F).later ka (λk a q=>by omega)⟩⟩
end
end
section
def PnA (D L G:Nat) (Kind:aU->Prop) (ps:aU) (lost:Nat) (w:ZW) (e:Ending) (w':ZW):Prop:=(e=tU/\bW w w')\/∃ (ps':aU) (s:Nat) (C:Ck) (ao:Option Addr) (m c:Nat),nC D L G s ao m c e/\EP D L G Kind ps ps' lost s C ao m c w.heap.size w'/\aa ps.bl w w'
section
variable (D L G:Nat) (hr:eF D L G=ZY) (hD1:1<=D) (hD:D<=12) (hL:1<=L) (hL4:L<=4) (hG:G<=4) (hdiv:D%L=0) (h16:D+L+G<=16)
include hr hD1 hD hL hL4 hG hdiv h16
def Md {x:Nat} (hl:eC x<2^(D+L+G)) {w:ZW} {sb:Nat} {room:Int} {ps:aU} (hK:oV sb room D L G ps) (E:ps.S w) (F:aG w) (b:3<=w.heap.size):ZU ZT 153 #[Z7 (ZZ ⟨ps.ps,0,Z0⟩),bK D L G (eC x:Nat) (fH x)] w (PnA D L G (oV sb room D L G) ps (eC x) w):=by
 obtain ⟨es,qs,ho,rfl⟩:=hK;have t:gG w sb room D L G es qs:=E;by_cases u:x∈cL es
 . obtain ⟨q,a,h,H,n,J⟩:=L9 t u;refine J.mono ?_;rintro e w' ⟨y,b,i⟩;have j:=(n q).2 h;exact .inr ⟨oU sb room D L G es a ho,q.s,q.C,q.ao,q.m,q.c,y,⟨⟨es,a,ho,rfl⟩,rfl,rfl,b,λk d=>.inl (CJ n d),λk d=>.inl (.inr (.inr ⟨q,h,d⟩)),b.own q j,H▸b.TG q j,b.told q j⟩,i.mono λk _ e=>CH e⟩
 . refine (Mc D L G x hr hD1 hD hL hL4 hG hdiv h16 hl t u F b).mono ?_;rintro e w' ⟨z,ao,m,c,er,rfl,⟨rfl,rfl,rfl,rfl,rfl,I⟩|⟨rfl,s,C,g,a,b,i,rfl,o,A,r,B⟩⟩
   . exact .inl ⟨rfl,I⟩
   refine .inr ⟨oU sb room D L G g a ho,s,C,ao,m,c,rfl,⟨⟨g,a,ho,rfl⟩,rfl,rfl,A,λk d=>?_,λk d=>.inr (dY o d),fZ o (T9 _),b,i⟩,B.mono λk _ e=>?_⟩
   . rcases d with q|q|⟨q,h,v⟩
     . exact .inl (.inl q)
     . obtain ⟨p,K,l⟩:=T6.1 q;rcases r p K with f|f
       . exact .inl (.inr (.inl (T6.2 ⟨p,f,l⟩)))
       . exact .inr (l▸f.1)
     . rcases r q h with f|f
       . exact .inl (.inr (.inr ⟨q,f,v⟩))
       . exact .inr (f.2 k v)
   . rcases e with e|e
     . exact CH e
     . exact .inl (by omega)
theorem IU (hK:oV sb room D L G ps) {w:ZW} (I:ps.S w) (Q:aG w) (f:3<=w.heap.size) {l:Nat} (T:l<2^(D+L+G)):ZU ZT 147 #[Z7 (ZZ ⟨ps.ps,0,Z0⟩),.agg #[Z8 Z9 D,Z8 Z9 L,Z8 Z9 G],Z8 .u64 l] w (PnA D L G (oV sb room D L G) ps l w):=by
 have a:=CI.new w D L G;have g:((w.alloc (Z5 #[Z8 Z9 (D:Int),Z8 Z9 (L:Int),Z8 Z9 (G:Int)] 26)).alloc (Z5 #[Z8 Z9 0,Z6 Z0 0 0] 187)).heap.size=w.heap.size+2:=by simp
 obtain ⟨w2,N⟩:=nM ((w.alloc (Z5 #[Z8 Z9 (D:Int),Z8 Z9 (L:Int),Z8 Z9 (G:Int)] 26)).alloc (Z5 #[Z8 Z9 0,Z6 Z0 0 0] 187));rw [N] at a g;obtain ⟨c0,c1,P⟩:=eX a.par;have J:=Md D L G hr hD1 hD hL hL4 hG hdiv h16 (x:=2*l+1) (by rw [show eC (2*l+1)=l by unfold eC;omega];exact T) hK (ps.keep _ _ I λk b=>a.below.block k (ps.lt _ I k b)) (Q.mono (by omega) a.below) (TW f a.below.size);rw [show eC (2*l+1)=l by unfold eC;omega,show fH (2*l+1)=ZY from decide_eq_true (by omega)] at J;unfold bK at J;have H:=a5 a g J (ps.lt _ I);clear a g J I Q T;go_enter func147,ntmps147;go_wp2_with fail;refine H.out.2.2.1.mono ?_;rintro e w3 (⟨rfl,r⟩|⟨ps',s,C,ao,m,c,R,X,o⟩)
 . unfold tU;obtain ⟨a,g,_,t⟩:=H.out;have d:=(r.block (w.heap.size+1) (by omega)).trans a.res;obtain ⟨Z,r1,W,V⟩:=aw d;have K:=au d (a.below.trans (r.mono a.below.size));clear r d c0 c1 P N a;go_wp2;obtain ⟨d,r⟩:=K.out;obtain ⟨n0,O,_⟩:=aw (iR (y':=Z6 Z0 0 0) (iQ (x':=Z8 Z9 0) d));refine Um (v:=Z1 #[.agg #[Z8 Z9 0,Z6 Z0 0 0],.iface 58 (Z8 Z9 3)]) (by simp [results,results147,go_sem,n0,O]) rfl (.inl ⟨rfl,?_⟩);exact (r.setCell (p:=⟨w.heap.size+1,0,Z0⟩) (by show w.heap.size<=w.heap.size+1;omega) _).setCell (p:=⟨w.heap.size+1,1,Z0⟩) (by show w.heap.size<=w.heap.size+1;omega) _
 . obtain ⟨y,f,A,i,j,n,B,E,F⟩:=X;unfold nC at R;subst R;obtain ⟨z,u⟩:∃ z:Int,1+((ab (aC (D+L+G) s)).length:Int)=z:=⟨_,rfl⟩;rw [u];obtain ⟨a,g,_,t⟩:=H.out;have d:=(o.block (w.heap.size+1) (by omega) (λq=>by have:=t _ q;omega)).trans a.res;obtain ⟨Z,r1,W,V⟩:=aw d;have K:=hide12 y f A i j n B E F o d u;clear y f A i j n B E F o d c0 c1 P N u a;go_wp2;obtain ⟨y,f,A,i,j,n,B,E,F,o,d,u⟩:=K.out;obtain ⟨a,g,_,t⟩:=H.out;obtain ⟨n0,O,_⟩:=aw (iR (y':=.slice ao m c) (iQ (x':=Z8 Z9 z) d));have M:aa (λk=>k=w.heap.size+1) w3 ((w3.setCell ⟨w.heap.size+1,0,Z0⟩ (Z8 Z9 z)).setCell ⟨w.heap.size+1,1,Z0⟩ (.slice ao m c)):=iq w3 (w.heap.size+1) 0 1 _ _;have Y:∀ k,ps'.bl k->k≠w.heap.size+1:=λk b=>by rcases j k b with q|q;have:=t k q;omega;omega
   refine Um (v:=Z1 #[.agg #[Z8 Z9 z,.slice ao m c],.nilIface]) (by simp [results,results147,go_sem,n0,O]) rfl ?_;have h:=(o.mono λ_ _ q=>(.inl q:_\/_)).trans (M.mono λk _ q=>(.inr q:ps.bl k\/_));refine .inr ⟨ps',s,C,ao,m,c,by unfold nC;rw [u],⟨y,f,A,ps'.keep _ _ i λk b=>M.block k (ps'.lt _ i k b) (Y k b),λk b=>?_,λk b=>?_,bS B M λk b q=>?_,E,F⟩,⟨h.os.trans a.below.os,h.tape.trans a.below.tape,h.output.trans a.below.output,TW a.below.size h.size,λk b hn=>(h.block k (by have:=a.below.size;omega) (λq=>q.elim hn (by omega))).trans (a.below.block k b)⟩⟩
   . rcases j k b with q|q
     . exact .inl q
     . exact .inr (by omega)
   . rcases n k b with q|q
     . exact .inl q
     . exact .inr (by omega)
   . rcases n k b with U|U
     . have:=t k U;omega
     . omega
end
end
section
structure vM (w:ZW) (r v b g N p D L G:Nat) (Kind:aU->Prop) (ps:aU) (A:aH) (F:aR) (dl:a8):Prop where
 vol:pH w v p D L G ps.ps ps.ho A F
 nN:N=D+L+G
 hol:ps.ho<2^N
 kit:ps.S w
 kind:Kind ps
 apt:∀ k,ps.bl k->3<=k/\k≠v/\¬ F.S k
 vr:v≠r
 vg:v≠g
 rg:r≠g
 gF:¬ F.S g
 rF:¬ F.S r
 rK:3<=r
 vK:3<=v
 gK:3<=g
 nb:b<A.nb
 cw:A.at b (shF D L G dl)
 len:dl.length<=D*44
 byt:∀ x∈dl,x<256
structure uN (w0:ZW) (r v b g N p D L G:Nat) (A:aH) (F:aR) (Kind:aU->Prop) (ps ps1:aU) (dl:a8) (sp gone hl:Nat) (ds:a8) (f:Nat->ZV) (w:ZW):Prop where
 rd:dI w r v b g N gone sp
 vol:pH w v p D L G ps.ps hl A F
 row:w.rowIs g 31 N f
 kn:Kn w w0.heap.size zH f (Eb D L G dl) ds
 kit:ps1.S w
 kind:Kind ps1
 psE:ps1.ps=ps.ps
 bl:∀ k,ps1.bl k->ps.bl k\/w0.heap.size<=k
 out:aa (λk=>k=g\/k=r\/k=v\/F.S k\/ps.bl k) w0 w
 okd:∀ i∈ds,gnB A b i=ZX/\i<N
 gol:gone<2^N
 hll:hl<2^N
 spl:sp<2^N
 cl:A.clean->ps.ho=0->gone=0/\sp=0
 hn:A.here->ps.ho=0->hl=0
section
variable {w0 w w':ZW} {r v b g N p D L G:Nat} {Kind:aU->Prop} {ps ps1:aU} {A:aH} {F:aR} {dl:a8} {sp gone hl:Nat} {ds:a8} {f:Nat->ZV}
def uN.apart (h:uN w0 r v b g N p D L G A F Kind ps ps1 dl sp gone hl ds f w) (hs:vM w0 r v b g N p D L G Kind ps A F dl) (hr:r<w0.heap.size) (i:g<w0.heap.size) (c:¬ ps.bl r) (a:¬ ps.bl g) (k:Nat) (d:ps1.bl k):3<=k/\k≠v/\k≠r/\k≠g/\¬ F.S k:=by
 rcases h.bl k d with q|q
 . exact ⟨(hs.apt k q).1,(hs.apt k q).2.1,λe=>c (e▸q),λe=>a (e▸q),(hs.apt k q).2.2⟩
 . have:=hs.vol.vol.lt;have:=hs.vol.room;exact ⟨by omega,by omega,by omega,by omega,λe=>by have:=hs.vol.arr.RU e;omega⟩
def pH.Tx {q:Nat} (h:pH w v p D L G q ho A F) {T:Nat->Prop} (a:aa T w w') (b:∀ k,T k->3<=k/\k≠v/\¬ F.S k):pH w' v p D L G q ho A F:=by
 exact { h with vol:=h.vol.keep (a.block _ h.vol.lt λq=>(b _ q).2.1 rfl),arr:=h.arr.keep (λk c=>a.block k (h.arr.RU c) λq=>(b k q).2.2 c),laid:=h.laid.keep (a.block _ h.laid.lt λq=>by have:=(b _ q).1;omega),tab:=h.tab.keep (a.block _ h.tab.lt λq=>by have:=(b _ q).1;omega),room:=TW h.room a.size }
def uN.Tb (h:uN w0 r v b g N p D L G A F Kind ps ps1 dl sp gone hl ds f w) (c:∀ k,ps1.bl k->3<=k/\k≠v/\k≠r/\k≠g/\¬ F.S k) {ps2:aU} (a:aa ps1.bl w w') (l:ps2.S w') (hK:Kind ps2) (o:ps2.ps=ps1.ps) (s:∀ k,ps2.bl k->ps1.bl k\/w.heap.size<=k):uN w0 r v b g N p D L G A F Kind ps ps2 dl sp gone hl ds f w':=by
 have u:=h.out.size;refine { h with rd:=h.rd.keep (a.block _ h.rd.lt λq=>(c _ q).2.2.1 rfl),vol:=h.vol.Tx a λk q=>⟨(c k q).1,(c k q).2.1,(c k q).2.2.2.2⟩,row:=h.row.of_block (a.block _ h.row.lt λq=>(c _ q).2.2.2.1 rfl),kn:=⟨h.kn.1,λi t=>?_⟩,kit:=l,kind:=hK,psE:=o.trans h.psE,bl:=λk q=>(s k q).elim (h.bl k) λe=>.inr (TW u e),out:=h.out.later (a.mono λk _ q=>h.bl k q) ?_ }
 . obtain ⟨bl,m,n,d,j⟩:=h.kn.2 i t;exact ⟨bl,m,n,TZ d a.size,(a.block bl d (cJ h.kit j Ma)).trans j⟩
 . intro k l q;rcases q with q|q
   . exact .inr (.inr (.inr (.inr q)))
   . omega
theorem F8 (q:Nat->Bool) (i:Nat):∀ (l:a8),(gW q l).testBit i=ZY↔i∈l/\q i=ZY:=by
 intro l;suffices ∀ (l:a8) (s:Nat),(l.foldl (λs d=>if q d=ZY then s|||2^d else s) s).testBit i=ZY↔s.testBit i=ZY\/(i∈l/\q i=ZY) by
  have h:=this l 0;rw [YF] at h;unfold gW;rw [h];simp
 intro l;induction l with
 | nil=>intro s;simp
 | cons d l ih=>
  intro s;rw [Wy,ih];by_cases b:q d=ZY
  . rw [if_pos b,Wj,Bool.or_eq_true,XF,decide_eq_true_iff,Ur];constructor
    . rintro ((h|h)|h)
      . exact .inl h
      . subst h;exact .inr ⟨.inl rfl,b⟩
      . exact .inr ⟨.inr h.1,h.2⟩
    . rintro (h|⟨h|h,a⟩)
      . exact .inl (.inl h)
      . exact .inl (.inr h.symm)
      . exact .inr ⟨h,a⟩
  . rw [if_neg b,Ur];constructor
    . rintro (h|h)
      . exact .inl h
      . exact .inr ⟨.inr h.1,h.2⟩
    . rintro (h|⟨h|h,a⟩)
      . exact .inl h
      . subst h;exact absurd a b
      . exact .inr ⟨h,a⟩
def uO (h:uN w0 r v b g N p D L G A F Kind ps ps1 dl sp gone hl ds f w) (hs:vM w0 r v b g N p D L G Kind ps A F dl) (hr:r<w0.heap.size) (o:g<w0.heap.size) (X:¬ ps.bl r) (R:¬ ps.bl g) (T:Nat) (V:T<65536) (l:∀ i,i∈ab T->i<N) :
 ZU ZT 125 #[Z7 (ZZ ⟨r,0,Z0⟩),Z8 .u64 T] w λe w'=>e=Z4 (Z1 #[])/\∃ E,uN w0 r v b g N p D L G A F Kind ps ps1 dl sp (gone|||gW (gnB A b) (QR T gone sp ds)) (hl|||gW A.lost (QR T gone sp ds)) (ds++C7 A b (QR T gone sp ds)) E w'/\aa (λk=>k=g\/k=r\/k=v\/F.S k) w w':=by
 have W:=h.apart hs hr o X R;have:=hs.vol.n;have U:=hs.nN;have K:N<=16:=by rw [U];exact hs.vol.par.s
 have:2^N<=65536:=mZ K;have O:=h.gol;have P:=h.hll;have:=h.spl;have:=hs.gK;have:=hs.rK;have:=hs.vK;have m:∀ i∈QR T gone sp ds,i<N:=λi a=>l i ((zT (by omega) (by omega)).1 a).1;refine (Ig (ds:=ds) (M:=Eb D L G dl) h.vol hs.nb (λi a=>⟨hs.cw i a,(zo hs.vol.par dl (by omega)).1⟩) h.rd h.row h.kn T V (by omega) (by omega) (λi a=>⟨l i a,by have:=l i a;omega⟩) (by omega) hs.vr hs.rK hs.vK hs.gF hs.rF hs.rg hs.vg hs.gK h.out.size o hr hs.vol.vol.lt (λk j=>hs.vol.arr.RU j)).mono ?_;rintro e w' ⟨rfl,Y,Z,⟨H,J,Q⟩,I,d⟩;refine ⟨rfl,H,{ h with rd:=Y,vol:={ h.vol with vol:=Z,arr:=I,laid:=h.vol.laid.keep (d.block _ h.vol.laid.lt λq=>?_),tab:=h.vol.tab.keep (d.block _ h.vol.tab.lt λq=>?_),room:=TW h.vol.room d.size },row:=J,kn:=Q,kit:=ps1.keep _ _ h.kit λk j=>d.block k (ps1.lt _ h.kit k j) (λq=>?_),out:=h.out.trans (d.mono λk _ q=>q.imp_right λq=>q.imp_right λq=>q.imp_right .inl),okd:=λi a=>?_,gol:=Wu O (pI _ _ m),hll:=Wu P (pI _ _ m),cl:=λc c0=>?_,hn:=λc c0=>by rw [h.hn c c0,sZ c];rfl },d⟩
 . rcases q with q|q|q|q
   . omega
   . omega
   . omega
   . exact hs.vol.g q
 . rcases q with q|q|q|q
   . omega
   . omega
   . omega
   . exact hs.vol.t q
 . obtain ⟨_,u,x,y,z⟩:=W k j;rcases q with q|q|q|q
   . exact y q
   . exact x q
   . exact u q
   . exact z q
 . rcases Uf.1 a with q|q
   . exact h.okd i q
   . exact ⟨(oK.1 q).2,m i (oK.1 q).1⟩
 . obtain ⟨B,C⟩:=h.cl c c0;rw [sZ (λi=>by unfold gnB;rw [(c i).1,(c i).2];rfl),B];exact ⟨rfl,C⟩
end
end
section
def ET (N sp gone:Nat):Nat:=(if sp=0 then 0 else 1)+(2^N-gone)
def Oa {a:Nat} (h:a|||b≠a):a<a|||b:=Nat.lt_of_le_of_ne YH (V1 h)
def se (D L G:Nat) (Kind:aU->Prop):Prop:=∀ (ps:aU),Kind ps->∀ (w:ZW),ps.S w->aG w->3<=w.heap.size->∀ lost:Nat,lost<2^(D+L+G) ->
 ZU ZT 147 #[Z7 (ZZ ⟨ps.ps,0,Z0⟩),.agg #[Z8 Z9 D,Z8 Z9 L,Z8 Z9 G],Z8 .u64 lost] w (PnA D L G Kind ps lost w)
structure Oc (w:ZW) (r v b g N p D L G:Nat) (Kind:aU->Prop) (ps:aU) (A:aH) (F:aR) (dl M:a8) (e:Ending) (w':ZW):Prop where
 rd:∃ gone sp,dI w' r v b g N gone sp
 row:∃ f,w'.rowIs g 31 N f/\((e=Z4 .nilIface/\∀ i∈M,∃ bl c,f i=Z6 (ZZ ⟨bl,0,Z0⟩) 44 c/\bl<w'.heap.size/\w'.rangeAt bl 0 (aI (Eb D L G dl i)))\/(e=Z4 fJ/\¬ (A.clean/\ps.ho=0)))
 kit:∃ (ps1:aU) (hl:Nat),Kind ps1/\ps1.ps=ps.ps/\ps1.S w'/\bk w' v p D L G ps.ps hl/\hl<2^N/\(A.here->ps.ho=0->hl=0)/\∀ k,ps1.bl k->ps.bl k\/w.heap.size<=k
 arr:aB w' p A F
 out:aa (λk=>k=g\/k=r\/k=v\/F.S k\/ps.bl k) w w'
def QA (D L G:Nat) (Kind:aU->Prop) (ps:aU) (l1:Nat) (w1:ZW) (v6 v7:ZV) (wx:ZW):Prop:=(v7=.iface 58 (Z8 Z9 3)/\bW w1 wx)\/Qz D L G Kind ps l1 w1 v6 v7 wx
def C2A (D L G:Nat) (Kind:aU->Prop) (ps1:aU) (l1:Nat) (w' w3:ZW) (z:Int) (ao:Option Addr) (m c:Nat) (er:ZV):Prop:=(er=.iface 58 (Z8 Z9 3)/\bW w' w3)\/(er=.nilIface/\∃ ps' s C,z=1+((ab (aC (D+L+G) s)).length:Int)/\EP D L G Kind ps1 ps' l1 s C ao m c w'.heap.size w3/\aa ps1.bl w' w3)
def EU {e:Ending} (h:(e=tU/\bW w' w3)\/∃ ps' s C ao m c,nC D L G s ao m c e/\EP D L G Kind ps1 ps' l1 s C ao m c w'.heap.size w3/\aa ps1.bl w' w3) :
 ∃ z ao m c er,e=Z4 (Z1 #[.agg #[Z8 Z9 z,.slice ao m c],er])/\aa ps1.bl w' w3/\Hid (C2A D L G Kind ps1 l1 w' w3 z ao m c er):=by
 rcases h with ⟨b,a⟩|⟨ps',s,C,ao,m,c,b,a,d⟩
 . exact ⟨0,Z0,0,0,_,b,aa.RS a _,al (.inl ⟨rfl,a⟩)⟩
 . exact ⟨_,ao,m,c,_,b,d,al (.inr ⟨rfl,ps',s,C,rfl,a,d⟩)⟩
def IV (h:C2A D L G Kind ps1 l1 w' w3 z ao m c er) (a:bW w1 w') (e:w'.heap.size=w1.heap.size):QA D L G Kind ps1 l1 w1 (Z7 (ZZ ⟨w3.heap.size,0,Z0⟩)) er (w3.alloc (Z5 #[Z8 Z9 z,.slice ao m c] 187)):=by
 rcases h with ⟨rfl,h⟩|⟨rfl,ps',s,C,rfl,b,d⟩
 . exact .inl ⟨rfl,(a.trans (h.mono a.size)).alloc (by have:=h.size;omega) _⟩
 . exact .inr (IS (b.mono (by omega)) a d)
def EV (h:C2A D L G Kind ps1 l1 (w2.alloc (Z5 #[Z8 Z9 0,Z6 Z0 0 0] 187)) w3 z ao m c er) (hl:∀ k,ps1.bl k->k<w1.heap.size) (f:w2.heap.size=w1.heap.size) (b:bW w1 w2):QA D L G Kind ps1 l1 w1 (Z7 (ZZ ⟨w1.heap.size,0,Z0⟩)) er ((w3.setCell ⟨w1.heap.size,0,Z0⟩ (Z8 Z9 z)).setCell ⟨w1.heap.size,1,Z0⟩ (.slice ao m c)):=by
 have a:bW w1 (w2.alloc (Z5 #[Z8 Z9 0,Z6 Z0 0 0] 187)):=b.alloc (by omega) _;rcases h with ⟨rfl,h⟩|⟨rfl,ps',s,C,rfl,d,e⟩
 . exact .inl ⟨rfl,((a.trans (h.mono a.size)).setCell (p:=⟨w1.heap.size,0,Z0⟩) lR _).setCell (p:=⟨w1.heap.size,1,Z0⟩) lR _⟩
 . exact .inr (ES (d.mono (by rw [Uq];omega)) hl f b e)
def KnG (w0:ZW) (r v b g N p D L G:Nat) (A:aH) (F:aR) (Kind:aU->Prop) (ps:aU) (dl:a8) (wr:ZW):Prop:=
 ∃ sp gone hl ds f ps1,uN w0 r v b g N p D L G A F Kind ps ps1 dl sp gone hl ds f wr
def uN.SZ {w0:ZW} {v:Nat} {A:aH} {F:aR} {dl:a8} {hl:Nat} {ds:a8} {f:Nat->ZV} (h:uN w0 r v b g N p D L G A F Kind ps ps1 dl sp gone hl ds f w) (hs:vM w0 r v b g N p D L G Kind ps A F dl) (hr:r<w0.heap.size) (x:g<w0.heap.size) (t:¬ ps.bl r) (s:¬ ps.bl g):uN w0 r v b g N p D L G A F Kind ps ps1 dl 0 gone hl ds f (w.setCell ⟨r,4,Z0⟩ (Z8 .u64 0)):=by
 have u:=h.apart hs hr x t s;have a:aa (λk=>k=r) w (w.setCell ⟨r,4,Z0⟩ (Z8 .u64 0)):=aa.setCell _ _ _ rfl;refine { h with rd:=ai (j:=4) h.rd _,vol:=h.vol.Tx a λk e=>e▸⟨hs.rK,hs.vr.symm,hs.rF⟩,row:=h.row.of_block (a.block _ h.row.lt λq=>hs.rg q.symm),kn:=⟨h.kn.1,λi y=>?_⟩,kit:=ps1.keep _ _ h.kit λk l=>a.block k (ps1.lt _ h.kit k l) λq=>(u k l).2.2.1 q,out:=h.out.trans (a.mono λk _ q=>.inr (.inl q)),spl:=Nat.pow_pos (by decide),cl:=λc c0=>⟨(h.cl c c0).1,rfl⟩ };obtain ⟨bl,m,n,d,o⟩:=h.kn.2 i y;exact ⟨bl,m,n,TZ d a.size,(a.block bl d (by omega)).trans o⟩
section
variable {w:ZW} {r v b g N p D L G:Nat} {Kind:aU->Prop} {ps:aU} {A:aH} {F:aR} {dl:a8} (hs:vM w r v b g N p D L G Kind ps A F dl) (hSh:se D L G Kind)
include hs hSh
theorem Me (hr:dI w r v b g N 0 ps.ho) (kf:w.rowIs g 31 N zH) (S:Nat) (hS:S<65536) (xd:∀ i,i∈ab S->i<D) :
 ZU ZT 113 #[Z7 (ZZ ⟨r,0,Z0⟩),Z8 .u64 S] w λe w'=>Oc w r v b g N p D L G Kind ps A F dl (ab S) e w':=by
 have qh:N<=16:=by rw [hs.nN];exact hs.vol.par.s
 have yd:2^N<=65536:=mZ qh;have xx:∀ i,i∈ab S->i<N:=λi J=>by have:=xd i J;rw [hs.nN];omega
 have B:=cJ hs.kit hr xP;have u:¬ ps.bl g:=by obtain ⟨cs,h1,_⟩:=kf;exact cJ hs.kit h1 uL
 have h0:KnG w r v b g N p D L G A F Kind ps dl w:=⟨ps.ho,0,ps.ho,[],zH,ps,⟨hr,hs.vol,kf,Kn.nil _ _ _ _,hs.kit,hs.kind,rfl,λk q=>.inl q,aa.refl _ _,λi q=>(by cases q),Nat.pow_pos (by decide),hs.hol,hs.hol,λ_ c0=>⟨rfl,c0⟩,λ_ c0=>c0⟩⟩;have HS:=hide7 hs hSh hr.lt kf.lt B u h0;clear hs hSh hr kf B u h0;go_enter func113,ntmps113;go_wp2_with fail;go_loopw [5] (λ_ wr=>KnG w r v b g N p D L G A F Kind ps dl wr) (λ_ wr=>ET N (intOf ((wr.cell? ⟨r,4,Z0⟩).getD undef)).toNat (intOf ((wr.cell? ⟨r,3,Z0⟩).getD undef)).toNat)
 case atStart=>exact HS.out.2.2.2.2.2.2
 case round=>
  obtain ⟨sp,gone,hl,ds,f0,ps1,hM⟩:=hrel;obtain ⟨hs,hSh,H,I,B,u,_⟩:=HS.out;have qo:=uO hM hs H I B u S hS xx;have q8:ET N (intOf ((wr.cell? ⟨r,4,Z0⟩).getD undef)).toNat (intOf ((wr.cell? ⟨r,3,Z0⟩).getD undef)).toNat=ET N sp gone:=by
   obtain ⟨_,_,_,d3,d4⟩:=hM.rd.cells;rw [d3,d4];simp [intOf]
  have y6:=hM.gol;have x7:=hM.spl;have HM:=al q8;obtain ⟨nw,qz⟩:=nM (QR S gone sp ds);rw [qz] at qo;have HN:=al qz;clear q8 hM qz hs hSh H I B u;go_wp2_with fail;refine qo.mono ?_;rintro e w1 ⟨rfl,f1,a,_⟩;clear qo;obtain ⟨d1,qn⟩:=nM (ds++C7 A b nw);obtain ⟨g1,X⟩:=nM (gone|||gW (gnB A b) nw);obtain ⟨h1,xg⟩:=nM (hl|||gW A.lost nw);rw [qn,X,xg] at a;have U:∀ i,i∈ab S->(g1|||sp).testBit i=ZX->i∈d1:=λi J hb=>by
   rw [Wj,X1,<- X,Wj,X1] at hb;rw [<- qn];by_cases q:i∈ds
   . exact UB _ q
   . have xi:i∈nw:=(by rw [<- HN.out];exact (zT (by omega) (by omega)).2 ⟨J,hb.1.1,hb.2,q⟩);refine VK _ (oK.2 ⟨xi,?_⟩);cases hq:gnB A b i
     . rfl
     . rw [(F8 _ i nw).2 ⟨xi,hq⟩] at hb;cases hb.1.2
  have qp:=a.gol;have hf:gone<=g1:=by rw [<- X];exact YH
  have y9:=aac g1 sp (by omega) (by omega);have kk:g1|||sp<2^N:=Wu qp x7;obtain ⟨e0,_,_,e3,e4⟩:=a.rd.cells;obtain ⟨l1,W⟩:=nM (g1|||sp);rw [W] at y9 kk U;have qj:=gk S l1 (by omega) (by omega);have Z:=a6 a U hf W X;clear a U hf W qn X xg;by_cases hz:S &&& l1=0
  . have xo:bits .and .u64 (S:Int) (l1:Int)=0:=(by rw [qj,hz];rfl);go_wp2_with fail;go_region;go_wp2;go_ret;obtain ⟨a,U,_⟩:=Z.out;refine ⟨⟨_,_,a.rd⟩,⟨f1,a.row,.inl ⟨rfl,λi J=>?_⟩⟩,⟨ps1,h1,a.kind,a.psE,ps1.keep _ _ a.kit (λ_ _=>rfl),a.vol.vol,a.hll,a.hn,a.bl⟩,a.vol.arr.keep λ_ _=>rfl,a.out.trans (aa.drew _)⟩;obtain ⟨bl,q1,q2,K,q4⟩:=a.kn.2 i (U i J (IR hz (cO.1 J).2));exact ⟨bl,44,q1,K,qU q4⟩
  . have xo:(bits .and .u64 (S:Int) (l1:Int)==0)=ZX:=by
     rw [qj];generalize S &&& l1=q at hz;simp;omega
    have xj:l1≠0:=λe=>hz (by rw [e,Nat.and_zero]);have xn:∀ w',bW w1 w'->ZU ZT 147 #[Z7 (ZZ ⟨ps.ps,0,Z0⟩),.agg #[Z8 Z9 D,Z8 Z9 L,Z8 Z9 G],Z8 .u64 l1] w' λe yi=>(e=tU/\bW w' yi)\/∃ ps' s C ao m c,nC D L G s ao m c e/\EP D L G Kind ps1 ps' l1 s C ao m c w'.heap.size yi/\aa ps1.bl w' yi:=λw' hb=>by
     obtain ⟨a,_⟩:=Z.out;obtain ⟨hs,hSh,H,I,B,u,_⟩:=HS.out;have hv:=a.vol;have h:=hSh ps1 a.kind w' (ps1.keep _ _ a.kit λk V=>hb.block k (ps1.lt _ a.kit k V)) (hv.tab.keep (hb.block _ hv.tab.lt)) (TW hv.room hb.size) l1 (by rw [<- hs.nN];exact kk);rw [a.psE] at h;exact h
    have HB:=au xn (λk (V:ps1.bl k)=>ps1.lt _ Z.out.1.kit k V);have qf:=Z.out.1.vol;obtain ⟨_,y1,y2,y3,y4,_⟩:=qf.vol.cells;have qm:bW w1 (w1.alloc (Z5 #[Z8 Z9 0,Z6 Z0 0 0] 187)):=bA w1 _;obtain ⟨_,x1,x2,x3,x4,_⟩:=(qf.vol.keep (qm.block _ qf.vol.lt)).cells;obtain ⟨x0,_,_,_,_⟩:=(Z.out.1.rd.keep (qm.block _ Z.out.1.rd.lt)).cells;clear qm xn qf;have HY:Hid (∀ (w' w3:ZW),bW w1 w'->aa ps1.bl w' w3->C5 r v ps.ps D L G w3/\(∀ o:Obj,C5 r v ps.ps D L G (w3.alloc o))/\(∀ k x y,w1.heap.size<=k->C5 r v ps.ps D L G ((w3.setCell ⟨k,0,Z0⟩ x).setCell ⟨k,1,Z0⟩ y))):=al λw' w3 hb hO=>by
     have xc:=aa.after hb hO;have hM:=Z.out.1;obtain ⟨hs,_,H,I,B,u,_⟩:=HS.out;have ha:=hM.apart hs H I B u;have hv:=hM.vol;have qb:=hM.rd.keep (xc.block _ hM.rd.lt λq=>(ha _ q).2.2.1 rfl);have hv3:=hv.vol.keep (xc.block _ hv.vol.lt λq=>(ha _ q).2.1 rfl);have H:=hM.rd.lt;have yh:=hv.vol.lt;exact ⟨L7 qb hv3,λo=>L7 (qb.keep (Ux _ _ _ qb.lt)) (hv3.keep (Ux _ _ _ hv3.lt)),λk x y V=>L7 (qb.keep ((iq w3 k 0 1 x y).block _ qb.lt (by omega))) (hv3.keep ((iq w3 k 0 1 x y).block _ hv3.lt (by omega)))⟩
    go_wp2_with fail;go_region;go_upto_region 5 with fail;have xp:(((S &&& l1:Nat):Int)==0)=ZX:=by
     rw [<- qj];exact xo
    simp only [xp];clear xp;go_cut [6,7] from 24 to 42 (λv6 v7 wx=>QA D L G Kind ps1 l1 w1 v6 v7 wx)
    case first=>
     go_region_held3 (λw'=>w'.cell? ⟨r,0,Z0⟩=ZZ (Z7 (ZZ ⟨v,0,Z0⟩))/\w'.cell? ⟨v,1,Z0⟩=ZZ (Z8 Z9 (D:Int))/\w'.cell? ⟨v,2,Z0⟩=ZZ (Z8 Z9 (L:Int))/\w'.cell? ⟨v,3,Z0⟩=ZZ (Z8 Z9 (G:Int))/\w'.cell? ⟨v,4,Z0⟩=ZZ (Z7 (ZZ ⟨ps.ps,0,Z0⟩))) (first|exact ⟨e0,y1,y2,y3,y4⟩|exact ⟨x0,x1,x2,x3,x4⟩|exact Y0.out|exact Y1.out _|exact Y2.out _ _ _ lR|go_keep)
      (first|(go_at_call 147;refine (HB.out.1 _ ?_).mono ?_;(first|exact ((TY _ _).drew).drew|exact (((TY _ _).drew).drew).alloc lR _);rintro e w3 qa;obtain ⟨z,ao,m,c,er,he,k7,H3⟩:=EU qa;subst he;clear qa;(try (have K:w3.heap[w1.heap.size]?=ZZ (Z5 #[Z8 Z9 0,Z6 Z0 0 0] 187 (0,0)):=(k7.block w1.heap.size (by simp) (λq=>by have:=HB.out.2 _ q;omega)).trans (Uc w1.drew.drew _);obtain ⟨r0,r1,g1,g0⟩:=aw K;clear K));obtain ⟨Y0,Y1,Y2⟩:Hid (C5 r v ps.ps D L G w3)/\Hid (∀ o:Obj,C5 r v ps.ps D L G (w3.alloc o))/\Hid (∀ k x y,w1.heap.size<=k->C5 r v ps.ps D L G ((w3.setCell ⟨k,0,Z0⟩ x).setCell ⟨k,1,Z0⟩ y)):=HY.out _ w3 (by first|exact ((TY _ w1).drew).drew|exact (((TY _ w1).drew).drew).alloc lR _) k7;clear k7))
     all_goals (go_wp2_with fail;go_meet;case rel=>first|(refine IV (w':=w1.drew.drew) H3.out ?_ rfl;exact ((TY _ _).drew).drew)|(refine EV (w2:=w1.drew.drew) H3.out HB.out.2 rfl ?_;exact ((TY _ _).drew).drew))
    case rest=>
     clear e0 e3 e4 y1 y2 y3 y4 x0 x1 x2 x3 x4 HY HB;rename ZW=>w3;rcases hcut with ⟨rfl,qk⟩|hcut
     . obtain ⟨a,U,hf,W,X⟩:=Z.out;obtain ⟨hs,hSh,H,I,B,u,_⟩:=HS.out;have f:=a.Tb (a.apart hs H I B u) (aa.RS qk _) (ps1.keep _ _ a.kit λk V=>qk.block k (ps1.lt _ a.kit k V)) a.kind rfl (λk q=>.inl q);obtain ⟨_,_,_,e3,e4⟩:=f.rd.cells;have f4:w3.frozen? ⟨r,4,Z0⟩=ZX:=by
        have h':w3.heap[r]?=_:=f.rd;simp [World.frozen?,h']
       have H3:=al f;clear f a U W X hs hSh H I B u qk;by_cases x6:sp=0
       . subst x6;clear f4;go_wp2;go_ret;have f:=H3.out;refine ⟨⟨_,_,f.rd⟩,⟨f1,f.row,.inr ⟨rfl,λc=>xj ?_⟩⟩,⟨ps1,h1,f.kind,f.psE,f.kit,f.vol.vol,f.hll,f.hn,f.bl⟩,f.vol.arr,f.out⟩;rw [<- Z.out.2.2.2.1,(f.cl c.1 c.2).1];rfl
       . have yg:((sp:Int)==0)=ZX:=(by simp;omega);have HQ:=au x6 hf;clear x6 hf;go_wp2;go_roundw
         case rel=>
          obtain ⟨hs,_,H,I,B,u,_⟩:=HS.out;exact ⟨0,g1,h1,d1,f1,ps1,H3.out.SZ hs H I B u⟩
         case measure=>
          obtain ⟨hs,_,H,I,B,u,_⟩:=HS.out;obtain ⟨_,_,_,K,q4⟩:=(H3.out.SZ hs H I B u).rd.cells;rw [HM.out,K,q4];have q:=HQ.out.2;unfold ET;rw [if_neg HQ.out.1];simp [intOf];omega
     . obtain ⟨rfl,gb,O,s,C,ao,m,c,rfl,hp,k8,P,k7⟩:=hcut;obtain ⟨a,U,hf,W,X⟩:=Z.out;obtain ⟨hs,hSh,H,I,B,u,_⟩:=HS.out;have f:=a.Tb (a.apart hs H I B u) k7 P.kit P.kind P.psE P.bl;have k9:=hs.vol.par;have hh:=P9 k9.d k9.l4 k9.g k9.s P.told;have hj:=Lh k9.d k9.g k9.s P.told;have hg:(b9 D L G s C).length<=2000:=hh.1.2.2;have kc:∀ t∈b9 D L G s C,t.k=0->0<=t.b/\t.b<16:=λt ht h0=>by
        obtain ⟨i,q1,q2,_⟩:=lU k9.s ht h0;have:=k9.s;omega
       have qx:=G5 (1+((ab (aC (D+L+G) s)).length:Int)) (F7 P.own (by omega)) kc (by omega);obtain ⟨z,kg⟩:∃ z:Int,1+((ab (aC (D+L+G) s)).length:Int)=z:=⟨_,rfl⟩;rw [kg] at k8 hh qx;obtain ⟨k0,k1,_,_⟩:=aw k8;have H3:=hide11 f P k8 hh hj hg kc qx kg k7 hp;clear f P k8 hh hj hg kc qx kg k7 hp k9 a U hf W X hs hSh H I B u;go_wp2_with fail;refine H3.out.2.2.2.2.2.2.2.1.mono ?_;rintro e w4 ⟨rfl,ka⟩;clear k0 k1;obtain ⟨f,P,k8,hh,hj,hg,kc,_,kg,k7,hp⟩:=H3.out;obtain ⟨hs,hSh,H,I,B,u,_⟩:=HS.out;have xa:=f.Tb (f.apart hs H I B u) (aa.RS ka _) (O.keep _ _ f.kit λk V=>ka.block k (O.lt _ f.kit k V)) f.kind rfl (λk q=>.inl q);obtain ⟨T,hT⟩:=nM (As (b9 D L G s C));have ks:T<65536:=by rw [<- hT];exact Kw λt ht h0=>by have:=kc t ht h0;omega
       have xe:∀ i,T.testBit i=ZY->i<N/\s.testBit i=ZX:=λi J=>by
        rw [<- hT] at J;obtain ⟨t,ht,h0,yc⟩:=(rS _ _).1 J;obtain ⟨j,q1,q2,K⟩:=lU hs.vol.par.s ht h0;have:j=i:=by rw [<- yc,q1];rfl
        subst this;exact ⟨by rw [hs.nN];exact q2,K⟩
       have kh:∀ i,i∈ab T->i<N/\s.testBit i=ZX:=λi J=>xe i (cO.1 J).2;have kx:=uO xa hs H I B u T ks (λi J=>(kh i J).1);have kp:=(ka.block gb (TX.1 k8).1).trans k8;have H4:=a5 kh hT kp ka;clear kh xa kp ka f P k8 hh hj hg kc kg k7 hp hs hSh H I B u xe;rw [hT];clear hT;go_wp2_with fail;refine kx.mono ?_;rintro e Q ⟨rfl,f5,E,qe⟩;clear kx;obtain ⟨kh,hT,kp,ka⟩:=H4.out;obtain ⟨f,P,k8,hh,hj,hg,kc,_,kg,k7,hp⟩:=H3.out;obtain ⟨a,U,hf,W,X⟩:=Z.out;obtain ⟨hs,hSh,H,I,B,u,_⟩:=HS.out;have ko:=hs.vol;obtain ⟨Y,ke⟩:=nM (QR T g1 sp d1);rw [ke] at E;have hy:∀ i,i∈Y↔i∈ab T/\g1.testBit i=ZX/\sp.testBit i=ZX/\i∉d1:=λi=>by rw [<- ke];exact zT (by omega) (by omega)
       obtain ⟨d2,ki⟩:=nM (d1++C7 A b Y);obtain ⟨g2,km⟩:=nM (g1|||gW (gnB A b) Y);obtain ⟨h2,qs⟩:=nM (h1|||gW A.lost Y);rw [ki,km,qs] at E;have qq:=E.gol;have ya:=aac g2 sp (by omega) (by omega);have x9:=ka.size;have qd:=a.out.size;have x8:=(qe.block gb (TZ (TX.1 k8).1 x9) (λq=>by
        rcases q with q|q|q|q
        . omega
        . omega
        . have:=ko.vol.lt;omega
        . have:=ko.arr.RU q;omega)).trans kp
       obtain ⟨_,_,_,e3,e4⟩:=E.rd.cells;obtain ⟨k0,k1,_,_⟩:=aw x8;by_cases ky:g2|||sp=l1
       . have q9:∀ i∈Y,gnB A b i=ZX:=λi J=>by
          cases hq:gnB A b i
          . rfl
          . have q:=(F8 (gnB A b) i Y).2 ⟨J,hq⟩;have q2:(g2|||sp).testBit i=ZY:=(by rw [Wj,<- km,Wj,q,Bool.or_true,Bool.true_or]);obtain ⟨_,K,q4,_⟩:=(hy i).1 J;rw [ky,<- W,Wj,K,q4] at q2;cases q2
         have kv:=a.apart hs H I B u;have kb:EP D L G Kind ps1 O l1 s C ao m c w1.heap.size Q:=(P.keep (T:=λ_=>False) (aa.RS ka _) (λ_ q=>q.elim)).keep qe (λk q=>by
          rcases q with q|q|q|q
          . subst q;exact ⟨by omega,λe=>(kv _ e).2.2.2.1 rfl⟩
          . subst q;exact ⟨by omega,λe=>(kv _ e).2.2.1 rfl⟩
          . subst q;exact ⟨by have:=ko.vol.lt;omega,λe=>(kv _ e).2.1 rfl⟩
          . exact ⟨by have:=ko.arr.RU q;omega,λe=>(kv _ e).2.2.2.2 q⟩)
         obtain ⟨i0,q7⟩:∃ i,l1.testBit i=ZY:=Nat.exists_testBit_of_ne_zero xj;have kj:i0<N:=by
          by_cases q:i0<N
          . exact q
          . rw [WO (TZ kk (Vq (by decide) (by omega)))] at q7;cases q7
         have qi:∀ i∈d2,(Eb D L G dl i).length=44/\∀ x∈Eb D L G dl i,x<256:=λi J=>zo hs.vol.par dl (by have:=(E.okd i J).2;have:=hs.nN;omega);obtain ⟨kz,q0⟩:=NK (x:=NZ N d2) (Dl:=zS N d2 (Eb D L G dl)) (dl:=dP D dl) hs.vol.par.d1 hs.vol.par.d hs.vol.par.g hs.vol.par.div hs.vol.par.s kb.told (by rw [<- hs.nN];exact kj) (kb.TG i0 q7) (BQ hs.byt).1 (BQ hs.byt).2 (λi J=>by
          rw [hT] at J;have qv:i<16:=by
           by_cases q:i<16
           . exact q
           . rw [WO (TZ ks (Vq (n:=2) (i:=16) (by decide) (by omega)))] at J;cases J
          have xh:i∈ab T:=cO.2 ⟨qv,J⟩;obtain ⟨q1,q2⟩:=kh i xh;have qr:i∈d2:=by
           rw [<- ki];by_cases q:i∈d1
           . exact UB _ q
           . have qy:l1.testBit i=ZX:=Ew λe=>by rw [kb.TG i e] at q2;cases q2
             rw [<- W,Wj,X1] at qy;have K:=(hy i).2 ⟨xh,qy.1,qy.2,q⟩;exact VK _ (oK.2 ⟨K,q9 i K⟩)
          rw [Cs q1,if_pos qr];exact ⟨rfl,Ew λe=>((uf N d2 i).1 e).2 qr⟩)
         have xb:(ab (aC (D+L+G) s)).length<=16:=TW (Wz _ _) (by simp);have kr:ab (aC (D+L+G) s)≠[]:=λq=>by
          have:i0∈ab (aC (D+L+G) s):=(dS hs.vol.par.s).2 ⟨by rw [<- hs.nN];exact kj,kb.TG i0 q7⟩;rw [q] at this;cases this
         have xq:z.toNat=1+(ab (aC (D+L+G) s)).length:=(by rw [<- kg];omega);have xf:=LN (w:=Q.drew) (M:=ab (aC (D+L+G) s)) (R:=Eb D L G dl) (show dI Q.drew r v b g N g2 sp from E.rd) (show Q.drew.rowIs g 31 N f5 from E.row) hs.rg ((F7 kb.own (by omega)).mono (TY _ Q).drew) hj ((RG E.row qi E.kn).mono (TY _ Q).drew) (Cr N d2 (Eb D L G dl)) (Iv qi) (by omega) (by rw [<- hs.nN] at hh;exact hh) kz (by rw [xq];exact q0) kr (λd hd=>by rw [hs.nN];exact ((dS hs.vol.par.s).1 hd).1) xb;have H5:=a5 xf E kb ki;clear xf kb qi kz q0 xb kr xq x8 E qe kh hT kp ka f P k8 hh hj hg kc kg k7 hp a U W X hs hSh H I B u ke hy ki km qs x9 qd q7 kj q9 kv ko hf;go_wp2_with fail;go_region;go_wp2_with fail;refine H5.out.1.mono ?_;rintro e w6 ⟨rfl,hF⟩;clear e3 e4 k0 k1;have H6:=al hF;clear hF;go_wp2;go_ret;obtain ⟨yb,⟨f6,qc,y0,y5⟩,xv⟩:=H6.out;obtain ⟨_,E,kb,ki⟩:=H5.out;obtain ⟨hs,hSh,H,I,B,u,_⟩:=HS.out;obtain ⟨a,U,_,W,X⟩:=Z.out;have k5:aa (λk=>k=g) Q w6:=(aa.drew Q).trans xv;have xy:=E.apart hs H I B u;have qg:=E.vol;refine ⟨⟨_,_,yb⟩,⟨f6,qc,.inl ⟨rfl,λi J=>?_⟩⟩,⟨O,h2,E.kind,E.psE,O.keep _ _ E.kit (λk V=>k5.block k (O.lt _ E.kit k V) (λq=>(xy k V).2.2.2.1 q)),qg.vol.keep (k5.block _ qg.vol.lt hs.vg),E.hll,E.hn,E.bl⟩,qg.arr.keep (λk V=>k5.block k (qg.arr.RU V) λq=>hs.gF (q▸V)),E.out.trans (k5.mono λk _ q=>.inl q)⟩;have ye:=xd i J;by_cases x5:s.testBit i=ZY
         . obtain ⟨bl,mm,l,q1,q2,K,q4,q5,q6⟩:=y5 i ((dS hs.vol.par.s).2 ⟨by have:=hs.nN;omega,x5⟩);obtain ⟨h1,h2⟩:=Iw q4 K q5;rw [(zo hs.vol.par dl (by have:=hs.nN;omega)).1] at h2;subst h2;exact ⟨bl,l.length,q1,aM.lt q4,h1⟩
         . have y8:i∉ab (aC (D+L+G) s):=λq=>x5 ((dS hs.vol.par.s).1 q).2;have qr:i∈d2:=by
            rw [<- ki];exact UB _ (U i J (Ew λe=>x5 (kb.TG i e)))
           obtain ⟨bl,q1,q2,K,q4⟩:=E.kn.2 i qr;have xz:bl≠g:=(by omega);exact ⟨bl,44,by rw [y0 i y8];exact q1,TZ K k5.size,qU ((k5.block bl K xz).trans q4)⟩
       . have xk:g1<g2:=(by rw [<- km];exact Oa λe=>ky (by rw [<- km,e,W]));have hR:KnG w r v b g N p D L G A F Kind ps dl Q.drew:=⟨sp,g2,h2,d2,f5,O,E.Tb (E.apart hs H I B u) (aa.drew _) (O.keep _ _ E.kit λ_ _=>rfl) E.kind rfl (λk q=>.inl q)⟩;have xm:ET N (intOf ((Q.drew.cell? ⟨r,4,Z0⟩).getD undef)).toNat (intOf ((Q.drew.cell? ⟨r,3,Z0⟩).getD undef)).toNat=ET N sp g2:=by
          rw [show Q.drew.cell? ⟨r,3,Z0⟩=Q.cell? ⟨r,3,Z0⟩ from rfl,show Q.drew.cell? ⟨r,4,Z0⟩=Q.cell? ⟨r,4,Z0⟩ from rfl,e3,e4];simp [intOf]
         have yf:((g2|||sp:Nat):Int)≠(l1:Int):=(by omega);have y7:((((g2|||sp:Nat):Int))==(l1:Int))=ZX:=(by simp;omega);have H5:=a6 hR xk xm hf qq;clear hR xk xm x8 E qe kh hT kp ka f P k8 hh hj hg kc kg k7 hp a U W X hs hSh H I B u ke hy ki km qs x9 qd ko hf;go_wp2_with fail;go_region;go_wp2;go_roundw
         case rel=>exact H5.out.1
         case measure=>
          rw [H5.out.2.2.1,HM.out];have q1:=H5.out.2.1;have q2:=H5.out.2.2.2;unfold ET;omega
end
def xQ (a:yY D L G) {sb:Nat} {room:Int}:se D L G (oV sb room D L G):=
 λ_ hK _ c e b _ hl=>IU D L G a.r a.d1 a.d a.l1 a.l4 a.g a.div a.s hK c e b hl
end
def aad (l:a8):ByteArray:=⟨(l.map YE).toArray⟩
theorem uP (h:Bs w v l):(convert 31 9 v).run ZT w=.ok (Z2 (aad l)) w:=by
 obtain ⟨ao,c,rfl,_,_,k,f⟩:=h;by_cases hl:l=[]
 . subst hl;exact zX ao c w
 . obtain ⟨b,off,rfl,i⟩:=f hl;have:=run_convert_bytes_back (P:=ZT) w 31 9 5 ⟨b,off,Z0⟩ c (l.map YE) Uh W4 YB (λj a=>by
    rw [T7] at a;have d:=i j a;have g:((l.map YE)[j]'(by rw [T7];exact a)).toNat=l.getD j 0:=by
     rw [Ve,T5,Ua a];have:=k _ (T4 a);simp;omega
    rw [g];unfold Addr.add;split
    . rename_i e;subst e;exact d
    . exact d)
   rw [T7] at this;exact this
theorem EX {v':ZV} (h:Bs w v l) (b:Bs w v' l):ZU ZT 163 #[v,v'] w λe w'=>e=Z4 (Z3 ZY)/\w'=w:=by
 have g:=uP h;have i:=uP b;obtain ⟨ao,c,rfl,_⟩:=h;obtain ⟨j,d,rfl,_⟩:=b;obtain ⟨S,f⟩:=nM (aad l);obtain ⟨N,a⟩:=nM (l.length);rw [f,a] at g i;rw [a];clear f a;go_enter func163,ntmps163;go_wp2;go_ret;exact ⟨rfl,rfl⟩
def CK (D:Nat) (l:a8) (os:List Ob):Prop:=∀ (w:ZW) (v:ZV),Bs w v l->ZU ZT 134 #[v,Z8 Z9 ((D*44:Nat):Int)] w λe w'=>∃ o,e=Z4 (Z1 #[o,Z3 ZY])/\eY (λk=>w.heap.size<=k) w' o os/\bW w w'
theorem Bs.Tv {n:Nat} (h:w.ownsRow base 5 1 v n (aI l)) (c:∀ x∈l,x<256) (hl:l.length<=1000000000):Bs w v l:=by
 have hn:l.length=n:=by have:=h.1;rw [aW] at this;omega
 rcases h.2 with ⟨rfl,p⟩|⟨g,cap,cur,rfl,i,d,j,m,o,e⟩
 . have:l=[]:=WQ.1 (by omega);subst this;exact ⟨Z0,0,rfl,TV _,by decide,c,λh=>absurd rfl h⟩
 . refine ⟨ZZ ⟨g,0,Z0⟩,cap,by rw [hn],by omega,by omega,c,λ_=>⟨g,0,rfl,λk b=>?_⟩⟩;have a:=congrArg (λl=>l[k]?) e;simp only [VW,aI] at a;rw [VF (by omega),Yt,Un,Ua b] at a;have f:l.getD k 0=l[k]:=(by simp [T5,b]);rw [f];simp only [Ue,World.cell?,d];exact a
def xR (os:List Ob) (sv:Nat->ZV) (k:Nat):List ZV:=(List.range k).flatMap λi=>[Z2 (os.getD i FR).name,Z8 Z9 ((os.getD i FR).size:Nat),sv i]
def F9 (os:List Ob) (sv:Nat->ZV):∀ k,(xR os sv k).length=k*3
 | 0=>rfl
 | k+1=>by
  unfold xR;rw [Vs,Wo,T8];have:=F9 os sv k;unfold xR at this;rw [this];simp;omega
def oW (os:List Ob) (sv:Nat->ZV) (k:Nat):xR os sv (k+1)=xR os sv k++[Z2 (os.getD k FR).name,Z8 Z9 ((os.getD k FR).size:Nat),sv k]:=by
 unfold xR;rw [Vs,Wo];simp
def IW {sv':Nat->ZV} (h:∀ i,i<k->sv i=sv' i):xR os sv k=xR os sv' k:=by
 induction k with
 | zero=>rfl
 | succ k ih=>rw [oW,oW,ih (λi a=>h i (by omega)),h k (by omega)]
def EY (os:List Ob) (sv:Nat->ZV):∀ (k i:Nat),i<k->(xR os sv k)[i*3]?=ZZ (Z2 (os.getD i FR).name)/\(xR os sv k)[i*3+1]?=ZZ (Z8 Z9 ((os.getD i FR).size:Nat))/\(xR os sv k)[i*3+2]?=ZZ (sv i)
 | k+1,i,hi=>by
  have hl:=F9 os sv k;rw [oW];by_cases h:i<k
  . obtain ⟨a,b,c⟩:=EY os sv k i h;rw [Vx (by omega),Vx (by omega),Vx (by omega)];exact ⟨a,b,c⟩
  . have e:i=k:=(by omega);subst e;rw [U3 (by omega),U3 (by omega),U3 (by omega),hl,show i*3-i*3=0 by omega,show i*3+1-i*3=1 by omega,show i*3+2-i*3=2 by omega];exact ⟨rfl,rfl,rfl⟩
def EZ {K:Nat->Prop} (h:w.ownsRow base 130 3 v os.length (xR os sv os.length)) (hl:os.length<=1000000) (hK:∀ k,base<=k->K k) (q:∀ i (a:i<os.length),br K w (sv i) os[i].RQ):eY K w v os:=by
 rcases h.2 with ⟨o,p⟩|⟨g,cap,cur,f,m,n,_⟩
 . have:os=[]:=WQ.1 p;subst this;rw [o];exact eY.nil _ _
 . refine ⟨ZZ ⟨g,0,Z0⟩,cap,f,hl,λ_=>⟨g,0,rfl,hK g m,(TX.1 n).1,λi a=>?_⟩⟩;obtain ⟨c,d,l⟩:=EY os sv os.length i a;have e:os.getD i FR=os[i]:=(by simp [T5,a]);rw [e] at c d;have b:∀ j u,(xR os sv os.length)[j]?=ZZ u->w.cell? ⟨g,j,Z0⟩=ZZ u:=λj u r=>by
    have:=h.cells (g:=g) (by rw [f];rfl) j u r;rwa [jD] at this
   refine ⟨sv i,?_,?_,?_,q i a⟩
   . rw [Ue];exact b _ _ c
   . rw [Ue];exact b _ _ d
   . rw [Ue];exact b _ _ l
def packL_le:∀ {l:List Ob},(∀ o∈l,o.fit)->(an l).length<=l.length*5000
 | [],_=>by simp [an]
 | o::l,h=>by
  have:=packL_le (l:=l) (λx b=>h x (UJ _ b));have a:=h o (UZ ..);have:=a.len;have e:an (o::l)=bM o++an l:=rfl;rw [e,T8,cQ a,Uv];omega
structure UpI (w:ZW) (os:List Ob) (k:Nat) (cv rv:ZV) (sv:Nat->ZV) (wr:ZW):Prop where
 rest:Bs w rv (an (os.drop k))
 own:wr.ownsRow w.heap.size 130 3 cv k (xR os sv k)
 ints:∀ i (hi:i<os.length),i<k->br (λb=>w.heap.size<=b/\cv.ownBlock≠ZZ b) wr (sv i) os[i].RQ
 below:bW w wr
def Ga {wr w4 w5:ZW} {sz sc:Nat} {cv v5 bv:ZV} {rv:ZV} {nm:ByteArray} {sa:Option Addr} (I:k<os.length) (g:UpI w os k cv rv sv wr) (y:bW wr w2) (H:br (λb=>wr.heap.size<=b) w2 (.slice sa m sc) os[k].RQ) (G:Bs w bv (an (os.drop (k+1))))
 (z:bW w2 w4) (J:os[k].name=nm) (L:os[k].size=sz) (K:w5.ownsRow w.heap.size 130 3 v5 (k+1) (xR os sv k++[Z2 nm,Z8 Z9 (sz:Int),.slice sa m sc])) (f:(w4.alloc (Z5 #[Z2 nm,Z8 Z9 (sz:Int),.slice sa m sc] 130)).grownBy w5 cv.ownBlock)
 (u:v5.ownBlock=cv.ownBlock\/v5.ownBlock=ZZ (w4.alloc (Z5 #[Z2 nm,Z8 Z9 (sz:Int),.slice sa m sc] 130)).heap.size):UpI w os (k+1) v5 bv (λi=>if i=k then .slice sa m sc else sv i) w5:=by
 have E:bW w4 (w4.alloc (Z5 #[Z2 nm,Z8 Z9 (sz:Int),.slice sa m sc] 130)):=bA w4 _;have:(w4.alloc (Z5 #[Z2 nm,Z8 Z9 (sz:Int),.slice sa m sc] 130)).heap.size=w4.heap.size+1:=by simp
 have M:=y.size;have N:=z.size;have hr:=g.below.size;have v:bW w2 (w4.alloc (Z5 #[Z2 nm,Z8 Z9 (sz:Int),.slice sa m sc] 130)):=z.trans (E.mono N);have x:bW wr (w4.alloc (Z5 #[Z2 nm,Z8 Z9 (sz:Int),.slice sa m sc] 130)):=y.trans (v.mono M);have A:∀ b,cv.ownBlock=ZZ b->b<wr.heap.size:=λb a=>by
  obtain ⟨cur,F⟩:=bF g.own a;exact (TX.1 F).1
 have e:os.getD k FR=os[k]:=by simp [T5,I]
 refine ⟨G,?_,λi C hs=>?_,?_⟩
 . rw [oW,e,J,L,if_pos rfl];rw [IW (sv':=sv) (λi C=>if_neg (by omega))];exact K
 . by_cases B:i=k
   . subst B;rw [if_pos rfl];have l:br (λb=>wr.heap.size<=b/\b<w2.heap.size) w2 (.slice sa m sc) os[i].RQ:=by
      obtain ⟨ao,c,n,o,p⟩:=H;refine ⟨ao,c,n,o,λhl=>?_⟩;obtain ⟨b,off,r,s,j,t⟩:=p hl;exact ⟨b,off,r,⟨s,j⟩,j,t⟩
     refine (l.keep (w':=w5) ⟨by have:=f.size;omega,λb a d=>?_⟩).weaken λb d=>⟨by omega,λq=>?_⟩
     . exact (f.block b (by omega) (λq=>by have:=A b q.symm;omega)).trans (v.block b a)
     . rcases u with h|h
       . rw [h] at q;have:=A b q;omega
       . rw [h] at q;have:=UI q;omega
   . rw [if_neg B];have l:=g.ints i C (by omega);have D:br (λb=>(w.heap.size<=b/\cv.ownBlock≠ZZ b)/\b<wr.heap.size) wr (sv i) os[i].RQ:=by
      obtain ⟨ao,c,n,o,p⟩:=l;refine ⟨ao,c,n,o,λhl=>?_⟩;obtain ⟨b,off,r,s,j,t⟩:=p hl;exact ⟨b,off,r,⟨s,j⟩,j,t⟩
     refine (D.keep (w':=w5) ⟨by have:=f.size;omega,λb a d=>?_⟩).weaken λb d=>⟨d.1.1,λq=>?_⟩
     . exact (f.block b (by omega) (λq=>d.1.2 q.symm)).trans (x.block b a)
     . rcases u with h|h
       . rw [h] at q;exact d.1.2 q
       . rw [h] at q;have:=UI q;omega
 . exact (g.below.trans (x.mono hr)).grown f (by omega) (λb a=>dY g.own a)
def UpR (w:ZW) (os:List Ob) (cv rv:ZV) (wr:ZW):Prop:=∃ (k:Nat) (sv:Nat->ZV),k<=os.length/\UpI w os k cv rv sv wr
def uQ (w:ZW) (x y z:ZV) (t:TypeId):∀ j u,[x,y,z][j]?=ZZ u->(w.alloc (Z5 #[x,y,z] t)).cell? ((⟨w.heap.size,0,Z0⟩:Addr).add j)=ZZ u:=by
 intro j u h;rw [jD];match j,h with
 | 0,h=>simp at h;subst h;simp only [World.cell?,Uc w (Z5 #[x,y,z] t)];rfl
 | 1,h=>simp at h;subst h;simp only [World.cell?,Uc w (Z5 #[x,y,z] t)];rfl
 | 2,h=>simp at h;subst h;simp only [World.cell?,Uc w (Z5 #[x,y,z] t)];rfl
 | j+3,h=>simp at h
def QB (w:ZW) (os:List Ob) (e:Ending) (w':ZW):Prop:=∃ o,e=Z4 (Z1 #[o,Z3 ZY])/\eY (λk=>w.heap.size<=k) w' o os/\bW w w'
def QC:ZV->Nat
 | .slice _ n _=>n
 | _=>0
theorem E0 (P:Nat) (qs:1<=P/\P<=1000000) (r:Bs w v (an os)) (n:∀ o∈os,o.fit) (D:∀ o∈os,o.RQ.length=max 1 ((o.size+P-1)/P)) (hr:zN os) (qp:os.length<=10000) :
 ZU ZT 134 #[v,Z8 Z9 P] w λe w'=>QB w os e w':=by
 obtain ⟨ao,c,hv,_⟩:=id r;obtain ⟨M,s⟩:=nM ((an os).length);rw [s] at hv;subst hv;have Y:=a6 r n D hr s;clear r n D hr s;go_enter func134,ntmps134;go_wp2_with fail;go_loopw [6,7] (λcv rv wr=>UpR w os cv rv wr) (λ_ rv _=>QC rv)
 case atStart=>exact ⟨0,λ_=>Z6 Z0 0 0,T9 _,by rw [WL];exact Y.out.1,UK _ _ _ _,λi _ h=>absurd h (abc _),TY _ _⟩
 case round=>
  obtain ⟨k,sv,hk,j⟩:=hrel;by_cases F:k<os.length
  . obtain ⟨r,n,D,hr,s⟩:=Y.out;have he:os.drop k=os[k]::os.drop (k+1):=XJ F;have kg:an (os.drop k)=bM os[k]++an (os.drop (k+1)):=(by rw [he];rfl);have hs:=n _ (T4 F);have h7:=j.rest;rw [kg] at h7;have E:Bs wr _ (an (os.drop k)):=j.rest.mono j.below;rw [kg] at E;obtain ⟨X,rc,O,q3,q4,_,kb⟩:=id E;have qc:bM os[k]++an (os.drop (k+1))≠[]:=λe=>by
     have:=congrArg List.length e;rw [T8,cQ hs] at this;simp at this
    obtain ⟨rb,ro,rfl,_⟩:=kb qc;have qq:(an (os.drop (k+1))).length<=100000000:=by
     have I:=packL_le (l:=os.drop (k+1)) (λo ho=>n o (US ho));rw [Uj] at I;omega
    obtain ⟨bl,L⟩:=nM ((bM os[k]++an (os.drop (k+1))).length);have qg:0<bl:=(by rw [<- L,T8,cQ hs];omega);rw [L] at O;rw [O] at E;have qe:=rC P E L.symm hs qs (D _ (T4 F)) qq;obtain ⟨G,cc,ke⟩:=bf j.own;have HR:=al hr;have km:(an (os.drop (k+1))).length<bl:=(by rw [<- L,T8,cQ hs];omega);clear hr;have t:=a7 j qe hs L kg h7;clear j r n D s he kg hs E h7 q3 q4 kb qc qe L;subst O ke;go_wp2_with fail;refine t.out.2.1.mono ?_;rintro e w2 ⟨⟨y,z,bv,rfl,kx,k0⟩,V⟩;have ko:=k0 w t.out.2.2.2.2.2;clear k0;obtain ⟨o,ho⟩:=nM (os[k]);rw [ho] at kx ⊢;have a:=a5 kx ko V ho;obtain ⟨hd,bc,qa,_⟩:=id ko;obtain ⟨bn,q9⟩:=nM ((an (os.drop (k+1))).length);rw [q9] at qa km;subst qa;clear kx ko V ho q9;have kj:bW w2 (w2.alloc (Z5 #[Z2 o.name,Z8 Z9 (o.size:Nat),.slice y o.RQ.length z] 130)):=bA w2 _;have kh:(w2.alloc (Z5 #[Z2 o.name,Z8 Z9 (o.size:Nat),.slice y o.RQ.length z] 130)).heap[w2.heap.size]?=ZZ (Z5 #[Z2 o.name,Z8 Z9 (o.size:Nat),.slice y o.RQ.length z] 130 (0,0)):=Uc _ _;obtain ⟨w3,ki⟩:=nM (w2.alloc (Z5 #[Z2 o.name,Z8 Z9 (o.size:Nat),.slice y o.RQ.length z] 130));rw [ki] at kj kh;have q0:w3.cell? ⟨w2.heap.size,0,Z0⟩=ZZ (Z2 o.name):=(by simp [World.cell?,kh]);have A:=au kj kh;clear kj kh;obtain ⟨nm,kz⟩:=nM (o.name);obtain ⟨Q,q6⟩:=nM (o.size);obtain ⟨m,hm⟩:=nM (o.RQ.length);rw [kz] at q0 ki ⊢;rw [q6] at ki ⊢;rw [hm] at ki ⊢;have f:=aE kz q6 hm;clear kz q6 hm;go_wp2_with fail;obtain ⟨io,qb,k6,k7,k8⟩:=Us Tryz.RZ;by_cases qj:k=0
    . subst qj;go_quiet (fail);have C:bW w3 (w3.drewN nq):=⟨rfl,rfl,rfl,TV _,λ_ _=>rfl⟩;obtain ⟨d,W⟩:=nM (w3.drewN nq);rw [W] at C ⊢;have q:=(C.block _ (TX.1 A.out.2).1).trans A.out.2;rw [f.out.1,f.out.2.1,f.out.2.2] at q;have r0:d.cell? ⟨w2.heap.size,0,Z0⟩=ZZ (Z2 nm):=(by simp [World.cell?,q]);have r1:d.cell? ⟨w2.heap.size,1,Z0⟩=ZZ (Z8 Z9 (Q:Int)):=(by simp [World.cell?,q]);have r2:d.cell? ⟨w2.heap.size,2,Z0⟩=ZZ (.slice y m z):=(by simp [World.cell?,q]);have B:bW w2 d:=A.out.1.trans (C.mono A.out.1.size);have J:bW wr (d.alloc (Z5 #[Z2 nm,Z8 Z9 (Q:Int),.slice y m z] 130)):=(a.out.2.2.1.trans (B.mono a.out.2.2.1.size)).alloc (TW a.out.2.2.1.size B.size) _;have S:=bS t.out.1.own (aa.RS J (λ_=>False)) (λ_ _ h=>h);have q7:w.heap.size<=(d.alloc (Z5 #[Z2 nm,Z8 Z9 (Q:Int),.slice y m z] 130)).heap.size:=TW t.out.1.below.size J.size;have R:=au S B;clear S C W q q0 B J;go_wp2_with (show wpList _ _ _ ({ dst:=ZZ 44,op:=_,type:=_,pos:=_,after:=_,guard:=_ }::_) _ _;refine XC _ rfl (.tmp 41) (.tmp 43) 113 rfl w.heap.size 130 io (.agg #[Z2 YI,Z8 Z9 0,Z6 Z0 0 0]) 3 48 Vn qb k6 k7 k8 rfl (by decide) (.slice G 0 cc) 0 (xR os sv 0) rfl (by exact R.out.1) ⟨d.heap.size,0,Z0⟩ 1 1 _ rfl rfl (uQ d _ _ _ _) (by intro u U;simp at U;rcases U with rfl|rfl|rfl<;>rfl) (by unfold maxLen;omega) (by omega) (by exact q7) ?_;intro v5 w5 q1 kv qi hj);refine ⟨⟨0+1,_,F,Ga F t.out.1 a.out.2.2.1 (by have T:=a.out.1;rw [f.out.2.2,<- a.out.2.2.2] at T;exact T) a.out.2.1 R.out.2 (by rw [a.out.2.2.2];exact f.out.1) (by rw [a.out.2.2.2];exact f.out.2.1) q1 kv hj⟩,?_⟩;show bn<bl;omega
    . have qv:0<k:=(by omega);obtain ⟨pv,q2⟩:=nM ((os.getD (k-1) FR).name);obtain ⟨K,qh,kr⟩:∃ K,G=ZZ ⟨K,0,Z0⟩/\wr.cell? ⟨K,(k-1)*3,Z0⟩=ZZ (Z2 pv):=by
       rcases t.out.1.own.2 with ⟨_,h0⟩|⟨g,cap,cur,Z,_⟩
       . omega
       . injection Z with Z _ _;refine ⟨g,Z,?_⟩;have I:=(EY os sv k (k-1) (by omega)).1;have h2:=t.out.1.own.cells (g:=g) (by rw [Z];rfl) _ _ I;rw [jD,q2] at h2;exact h2
      subst qh;have k5:w3.cell? ⟨K,(k-1)*3,Z0⟩=ZZ (Z2 pv):=((a.out.2.2.1.trans (A.out.1.mono a.out.2.2.1.size)).cell (p:=⟨K,(k-1)*3,Z0⟩) (Ub kr)).trans kr;have kf:Qq nm pv=ZX:=by
       have I:=HR.out (k-1) (by omega);rw [show k-1+1=k by omega,q2] at I;have e:os.getD k FR=os[k]:=(by simp [T5,F]);rw [e,a.out.2.2.2,f.out.1] at I;exact I
      have ky:∀ w':ZW,(binOp .leq 9 (Z2 nm) (Z2 pv)).run ZT w'=.ok (Z3 ZX) w':=λw'=>by
       unfold Qq at kf;simp [binOp,Op.stringOp,kf]
      have ka:=kf;unfold Qq at ka;have qn:((k:Nat):Int)-1=((k-1:Nat):Int):=(by omega);have qo:(((k-1:Nat)):Int).toNat=k-1:=(by omega);obtain ⟨k1,k9⟩:=nM (k-1);rw [k9] at k5 qn qo;have qk:k1<k:=(by omega);clear kr kf q2 k9;go_quiet (fail);clear k5 ky ka;have C:bW w3 (w3.drewN nq):=⟨rfl,rfl,rfl,TV _,λ_ _=>rfl⟩;obtain ⟨d,W⟩:=nM (w3.drewN nq);rw [W] at C ⊢;have q:=(C.block _ (TX.1 A.out.2).1).trans A.out.2;rw [f.out.1,f.out.2.1,f.out.2.2] at q;have r0:d.cell? ⟨w2.heap.size,0,Z0⟩=ZZ (Z2 nm):=(by simp [World.cell?,q]);have r1:d.cell? ⟨w2.heap.size,1,Z0⟩=ZZ (Z8 Z9 (Q:Int)):=(by simp [World.cell?,q]);have r2:d.cell? ⟨w2.heap.size,2,Z0⟩=ZZ (.slice y m z):=(by simp [World.cell?,q]);have B:bW w2 d:=A.out.1.trans (C.mono A.out.1.size);have J:bW wr (d.alloc (Z5 #[Z2 nm,Z8 Z9 (Q:Int),.slice y m z] 130)):=(a.out.2.2.1.trans (B.mono a.out.2.2.1.size)).alloc (TW a.out.2.2.1.size B.size) _;have S:=bS t.out.1.own (aa.RS J (λ_=>False)) (λ_ _ h=>h);have q7:w.heap.size<=(d.alloc (Z5 #[Z2 nm,Z8 Z9 (Q:Int),.slice y m z] 130)).heap.size:=TW t.out.1.below.size J.size;have R:=au S B;clear S C W q q0 B J;go_wp2_with (show wpList _ _ _ ({ dst:=ZZ 44,op:=_,type:=_,pos:=_,after:=_,guard:=_ }::_) _ _;refine XC _ rfl (.tmp 41) (.tmp 43) 113 rfl w.heap.size 130 io (.agg #[Z2 YI,Z8 Z9 0,Z6 Z0 0 0]) 3 48 Vn qb k6 k7 k8 rfl (by decide) (Z6 (ZZ ⟨K,0,Z0⟩) k cc) k (xR os sv k) rfl (by exact R.out.1) ⟨d.heap.size,0,Z0⟩ 1 1 _ rfl rfl (uQ d _ _ _ _) (by intro u U;simp at U;rcases U with rfl|rfl|rfl<;>rfl) (by unfold maxLen;omega) (by omega) (by exact q7) ?_;intro v5 w5 q1 kv qi hj);refine ⟨⟨k+1,_,F,Ga F t.out.1 a.out.2.2.1 (by have T:=a.out.1;rw [f.out.2.2,<- a.out.2.2.2] at T;exact T) a.out.2.1 R.out.2 (by rw [a.out.2.2.2];exact f.out.1) (by rw [a.out.2.2.2];exact f.out.2.1) q1 kv hj⟩,?_⟩;show bn<bl;omega
  . have qm:k=os.length:=(by omega);subst qm;obtain ⟨r,n,D,hr,s⟩:=Y.out;have E:=j.rest;rw [WA lR] at E;obtain ⟨X,rc,O,_⟩:=E;have q5:u7=.slice X 0 rc:=O;have hp:eY (λk=>w.heap.size<=k) wr u6 os:=EZ j.own (by omega) (λk hk=>hk) (λi hi=>(j.ints i hi hi).weaken λb hb=>hb.1);have qd:=xE hp n qp;obtain ⟨G,cc,ke⟩:=bf j.own;obtain ⟨N,hN⟩:=nM (os.length);rw [hN] at ke;have H:=a5 hp j.below qd hN;clear hp qd j r n D hr s O hN;subst q5 ke;go_wp2_with fail;refine H.out.2.2.1.mono ?_;rintro e w5 ⟨g,cap,rfl,hh,kk⟩;obtain ⟨r,n,D,hr,s⟩:=Y.out;have hx:∀ x∈an os,x<256:=(by obtain ⟨_,_,_,_,_,h,_⟩:=r;exact h);have hl:(an os).length<=1000000000:=(by have:=packL_le n;omega);have q8:=Bs.Tv hh hx hl;have kp:bW w w5:=H.out.2.1.trans (kk.mono H.out.2.1.size);have V:=r.mono kp;have ks:=EX q8 V;rw [s] at ks;have H5:=aE ks kk kp;rw [s];clear r n D hr s q8 V ks hh kk kp hx hl;go_wp2_with fail;refine H5.out.1.mono ?_;rintro e w6 ⟨rfl,qf⟩;obtain rfl:w5=w6:=qf.symm;clear qf;go_wp2;go_ret2;exact ⟨_,rfl,H.out.1.keep (eB.RT H5.out.2.1),H5.out.2.2⟩
def Ac (D:Nat) (hD:1<=D/\D<=1000) {os:List Ob} (c:∀ o∈os,o.fit) (b:∀ o∈os,o.RQ.length=max 1 ((o.size+D*44-1)/(D*44))) (hr:zN os) (a:os.length<=10000):CK D (an os) os:=λw v d=>E0 (D*44) ⟨by omega,by omega⟩ d c b hr a
def ji (w:ZW) (m:Nat):bW w (w.drewN m):=⟨rfl,rfl,rfl,TV _,λ_ _=>rfl⟩
theorem IX (n vb:ZV) (a lb:a8) (w:ZW) (q:Bs w n a) (r:Bs w vb lb) :
 ZU ZT 19 #[n,vb] w λe w'=>(∃ b:Bool,e=Z4 (Z3 b)/\(a=lb->b=ZY))/\bW w w':=by
 by_cases d:a=lb
 . subst d;refine (yH n vb a w q r).mono ?_;rintro e w' ⟨rfl,m,rfl⟩;exact ⟨⟨ZY,rfl,λ_=>rfl⟩,ji w m⟩
 . obtain ⟨ao,C,rfl,_,F,H,j⟩:=q;obtain ⟨B,D,rfl,_,u,_,l⟩:=r;by_cases c:a.length=lb.length
   . have h:a≠[]:=λe=>by
      rw [e] at c;exact d (e.trans (UP c.symm).symm)
     obtain ⟨b,off,rfl,o⟩:=j h;obtain ⟨A,s,rfl,g⟩:=l (λe=>by rw [e] at c;exact h (UP c));rw [<- c] at g ⊢;have f:=al d;clear j l c h d u;go_enter func19,ntmps19;go_wp2;go_loopw [5] (λi wr=>OF w a.length i wr) (λi _=>a.length-(intOf i).toNat)
     case atStart=>exact ⟨0,0,T9 _,rfl,rfl⟩
     case round=>
      obtain ⟨k,m,G,rfl,rfl⟩:=hrel;by_cases p:k<a.length
      . have c1:=o k p;have t:=g k p;generalize a.getD k 0=x at c1;generalize lb.getD k 0=y at t;clear o g;by_cases z:x=y
        . subst z;have v:(((x:Nat):Int) != ((x:Nat):Int))=ZX:=(by simp);go_wp2;go_quiet (fail);go_wp2;go_roundw
          case rel=>exact ⟨k+1,_,by omega,by go_num,rfl⟩
          case measure=>simp [intOf];omega
        . have v:(((x:Nat):Int) != ((y:Nat):Int))=ZY:=(by simp;omega);go_wp2;go_quiet (fail);go_wp2;go_ret;exact ⟨⟨ZX,rfl,λe=>absurd e f.out⟩,(ji w _).trans ((ji _ _).mono lR)⟩
      . go_wp2;go_ret;exact ⟨⟨ZY,rfl,λ_=>rfl⟩,ji w _⟩
   . have E:((a.length:Nat):Int)≠((lb.length:Nat):Int):=(by omega);have f:=al d;clear j l d;go_enter func19,ntmps19;go_wp2;go_ret;exact ⟨⟨ZX,rfl,λe=>absurd e f.out⟩,TY _ _⟩
