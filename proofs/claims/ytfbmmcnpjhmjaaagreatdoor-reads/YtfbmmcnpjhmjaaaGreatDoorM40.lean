import Derived.Test.YtfbmmcnpjhmjaaaGreatDoorM39
import Derived.Test.YtfbmmcnpjhmjaaaGreatDoorM36
import Derived.Lib.UnsafeStr
set_option maxRecDepth 100000
set_option maxHeartbeats 8000000
open Go renaming World -> Z9
open List renaming nodup_append -> Tm, range -> Tn, map_cons -> To, flatMap_cons -> Tp, length_append -> Tq, getElem_mem -> Tr, map_append -> Ts, map_take -> Tt, map_drop -> Tu, mem_append -> Tw, mem_append_left -> Tx, mem_append_right -> Ty, mem_flatMap -> TA, mem_map_of_mem -> TB, take_append_drop -> TC, mem_cons -> TF
open Nat renaming div_le_div_right -> Tv
open Array renaming length_toList -> Tz
open List.Sublist renaming append -> TD, refl -> TE
open Go.Proofs.Tryz renaming prog -> Z8
namespace Go.Proofs.YtfbmmcnpjhmjaaaGreatDoor
open Go.RowKit
variable {F:bx} {l P P':List Nat} {k D L G t p:Nat} {w:Z9}
section
open Gf
def gG (D:Nat) (d:List Nat) (k:Nat):List Nat:=(d.drop (k*(D*44))).take (D*44)
def aB.objTo (A:aB) (D L G:Nat) (S d:List Nat):Nat->aB
 | 0=>A
 | k+1=>(aB.objTo A D L G S d k).putAt (Tn A.n) (S.getD k 0) (λi=>(aW.shard ((aK D L G (gG D d k)).getD i [])).blk)
def aB.wrTo (A:aB) (at':Nat->Nat) (f:Nat->Nat->List Nat):Nat->aB
 | 0=>A
 | k+1=>(aB.wrTo A at' f k).putAt (Tn A.n) (at' k) (f k)
theorem kH (A:aB) (D L G:Nat) (P l:List Nat):∀ k,A.pagesTo D L G P l k=A.wrTo (P.getD · 0) (λk i=>(aW.shard ((aK D L G (fx D P l k)).getD i [])).blk) k
 | 0=>rfl
 | k+1=>by rw [aB.pagesTo,kH A D L G P l k];rfl
theorem lN (A:aB) (D L G:Nat) (S d:List Nat):∀ k,A.objTo D L G S d k=A.wrTo (S.getD · 0) (λk i=>(aW.shard ((aK D L G (gG D d k)).getD i [])).blk) k
 | 0=>rfl
 | k+1=>by rw [aB.objTo,lN A D L G S d k];rfl
theorem J9 (A:aB) (at':Nat->Nat) (f:Nat->Nat->List Nat):∀ k,(A.wrTo at' f k).n=A.n/\(A.wrTo at' f k).nb=A.nb/\(A.wrTo at' f k).wait=A.wait/\(A.wrTo at' f k).lost=A.lost
 | 0=>⟨rfl,rfl,rfl,rfl⟩
 | k+1=>J9 A at' f k
theorem wg {A:aB} (h:∀ i m,A.bad i m=false) (ds:List Nat) (b:Nat) (f:Nat->List Nat) (i m:Nat):(A.putAt ds b f).bad i m=false:=by
 unfold aB.putAt;simp [h]
theorem ti {A:aB} (h:∀ i m,A.bad i m=false) (at':Nat->Nat) (f:Nat->Nat->List Nat):∀ k i m,(A.wrTo at' f k).bad i m=false
 | 0=>h
 | k+1=>wg (ti h at' f k) _ _ _
theorem jR (A:aB) (ds:List Nat) (b:Nat) (f:Nat->List Nat) (i m:Nat) (h:m≠b):(A.putAt ds b f).blk i m=A.blk i m:=by
 unfold aB.putAt;simp [h]
theorem AU (A:aB) (b:Nat) (f:Nat->List Nat) (i n:Nat) (h:i<n):(A.putAt (Tn n) b f).blk i b=f i:=by
 unfold aB.putAt;simp [h]
theorem tj (A:aB) (at':Nat->Nat) (f:Nat->Nat->List Nat) (i m:Nat):∀ k,(∀ j,j<k->at' j≠m)->(A.wrTo at' f k).blk i m=A.blk i m
 | 0,_=>rfl
 | k+1,h=>by
  rw [aB.wrTo,jR _ _ _ _ _ _ (λe=>h k (by omega) e.symm)];exact tj A at' f i m k (λj a=>h j (by omega))
theorem yO (A:aB) (at':Nat->Nat) (f:Nat->Nat->List Nat) (i:Nat) (c:i<A.n):∀ k j,j<k->(∀ a b,a<k->b<k->at' a=at' b->a=b)->(A.wrTo at' f k).blk i (at' j)=f j i
 | 0,_,hj,_=>by omega
 | k+1,j,hj,h=>by
  rw [aB.wrTo];rcases Nat.eq_or_lt_of_le (Nat.le_of_lt_succ hj) with e|d
  . subst e;exact AU _ _ _ _ _ c
  . rw [jR _ _ _ _ _ _ (λe=>by have:=h j k (by omega) (by omega) e;omega)];exact yO A at' f i c k j d (λa b g l=>h a b (by omega) (by omega))
theorem fD (h:k<l.length):l.getD k 0=l[k]:=by rw [List.getD_eq_getElem?_getD,List.getElem?_eq_getElem h];rfl
theorem AV (f:l.Nodup) {a b:Nat} (c:a<l.length) (d:b<l.length) (e:l.getD a 0=l.getD b 0):a=b:=by
 rw [fD c,fD d] at e;exact (List.getElem_inj f).1 e
theorem qC (A:aB) (D L G:Nat) (P l:List Nat) (i m:Nat) (h:m∉P):(A.pagesTo D L G P l P.length).blk i m=A.blk i m:=by
 rw [kH];refine tj _ _ _ _ _ _ λj a e=>h ?_;rw [<- e];show P.getD j 0∈P;rw [fD a];exact Tr a
theorem Dy {A:aB} (D L G:Nat) {P:List Nat} (l:List Nat) (h:P.Nodup) {i k:Nat} (f:i<A.n) (g:k<P.length):(A.pagesTo D L G P l P.length).blk i (P.getD k 0)=(aW.shard ((aK D L G (fx D P l k)).getD i [])).blk:=by
 rw [kH];exact yO A _ _ i f P.length k g λa b c d e=>AV h c d e
theorem wh (A:aB) (D L G:Nat) (S d:List Nat) (i m:Nat) (h:m∉S):(A.objTo D L G S d S.length).blk i m=A.blk i m:=by
 rw [lN];refine tj _ _ _ _ _ _ λj a e=>h ?_;rw [<- e];show S.getD j 0∈S;rw [fD a];exact Tr a
theorem Ka {A:aB} (D L G:Nat) {S:List Nat} (d:List Nat) (j:S.Nodup) {i k:Nat} (g:i<A.n) (h:k<S.length):(A.objTo D L G S d S.length).blk i (S.getD k 0)=(aW.shard ((aK D L G (gG D d k)).getD i [])).blk:=by
 rw [lN];exact yO A _ _ i g S.length k h λa b c f e=>AV j c f e
theorem yP (A:aB) (D L G:Nat) (S d:List Nat) (k:Nat):(A.objTo D L G S d k).n=A.n/\(A.objTo D L G S d k).nb=A.nb/\(A.objTo D L G S d k).wait=A.wait/\(A.objTo D L G S d k).lost=A.lost:=by rw [lN];exact J9 A _ _ k
theorem Gt {A:aB} (h:∀ i m,A.bad i m=false) (D L G:Nat) (S d:List Nat) (k i m:Nat):(A.objTo D L G S d k).bad i m=false:=by rw [lN];exact ti h _ _ k i m
theorem AW {A:aB} (h:∀ i m,A.bad i m=false) (D L G:Nat) (S d:List Nat) (k i m:Nat):(A.pagesTo D L G S d k).bad i m=false:=by rw [kH];exact ti h _ _ k i m
abbrev bg:=List (Ob×List Nat)
def bg.os (xs:bg):List Ob:=xs.map (·.1)
def bg.names (xs:bg):List ByteArray:=aZ xs.os
def PL (A:aB) (D L G:Nat) (x:Ob×List Nat):Prop:=∀ j,j<x.1.stripes.length->∀ i,i<A.n->A.blk i (x.1.stripes.getD j 0)=(aW.shard ((aK D L G (gG D x.2 j)).getD i [])).blk
structure kX (D:Nat) (x:Ob×List Nat):Prop where
 fit:x.1.fit
 st:x.1.stripes.length=max 1 ((x.1.size+D*44-1)/(D*44))
 len:x.2.length=x.1.size
 byt:∀ b∈x.2,b<256
structure fT (A:aB) (D L G t:Nat) (P:List Nat) (xs:bg):Prop where
 n:A.n=D+L+G
 wait:A.wait<0
 lost:iH A D L G
 bad:∀ i m,A.bad i m=false
 turn:0<t
 root:∀ i,i<A.n->A.blk i 0=(aW.root D L G t (P.getD 0 0) (aC xs.os).length).blk
 fill:∀ i,i<A.n->A.blk i 1=aW.filled.blk
 pl:P.length=pgs D (aC xs.os).length
 page:∀ k,k<P.length->∀ i,i<A.n->A.blk i (P.getD k 0)=(aW.shard ((aK D L G (fx D P (aC xs.os) k)).getD i [])).blk
 nod:(P++ai xs.os).Nodup
 inb:∀ x∈P++ai xs.os,2<=x/\x<A.nb
 fits:∀ x∈xs,kX D x
 up:Up xs.names
 held:∀ x∈xs,PL A D L G x
 room:(ai xs.os).length+2*P.length+2<=A.nb
theorem fT.congr {A B:aB} {xs:bg} (h:fT A D L G t P xs) (b:B.n=A.n) (d:B.nb=A.nb) (e:B.wait=A.wait) (f:∀ i,B.lost i=A.lost i) (g:∀ i m,B.bad i m=A.bad i m) (c:∀ i m,i<A.n->B.blk i m=A.blk i m):fT B D L G t P xs:=
 ⟨b.trans h.n,by rw [e];exact h.wait,h.lost.congr b (funext f),λi m=>(g i m).trans (h.bad i m),h.turn,λi a=>by rw [b] at a;rw [c i 0 a];exact h.root i a,λi a=>by rw [b] at a;rw [c i 1 a];exact h.fill i a,h.pl,
  λk o i a=>by rw [b] at a;rw [c i _ a];exact h.page k o i a,h.nod,by rw [d];exact h.inb,h.fits,h.up,λx p j l i a=>by rw [b] at a;rw [c i _ a];exact h.held x p j l i a,by rw [d];exact h.room⟩
theorem wt {A B:aB} {xs xs':bg} (h:fT A D L G t P xs) (d:B.n=A.n) (q:B.nb=A.nb) (v:B.wait=A.wait) (w:B.lost=A.lost) (y:∀ i m,B.bad i m=false) (z:∀ i,i<A.n->B.blk i 1=A.blk i 1)
 (Q:P'.length=pgs D (aC xs'.os).length) (l:(P'++ai xs'.os).Nodup) (f:∀ x∈P'++ai xs'.os,2<=x/\x<A.nb) (F:∀ x∈xs',kX D x) (S:Up xs'.names) (u:∀ x∈xs',PL B D L G x) (C:(ai xs'.os).length+2*P'.length+2<=A.nb) (p:Nat) (R:0<p) :
 fT ((B.pagesTo D L G P' (aC xs'.os) P'.length).putAt (Tn B.n) 0 (λ_=>(aW.root D L G p (P'.getD 0 0) (aC xs'.os).length).blk)) D L G p P' xs':=by
 obtain ⟨b,r,T,K⟩:=gX B D L G P' (aC xs'.os) P'.length;have N:P'.Nodup:=(Tm.1 l).1;have E:∀ x∈ai xs'.os,x∉P':=λx g M=>(Tm.1 l).2.2 x M x g rfl;have H:∀ k,k<P'.length->P'.getD k 0∈P':=λk c=>by rw [fD c];exact Tr c
 have I:(0:Nat)∉P':=λe=>by have:=(f 0 (Tx _ e)).1;omega
 have J:(1:Nat)∉P':=λe=>by have:=(f 1 (Tx _ e)).1;omega
 refine ⟨?_,?_,?_,λi m=>?_,R,λi a=>?_,λi a=>?_,Q,λk c i a=>?_,l,?_,F,S,λx g j o i a=>?_,?_⟩
 . exact b.trans (d.trans h.n)
 . show (B.pagesTo D L G P' (aC xs'.os) P'.length).wait<0;rw [T,v];exact h.wait
 . exact h.lost.congr (b.trans d) (K.trans w)
 . exact wg (AW y _ _ _ _ _ _) _ _ _ _ _
 . replace a:i<B.n:=b▸a
   exact AU _ _ _ _ _ a
 . replace a:i<B.n:=b▸a
   rw [jR _ _ _ _ _ _ (by decide),qC _ _ _ _ _ _ _ _ J,z i (d▸a)];exact h.fill i (d▸a)
 . replace a:i<B.n:=b▸a
   have O:P'.getD k 0≠0:=λe=>I (by rw [<- e];exact H k c);rw [jR _ _ _ _ _ _ O];exact Dy D L G _ N a c
 . show ∀ x∈P'++ai xs'.os,2<=x/\x<(B.pagesTo D L G P' (aC xs'.os) P'.length).nb;rw [r,q];exact f
 . replace a:i<B.n:=b▸a
   have s:x.1.stripes.getD j 0∈ai xs'.os:=by
    rw [fD o];unfold ai bg.os;rw [TA];exact ⟨x.1,TB g,Tr o⟩
   rw [jR _ _ _ _ _ _ (λe=>by have:=(f _ (Ty _ s)).1;omega),qC _ _ _ _ _ _ _ _ (E _ s)];exact u x g j o i a
 . show (ai xs'.os).length+2*P'.length+2<=(B.pagesTo D L G P' (aC xs'.os) P'.length).nb;rw [r,q];exact C
end
section
open Gf
def bg.ins (xs:bg) (x:Ob×List Nat):bg:=xs.take (aF xs.names x.1.name)++x::xs.drop (aF xs.names x.1.name)
def bg.del (xs:bg) (k:Nat):bg:=xs.take k++xs.drop (k+1)
theorem jS (xs:bg) (x:Ob×List Nat):(xs.ins x).Perm (x::xs):=by
 unfold bg.ins;refine List.perm_middle.trans ?_;rw [TC]
theorem Kb (xs:bg) (x:Ob×List Nat):(xs.ins x).os=xs.os.take (aF xs.names x.1.name)++x.1::xs.os.drop (aF xs.names x.1.name):=by
 unfold bg.ins bg.os;rw [Ts,To,Tt,Tu]
theorem Gu (xs:bg) (x:Ob×List Nat):(xs.ins x).names=xs.names.take (aF xs.names x.1.name)++x.1.name::xs.names.drop (aF xs.names x.1.name):=by
 unfold bg.names;rw [Kb];unfold aZ bg.names aZ;rw [Ts,To,Tt,Tu]
theorem Kc (xs:bg) (k:Nat):(xs.del k).os=xs.os.take k++xs.os.drop (k+1):=by
 unfold bg.del bg.os;rw [Ts,Tt,Tu]
theorem Gv (xs:bg) (k:Nat):(xs.del k).names=xs.names.take k++xs.names.drop (k+1):=by
 unfold bg.names;rw [Kc];unfold aZ;rw [Ts,Tt,Tu]
theorem kI (xs:bg) (k:Nat):(xs.del k).Sublist xs:=by
 have a:(xs.take k++xs.drop (k+1)).Sublist (xs.take k++xs.drop k):=TD (TE _) (by rw [<- List.drop_drop];exact List.drop_sublist _ _);rwa [TC] at a
theorem Dz (o:Ob) (os:List Ob):ai (o::os)=o.stripes++ai os:=by unfold ai;rw [Tp]
theorem pF (xs:bg) (x:Ob×List Nat):(ai (xs.ins x).os).Perm (x.1.stripes++ai xs.os):=by
 have h:=(jS xs x).map (·.1);have:=h.flatMap_right (·.stripes);rw [To,Tp] at this;exact this
theorem Gw (xs:bg) (x:Ob×List Nat):(aC (xs.ins x).os).length=(aC xs.os).length+(iI x.1).length:=by
 have h:=((jS xs x).map (·.1)).flatMap_right iI;rw [To,Tp] at h;have:=h.length_eq;rw [Tq] at this;unfold aC bg.os;omega
theorem oI {α β:Type} (f:α->List β):∀ {l m:List α},l.Sublist m->(l.flatMap f).Sublist (m.flatMap f)
 | _,_,.slnil=>by simp
 | _,_,.cons a h=>by rw [Tp];exact (oI f h).trans (List.sublist_append_right _ _)
 | _,_,.cons_cons a h=>by rw [Tp,Tp];exact TD (TE _) (oI f h)
theorem Gx (xs:bg) (k:Nat):(ai (xs.del k).os).Sublist (ai xs.os):=oI _ ((kI xs k).map _)
theorem pG (xs:bg) (k:Nat):(aC (xs.del k).os).length<=(aC xs.os).length:=(oI iI ((kI xs k).map (Prod.fst:Ob×List Nat->Ob))).length_le
theorem tl {m n:Nat} (h:m<=n):pgs D m<=pgs D n:=by
 unfold pgs;have a:(m+(D*44-4)-1)/(D*44-4)<=(n+(D*44-4)-1)/(D*44-4):=Tv (by omega);omega
theorem Ke {A:aB} {xs:bg} (h:fT A D L G t P xs) (x:Ob×List Nat) (H:kX D x) (z:x.1.name∉xs.names) (B:P'.length=pgs D (aC (xs.ins x).os).length)
 (p:((x.1.stripes++P')++(P++ai xs.os)).Nodup) (o:∀ b∈(x.1.stripes++P')++(P++ai xs.os),2<=b/\b<A.nb) (O:(ai xs.os).length+x.1.stripes.length+2*P'.length+2<=A.nb) :
 fT (((A.objTo D L G x.1.stripes x.2 x.1.stripes.length).pagesTo D L G P' (aC (xs.ins x).os) P'.length).putAt (Tn A.n) 0 (λ_=>(aW.root D L G (t+1) (P'.getD 0 0) (aC (xs.ins x).os).length).blk)) D L G (t+1) P' (xs.ins x):=by
 obtain ⟨k,s,u,v⟩:=yP A D L G x.1.stripes x.2 x.1.stripes.length;rw [show Tn A.n=Tn (A.objTo D L G x.1.stripes x.2 x.1.stripes.length).n by rw [k]];rw [Tm] at p;obtain ⟨I,J,m⟩:=p;obtain ⟨r,K,M⟩:=Tm.1 I;obtain ⟨Q,N,R⟩:=Tm.1 J;have C:x.1.stripes.Nodup:=r;have w:(1:Nat)∉x.1.stripes:=λe=>by have:=(o 1 (by simp [e])).1;omega
 refine wt h k s u v (Gt h.bad _ _ _ _ _ _) (λi _=>wh _ _ _ _ _ _ _ _ w) B ?_ ?_ ?_ ?_ ?_ ?_ (t+1) (by omega)
 . have F:(P'++ai (xs.ins x).os).Perm (P'++(x.1.stripes++ai xs.os)):=(pF xs x).append_left P';rw [F.nodup_iff,Tm];refine ⟨K,?_,?_⟩
   . rw [Tm];exact ⟨r,N,λa f b c=>m a (by simp [f]) b (by simp [c])⟩
   . intro a f b c;rcases Tw.1 c with c|c
     . exact λe=>M b c a f e.symm
     . exact m a (by simp [f]) b (by simp [c])
 . intro b c;refine o b ?_;rcases Tw.1 c with c|c
   . simp [c]
   . have:=(pF xs x).mem_iff.1 c;rcases Tw.1 this with q|q<;>simp [q]
 . intro y d;rcases TF.1 ((jS xs x).mem_iff.1 d) with rfl|d
   . exact H
   . exact h.fits y d
 . rw [Gu];exact Gk h.up z
 . intro y d j g i l;rw [k] at l;rcases TF.1 ((jS xs x).mem_iff.1 d) with rfl|d
   . exact Ka D L G _ C l g
   . have E:y.1.stripes.getD j 0∈ai xs.os:=by
      rw [fD g];unfold ai bg.os;rw [TA];exact ⟨y.1,TB d,Tr g⟩
     rw [wh _ _ _ _ _ _ _ _ (λe=>m _ (Tx _ e) _ (Ty _ E) rfl)];exact h.held y d j g i l
 . rw [(pF xs x).length_eq,Tq];omega
theorem Kf {A:aB} {xs:bg} (h:fT A D L G t P xs) (k:Nat) (f:P'.length=pgs D (aC (xs.del k).os).length)
 (l:(P'++(P++ai xs.os)).Nodup) (j:∀ b∈P'++(P++ai xs.os),2<=b/\b<A.nb) :
 fT ((A.pagesTo D L G P' (aC (xs.del k).os) P'.length).putAt (Tn A.n) 0 (λ_=>(aW.root D L G (t+1) (P'.getD 0 0) (aC (xs.del k).os).length).blk)) D L G (t+1) P' (xs.del k):=by
 have d:=Gx xs k;obtain ⟨o,p,q⟩:=Tm.1 l;obtain ⟨v,r,w⟩:=Tm.1 p;refine wt h rfl rfl rfl rfl h.bad (λi _=>rfl) f ?_ ?_ (λx e=>h.fits x ((kI xs k).subset e)) ?_ (λx e=>h.held x ((kI xs k).subset e)) ?_ (t+1) (by omega)
 . rw [Tm];exact ⟨o,r.sublist d,λa m b c=>q a m b (Ty _ (d.subset c))⟩
 . intro b c;refine j b ?_;rcases Tw.1 c with c|c
   . simp [c]
   . simp [d.subset c]
 . rw [Gv];exact JZ h.up k
 . have s:=d.length_le;have u:=h.room;have g:=tl (D:=D) (pG xs k);rw [<- f,<- h.pl] at g;omega
end
section
open Gf
theorem AX (q s:Nat) (d:1<=q):max 1 ((s+q-1)/q)<=s/q+1:=by
 have c:(s+q-1)/q<=(s+q)/q:=Tv (by omega);rw [Nat.add_div_right _ (by omega)] at c;generalize s/q=a at c ⊢;generalize (s+q-1)/q=b at c ⊢;omega
def qD (D:Nat) (xs:bg):Nat:=(xs.map λx=>x.2.length/(D*44)+1).sum
theorem Ev (c:1<=D):∀ {xs:bg},(∀ x∈xs,kX D x)->(ai xs.os).length<=qD D xs
 | [],_=>by simp [qD,ai,bg.os]
 | x::xs,h=>by
  have ih:=Ev c (xs:=xs) (λy d=>h y (by simp [d]));have a:=h x (by simp);have b:=AX (D*44) x.1.size (by omega);rw [<- a.st] at b;have e:ai (bg.os (x::xs))=x.1.stripes++ai (bg.os xs):=by unfold bg.os;rw [To,Dz]
  rw [e,Tq];unfold qD at ih ⊢;rw [To,List.sum_cons,a.len];omega
theorem je (c:1<=D):∀ {xs:bg},(∀ x∈xs,kX D x)->(aC xs.os).length<=xs.length*(19+4*(1500/(D*44)+1))
 | [],_=>by simp [aC,bg.os]
 | x::xs,h=>by
  have ih:=je c (xs:=xs) (λy d=>h y (by simp [d]));have a:=h x (by simp);have b:=AX (D*44) x.1.size (by omega);rw [<- a.st] at b;have f:x.1.size/(D*44)<=1500/(D*44):=Tv a.fit.size;have e:aC (bg.os (x::xs))=iI x.1++aC (bg.os xs):=by unfold bg.os aC;rw [To,Tp]
  rw [e,Tq,iJ a.fit,List.length_cons,Nat.add_mul];omega
theorem DA (c:1<=D) (p:D<=6) {xs:bg} (h:∀ x∈xs,kX D x) {n nb count pages:Nat} (k:n<=1500) (d:count=max 1 ((n+D*44-1)/(D*44))) (e:pages=pgs D ((aC xs.os).length+(19+4*count)))
 (f:nb<(ai xs.os).length+count+2*pages+2):nb<qD D xs+(n/(D*44)+1)+2*((xs.length+1)*200/(D*44)+1)+8:=by
 have g:=Ev c h;have i:=je c h;have j:=AX (D*44) n (by omega);rw [<- d] at j;have o:n/(D*44)<=1500/(D*44):=Tv k;suffices hs:pages<=(xs.length+1)*200/(D*44)+4 by omega
 obtain ⟨m,b⟩:=nM (xs.length);obtain ⟨l,a⟩:=nM ((aC xs.os).length);rw [b,a] at i;rw [a] at e;rw [b];clear g d b a f h;subst e;unfold pgs;have:D=1\/D=2\/D=3\/D=4\/D=5\/D=6:=by omega
 rcases this with rfl|rfl|rfl|rfl|rfl|rfl<;>omega
theorem DB {A:aB} {xs:bg} (h:fT A D L G t P xs) {count pages l:Nat} (c:pages=pgs D ((aC xs.os).length+l)) (d:(ai xs.os).length+count+2*pages+2<=A.nb) :
 count+pages<=(bh (tk A.nb (P++ai xs.os)).1 A.nb).length:=by
 have a:=lM h.nod h.inb;have b:=tl (D:=D) (show (aC xs.os).length<=(aC xs.os).length+l by omega);rw [<- c,<- h.pl] at b;rw [Tq] at a;omega
theorem tn {A:aB} {xs:bg} (h:fT A D L G t P xs) (k:Nat):pgs D (aC (xs.del k).os).length<=(bh (tk A.nb (P++ai xs.os)).1 A.nb).length:=by
 have a:=lM h.nod h.inb;have b:=tl (D:=D) (pG xs k);rw [<- h.pl] at b;rw [Tq] at a;have:=h.room;omega
end
section
open Go.Deep
def bB (x:ByteArray):Bool:=decide (1<=x.size/\x.size<=16)
theorem du (x:ByteArray) (w:Z9):Calls Z8 74 #[.string x] w λe w'=>e=.returned (.bool (bB x))/\w'=w:=by
 have g:bB x=(decide (1<=x.size)&&decide (x.size<=16)):=by unfold bB;simp
 rw [g];obtain ⟨n,f⟩:=nM (x.size);rw [f];by_cases b:1<=n
 . have a:(1:Int)<=(n:Int):=(by omega);by_cases c:n<=16
   . have d:(n:Int)<=16:=(by omega);go_enter Tryz.func74,Tryz.ntmps74;go_wp2;go_ret;exact ⟨by simp [b,c],rfl⟩
   . have d:¬ (n:Int)<=16:=(by omega);go_enter Tryz.func74,Tryz.ntmps74;go_wp2;go_ret;exact ⟨by simp,rfl⟩
 . have a:¬ (1:Int)<=(n:Int):=(by omega);go_enter Tryz.func74,Tryz.ntmps74;go_wp2;go_ret;exact ⟨by simp,rfl⟩
theorem tq (s:ByteArray) (w:Z9) (l:¬ s.size=0) (A:s.size<=1000000):Calls Z8 140 #[.string s] w λe w'=>e=.returned (.string s)/\Below w.heap.size w w':=by
 obtain ⟨i,d,v,a,y⟩:=info_parts Tryz.infoByte;have m:(Z8.info? 5).map (·.size)=some 1:=by rw [d];simp [a]
 have r:Z8.cellsOf 5=1:=by simp [Program.cellsOf,d,a]
 obtain ⟨M,b⟩:∃ M,M=madeCells (Value.int .u8 0).cells (((s.size:Nat):Int).toNat*i.size):=⟨_,rfl⟩;have B:M.size=s.size:=by rw [b,size_madeCells,a];simp
 have D:∀ W:Z9,(Instr.makeSlice 34 (.int .i64 (s.size:Int)) (.int .i64 (s.size:Int))).run Z8 W=.ok (.slice (some ⟨W.heap.size,0,none⟩) s.size s.size) (W.alloc (.cells M 5)):=λW=>by
  have h:=run_make (P:=Z8) W 34 5 i (.int .u8 0) Tryz.underlying34 d v .i64 .i64 (s.size:Int) (s.size:Int) (by omega) (by omega) (by rw [y];omega) (by omega);rw [<- b] at h;simpa using h
 clear b;have t:=Lib.run_copy_row_string (P:=Z8) (w.alloc (.cells M 5)) 34 9 3 5 w.heap.size 0 s.size s.size s M 5 Tryz.underlying34 m (heap_alloc_new w _) lR (by omega);obtain ⟨Y,c⟩:∃ Y,Y=(M.toList.take 0++Lib.byteCells s.data.toList++M.toList.drop (0+s.size)).toArray:=⟨_,rfl⟩;rw [<- c] at t;have f:Y.toList=Lib.byteCells s.data.toList:=by
  rw [c,List.toList_toArray,List.take_zero,List.nil_append,List.drop_of_length_le (by rw [Tz];omega),List.append_nil]
 have C:Y.size=s.size:=by rw [<- Tz,f,Lib.byteCells_length,<- Lib.size_eq]
 have g:((w.alloc (.cells M 5)).setRow w.heap.size Y).heap[w.heap.size]?=some (.cells Y 5 (0,0)):=setRow_heap _ _ M _ 5 (0,0) (heap_alloc_new w _);have u:s.data.toList≠[]:=λe=>l (by rw [Lib.size_eq,e];rfl);have n:=Lib.run_unsafeString_row (P:=Z8) ((w.alloc (.cells M 5)).setRow w.heap.size Y) 277 3 9 5 Tryz.underlying277 r w.heap.size Y.size (by unfold World.shape?;rw [g]) s.data.toList u (by rw [<- Lib.size_eq];omega) (by rw [<- Lib.size_eq];omega)
  (λj x z=>Lib.cells_of_row g Y.size j _ (by rw [List.take_of_length_le (by rw [Tz];exact Nat.le_refl _),f];simp [Lib.byteCells,z]))
 rw [<- Lib.size_eq] at n;clear c;go_enter Tryz.func140,Tryz.ntmps140;go_wp2;go_ret;have o:Below w.heap.size w (w.alloc (.cells M 5)):=bA w _;have q:Below w.heap.size (w.alloc (.cells M 5)) ((w.alloc (.cells M 5)).setRow w.heap.size Y):=⟨rfl,rfl,rfl,by simp,λk E=>setRow_other _ _ _ _ (by omega)⟩;exact ⟨rfl,Lib.below_freeze (o.trans q) (p:=⟨w.heap.size,0,none⟩) lR _⟩
theorem ts (s:ByteArray) (w:Z9) (c:¬ s.size=0) (d:s.size<=1000000):Calls Z8 103 #[.string s] w λe w'=>e=.returned (.string s)/\Below w.heap.size w w':=by
 have b:=tq s w c d;go_enter Tryz.func103,Tryz.ntmps103;go_wp2_with fail;refine b.mono ?_;rintro e w1 ⟨rfl,a⟩;have H:=hide a;clear a b;go_wp2;go_ret;exact ⟨rfl,H.out⟩
end
section
open Go.Deep Gf
def aB.rdTo (A:aB) (k:Nat):aB:=A.rd λi=>if i<k then 0 else A.reads i
def ub (A:aB) (k:Nat):List Value:=(Tn k).map λi=>.int .i64 (A.reads i)
theorem Hb (A:aB) (k:Nat):ub A (k+1)=ub A k++[.int .i64 (A.reads k)]:=by simp [ub,List.range_succ]
theorem Hc (A:aB) (k:Nat):(A.rdTo k).setReads k 0=A.rdTo (k+1):=by
 unfold aB.rdTo aB.setReads aB.rd;congr 1;funext i;show (if i=k then (0:Int) else if i<k then 0 else A.reads i)=if i<k+1 then 0 else A.reads i;by_cases h:i=k
 . rw [if_pos h,if_pos (by omega)]
 . rw [if_neg h];by_cases q:i<k
   . rw [if_pos q,if_pos (by omega)]
   . rw [if_neg q,if_neg (by omega)]
theorem ay.zeros {X:Z9} {A:aB} (h:ay X p (A.rdTo A.n) F):ay X p (A.rd λ_=>0) F:=by
 refine ⟨h.top,?_,h.blk,h.bad,h.inj⟩;obtain ⟨cs,c,d⟩:=h.drv;refine ⟨cs,c,λk a=>?_⟩;rw [d k a];unfold mx;have b:k/4<A.n:=by have:k<4*A.n:=a;omega
 show some (if k%4=0 then Value.bool (A.lost (k/4)) else if k%4=1 then _ else if k%4=2 then _ else .int .i64 (if k/4<A.n then 0 else A.reads (k/4)))=_;rw [if_pos b];rfl
theorem MF {wr w':Z9} {base:Nat} {B:aB} {o:Obj} {lv:Value} {xs:List Value} (d:ay wr p B F) (g:wr.ownsRow base 3 1 lv k xs) (a:(wr.alloc o).grownBy w' lv.ownBlock) (f:∀ j,F.has p B.n j->j<base) (i:base<=wr.heap.size):ay w' p B F/\aa (λj=>base<=j) wr w':=by
 have h:wr.heap.size<=w'.heap.size:=by have:=a.size;rw [World.size_alloc] at this;omega
 have c:∀ j,j<base->w'.heap[j]?=wr.heap[j]?:=λj b=>(a.block j (by rw [World.size_alloc];omega) (λe=>by have:=iy g e.symm;omega)).trans (blk_alloc_lt _ _ _ (by omega));exact ⟨d.keep λj b=>c j (f j b),a.os,a.tape,a.output,h,λj _ l=>c j (by omega)⟩
def Ru (w:Z9) (p:Nat) (A:aB) (F:bx) (lv iv:Value) (wr:Z9):Prop:=∃ k:Nat,k<=A.n/\iv=.int .i64 k/\wr.ownsRow w.heap.size 3 1 lv k (ub A k)/\ay wr p (A.rdTo k) F/\aa (F.has p A.n) w wr
theorem DX {A:aB} (h:ay w p A F) (hn:A.n<=1000) :
 Calls Z8 10 #[.pointer (some ⟨p,0,none⟩)] w λe w'=>∃ v,e=.returned v/\w'.ownsRow w.heap.size 3 1 v A.n (ub A A.n)/\ay w' p (A.rd λ_=>0) F/\aa (F.has p A.n) w w':=by
 obtain ⟨V,M,P,Q,T⟩:=info_parts Tryz.infoIntT;obtain ⟨m,_⟩:=h.p_cells;have hv:=h.p_lt;have hr:=h.g_lt;have hp:=h.apart.1;have y:Ru w p A F (.slice none 0 0) (.int .i64 (0:Nat)) w:=⟨0,Nat.zero_le _,rfl,World.ownsRow_nil _ _ _ _,by
  have e:A.rdTo 0=A:=by unfold aB.rdTo aB.rd;simp
  rw [e];exact h,aa.refl _ _⟩
 have H:=hide2 y (λj (R:F.has p A.n j)=>h.has_lt R);clear y h;go_enter Tryz.func10,Tryz.ntmps10;go_wp2;go_loopw [3,10] (λW r wr=>Ru w p A F W r wr) (λ_ r _=>A.n-(intOf r).toNat)
 case atStart=>exact H.out.1
 case round=>
  clear m;rename Z9=>wr;obtain ⟨k,hk,rfl,d,b,a⟩:=hrel;have C:=a.size;by_cases z:k<A.n
  . obtain ⟨m,_⟩:=b.p_cells;obtain ⟨I,d1,J,s⟩:=b.drvs k z;have o:wr.cell? ⟨F.g,k*4+3,none⟩=some (.int .i64 (A.reads k)):=by
     rw [s];show some (Value.int .i64 (if k<k then 0 else A.reads k))=_;rw [if_neg (Nat.lt_irrefl k)]
    obtain ⟨x,l⟩:=nM (A.reads k);rw [l] at o;have f:=hide4 d b a l;clear I d1 J s l b a;have t:(A.rdTo k).n=A.n:=rfl;rw [t] at m;clear t;go_wp2_with (at_builtin;refine wpList_append_own_at _ rfl (.tmp 13) (.tmp 22) 41 rfl w.heap.size 3 V (.int .i64 0) 1 8 Tryz.underlying41 M P Q T rfl (by decide) _ k _ rfl (d.alloc _) ⟨wr.heap.size,0,none⟩ 1 1 _ rfl rfl (rC wr _ _) (by intro u E;simp at E;subst E;rfl) (by unfold maxLen;omega) (by omega) (by simp;omega) ?_;intro X w' ho D K L;obtain ⟨c,i⟩:=MF f.out.2.1 f.out.1 D H.out.2 C;obtain ⟨Y,_⟩:=c.p_cells;have y3:=(c.drvs k z).2.2.2;have yf:=c.unfrozen (k*4+3);rw [show (A.rdTo k).n=A.n from rfl] at Y;have G:=hide3 ho c i;clear ho D K L c i);go_roundw
    case rel=>
     obtain ⟨ho,c,i⟩:=G.out;obtain ⟨_,_,a,l⟩:=f.out;have B:=c.setReads k 0;rw [Hc] at B;have hs:w.heap.size<=w'.heap.size:=Nat.le_trans C i.size;have O:X.ownBlock≠some F.g:=λe=>by have:=iy ho e;omega
     refine ⟨k+1,by omega,by go_num,?_,B,?_⟩
     . rw [Hb,l];exact fj ho (aa.setCell (S:=λj=>j=F.g) _ ⟨F.g,k*4+3,none⟩ _ rfl) (λq U e=>O (e▸U))
     . exact (a.later i (λj Z h2=>by omega)).trans (aa.setCell _ _ _ (.inr (.inl rfl)))
    case measure=>simp [intOf]<;>omega
  . have N:k=A.n:=(by omega);subst N;have f:=hide3 d b a;clear d b a;go_wp2;go_ret;obtain ⟨d,b,a⟩:=f.out;exact ⟨_,rfl,d,b.zeros,a⟩
theorem DY {A:aB} (h:aq w p A F) (g:A.n<=1000) :
 Calls Z8 10 #[.pointer (some ⟨p,0,none⟩)] w λe w'=>∃ v,e=.returned v/\w'.ownsRow w.heap.size 3 1 v A.n (ub A A.n)/\aq w' p (A.rd λ_=>0) F/\aa (F.has p A.n) w w':=by
 obtain ⟨R,d,b,a⟩:=h;refine (DX d (by rw [a.n];exact g)).mono ?_;rintro e w' ⟨v,rfl,ho,f,c⟩;rw [a.n] at ho c;have e:ub R A.n=ub A A.n:=by unfold ub;rw [a.reads]
 rw [e] at ho;exact ⟨v,rfl,ho,⟨_,f,⟨b.n,b.nb,b.len,b.byt⟩,⟨a.n,a.nb,a.wait,a.lost,rfl,a.here⟩⟩,c⟩
end
end Go.Proofs.YtfbmmcnpjhmjaaaGreatDoor
