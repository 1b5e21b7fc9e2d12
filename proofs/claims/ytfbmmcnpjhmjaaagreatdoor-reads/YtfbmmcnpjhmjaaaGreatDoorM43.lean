import Derived.Test.YtfbmmcnpjhmjaaaGreatDoorM37
import Derived.Test.YtfbmmcnpjhmjaaaGreatDoorM42
set_option maxRecDepth 100000
set_option maxHeartbeats 8000000
open Go.IntKind renaming i64 -> Z9
open Go.Value renaming int -> Z8, pointer -> Z7, slice -> Z6
open Go.Obj renaming cells -> Z5
open Option renaming none -> Z4, some -> Z3
open Bool renaming true -> Z2
open Go renaming World -> Z1
open Go.RowKit renaming Below -> Z0
open Nat renaming le_trans -> Tm, lt_of_lt_of_le -> Tn
open Array renaming getElem?_eq_some_iff -> To
open Go.Proofs.Tryz renaming prog -> ZZ
namespace Go.Proofs.YtfbmmcnpjhmjaaaGreatDoor
open Go.RowKit Go.Shelf Go.Deep Gf
variable {C:Ck} {D L G lost room:Int} {sb nb s m c:Nat} {ao:Option Addr} {w w2 w3:Z1}
section
structure uK (w w2:Z1) (D L G lost:Int):Prop where
 par:w2.heap[w.heap.size]?=Z3 (Z5 #[Z8 Z9 D,Z8 Z9 L,Z8 Z9 G,Z8 .u64 lost,.bool Z2] 228 (0,0))
 res:w2.heap[w.heap.size+1]?=Z3 (Z5 #[Z8 Z9 0,Z6 Z4 0 0] 210 (0,0))
 below:Z0 w.heap.size w w2
 size:w.heap.size+2<=w2.heap.size
theorem uK.new (w:Z1) (D L G lost:Int):uK w ((w.alloc (Z5 #[Z8 Z9 D,Z8 Z9 L,Z8 Z9 G,Z8 .u64 lost,.bool Z2] 228)).alloc (Z5 #[Z8 Z9 0,Z6 Z4 0 0] 210)) D L G lost:=by
 refine ⟨(blk_alloc_lt _ _ _ (by simp)).trans (blk_alloc_new _ _),?_,(bA w _).alloc (by simp) _,by simp⟩;have:=blk_alloc_new (w.alloc (Z5 #[Z8 Z9 D,Z8 Z9 L,Z8 Z9 G,Z8 .u64 lost,.bool Z2] 228)) (Z5 #[Z8 Z9 0,Z6 Z4 0 0] 210);rwa [World.size_alloc] at this
theorem uK.mono (h:uK w w2 D L G lost) (a:Z0 w2.heap.size w2 w3):uK w w3 D L G lost:=by
 have:=h.size;exact ⟨(a.block _ (by omega)).trans h.par,(a.block _ (by omega)).trans h.res,h.below.trans (a.mono h.below.size),Tm h.size a.size⟩
theorem uK.cells (h:uK w w2 D L G lost):w2.cell? ⟨w.heap.size,0,Z4⟩=Z3 (Z8 Z9 D)/\w2.cell? ⟨w.heap.size,1,Z4⟩=Z3 (Z8 Z9 L)/\w2.cell? ⟨w.heap.size,2,Z4⟩=Z3 (Z8 Z9 G)/\w2.cell? ⟨w.heap.size,3,Z4⟩=Z3 (Z8 .u64 lost)/\w2.cell? ⟨w.heap.size,4,Z4⟩=Z3 (.bool Z2):=by
 have a:=h.par;simp [World.cell?,a]
theorem aa.after {T:Nat->Prop} (a:Z0 w.heap.size w w2) (b:aa T w2 w3):aa T w w3:=⟨b.os.trans a.os,b.tape.trans a.tape,b.output.trans a.output,Tm a.size b.size,λk c d=>(b.block k (Tn c a.size) d).trans (a.block k c)⟩
section
variable (D L G lost:Nat) (hr:cn D L G=Z2) (hD1:1<=D) (hD:D<=12) (hL:1<=L) (hL4:L<=4) (hG:G<=4) (hdiv:D%L=0) (h16:D+L+G<=16) (hl:lost<2^(D+L+G)) (hT0:∃ C,tells (fE D L G) (ae lost)=Z3 C)
include hr hD1 hD hL hL4 hG hdiv h16 hl hT0
theorem Kl (w:Z1) (r:aJ w) (F:3<=w.heap.size):Calls ZZ 168 #[bY D L G lost Z2] w (Df D L G lost w (λ_=>False)):=by
 have a:=uK.new w D L G lost;obtain ⟨w2,o⟩:=nM ((w.alloc (Z5 #[Z8 Z9 (D:Int),Z8 Z9 (L:Int),Z8 Z9 (G:Int),Z8 .u64 (lost:Int),.bool Z2] 228)).alloc (Z5 #[Z8 Z9 0,Z6 Z4 0 0] 210));rw [o] at a;obtain ⟨y,c1,A,B,E⟩:=a.cells;have n:=Dh D L G lost hr hD1 hD hL hL4 hG hdiv h16 hl hT0 w2 (r.mono (by omega) a.below) (Tm F a.below.size);have H:=hide2 a n;clear a n r;unfold bY;go_enter Tryz.func168,Tryz.ntmps168;go_wp2_with fail;refine H.out.2.mono ?_;rintro e w3 ⟨s,C,h,i,ao,m,c,rfl,d,g⟩;obtain ⟨z,j⟩:∃ z:Int,1+((ae (av (D+L+G) s)).length:Int)=z:=⟨_,rfl⟩;have x:=hide j;rw [j];have a:=H.out.1;have t:=a.size;have f:=(g.block (w.heap.size+1) (by omega) (λq=>q)).trans a.res;obtain ⟨P,Q,O,N⟩:=aG f;have u:=hide6 d g f t h i;clear d g f y c1 A B E o a h i j;go_wp2;obtain ⟨d,g,f,t,h,i⟩:=u.out;obtain ⟨n0,M,_⟩:=aG (kU (y':=.slice ao m c) (kT (x':=Z8 Z9 z) f));have l:(Value.slice ao m c).ownBlock≠Z3 (w.heap.size+1):=λe=>by have:=jN d e;omega
 have I:=(d.kept (dh w3 (w.heap.size+1) 0 (Z8 Z9 z)) (.inr l)).kept (dh _ (w.heap.size+1) 1 (.slice ao m c)) (.inr l);refine bodyPost_ret (v:=.tuple #[.agg #[Z8 Z9 z,.slice ao m c],.nilIface]) (by simp [results,Tryz.results168,go_sem,n0,M]) rfl ?_;have b:aa (λ_=>False) w w3:=aa.after H.out.1.below g;have J:Z0 w.heap.size w w3:=⟨b.os,b.tape,b.output,b.size,λk K=>b.block k K (λq=>q)⟩;exact ⟨s,C,h,i,ao,m,c,by rw [x.out],jO I (by omega),aa.of_all ((J.setCell (p:=⟨w.heap.size+1,0,Z4⟩) (by show w.heap.size<=w.heap.size+1;omega) _).setCell (p:=⟨w.heap.size+1,1,Z4⟩) (by show w.heap.size<=w.heap.size+1;omega) _) _⟩
end
structure Hl (w:Z1) (sb nb:Nat) (room:Int) (D L G lost s:Nat) (C:Ck) (ao:Option Addr) (m c:Nat):Prop where
 list:gC w sb room
 shelf:w.heap[sb+1+1+1]?=Z3 (Z5 #[Z7 (Z3 ⟨sb+1+1,0,Z4⟩)] 230 (0,0))
 map:∃ n k,w.heap[sb+1]?=Z3 (.map #[{ key:=bY D L G lost Z2,val:=Z7 (Z3 ⟨nb,0,Z4⟩),born:=k }] n)
 ends:iC w sb nb
 node:dH w nb D L G lost Z2 (1+((ae (av (D+L+G) s)).length:Int)) (.slice ao m c) (Z7 (Z3 ⟨sb,0,Z4⟩)) (Z7 (Z3 ⟨sb,0,Z4⟩))
 ne:sb+1+1+1<nb
 own:w.ownsRow 0 284 4 (.slice ao m c) (cK D L G s C).length (eH .u8 (cK D L G s C))
 rds:OY D L G lost s
 told:tells (fE D L G) (ae (av (D+L+G) s))=Z3 C
def QF (sb nb:Nat) (ao:Option Addr) (m c k:Nat):Prop:=(sb<=k/\k<=sb+1+1+1)\/k=nb\/(Value.slice ao m c).ownBlock=Z3 k
theorem Hl.keep {w':Z1} {D L G lost:Nat} (h:Hl w sb nb room D L G lost s C ao m c) (a:∀ k,QF sb nb ao m c k->w'.heap[k]?=w.heap[k]?):Hl w' sb nb room D L G lost s C ao m c:=
 ⟨(a _ (.inl ⟨by omega,by omega⟩)).trans h.list,(a _ (.inl ⟨by omega,by omega⟩)).trans h.shelf,by obtain ⟨n,k,q⟩:=h.map;exact ⟨n,k,(a _ (.inl ⟨by omega,by omega⟩)).trans q⟩,dH.keep h.ends (a _ (.inl ⟨by omega,by omega⟩)),h.node.keep (a _ (.inr (.inl rfl))),h.ne,Gd h.own λk q=>a k (.inr (.inr q)),h.rds,h.told⟩
def tC (sb:Nat) (room:Int) (ho:Nat):dD where
 ps:=sb+1+1+1
 ho:=ho
 bl:=λk=>sb<=k/\k<=sb+1+1+1
 S:=λw=>jF w sb room
 keep:=λw w' h hk=>h.keep λk h1 h2=>hk k ⟨h1,h2⟩
 kd:=λw h k hk cs T z e=>by
  obtain ⟨h1,h2⟩:=hk
  have hx:k=sb\/k=sb+1\/k=sb+1+1\/k=sb+1+1+1:=by omega
  rcases hx with rfl|rfl|rfl|rfl
  . rw [h.ends] at e;injection e with e;injection e with _ e;exact .inr (.inr (.inl e.symm))
  . obtain ⟨n,q⟩:=h.map;rw [q] at e;injection e with e;cases e
  . rw [h.list] at e;injection e with e;injection e with _ e;exact .inr (.inl e.symm)
  . rw [h.shelf] at e;injection e with e;injection e with _ e;exact .inl e.symm
 lt:=λw h k hk=>by have:=h.lt;omega
def tD (sb nb:Nat) (room:Int) (D L G lost s:Nat) (C:Ck) (ao:Option Addr) (m c:Nat) (ho:Nat):dD where
 ps:=sb+1+1+1
 ho:=ho
 bl:=QF sb nb ao m c
 S:=λw=>Hl w sb nb room D L G lost s C ao m c
 keep:=λw w' h hk=>h.keep hk
 kd:=λw h k hk cs T z e=>by
  rcases hk with ⟨h1,h2⟩|rfl|hk
  . have hx:k=sb\/k=sb+1\/k=sb+1+1\/k=sb+1+1+1:=by omega
    rcases hx with rfl|rfl|rfl|rfl
    . have q:w.heap[k]?=_:=h.ends
      rw [q] at e;injection e with e;injection e with _ e;exact .inr (.inr (.inl e.symm))
    . obtain ⟨n,k,q⟩:=h.map;rw [q] at e;injection e with e;cases e
    . have q:w.heap[sb+1+1]?=_:=h.list
      rw [q] at e;injection e with e;injection e with _ e;exact .inr (.inl e.symm)
    . rw [h.shelf] at e;injection e with e;injection e with _ e;exact .inl e.symm
  . have q:w.heap[k]?=_:=h.node
    rw [q] at e;injection e with e;injection e with _ e;exact .inr (.inr (.inl e.symm))
  . obtain ⟨cur,q⟩:=lJ h.own hk
    rw [q] at e;injection e with e;injection e with _ e;exact .inr (.inr (.inr e.symm))
 lt:=λw h k hk=>by
  rcases hk with ⟨h1,h2⟩|rfl|hk
  . have:=h.ne;have:=h.node.lt;omega
  . exact h.node.lt
  . exact Of h.own hk
def jx (D L G s:Nat) (ao:Option Addr) (m c:Nat) (e:Ending):Prop:=e=.returned (.tuple #[.agg #[Z8 Z9 (1+((ae (av (D+L+G) s)).length:Int)),.slice ao m c],.nilIface])
theorem jF.parts (h:jF w sb room):gC w sb room/\(∃ n,w.heap[sb+1]?=Z3 (.map #[] n))/\iC w sb sb/\w.cell? ⟨sb+1+1+1,0,Z4⟩=Z3 (Z7 (Z3 ⟨sb+1+1,0,Z4⟩)):=by
 refine ⟨h.list,h.map,h.ends,?_⟩;have a:=h.shelf;simp [World.cell?,a]
theorem Hl.cells {D L G lost:Nat} (h:Hl w sb nb room D L G lost s C ao m c):w.cell? ⟨sb+1+1+1,0,Z4⟩=Z3 (Z7 (Z3 ⟨sb+1+1,0,Z4⟩)):=by
 have a:=h.shelf;simp [World.cell?,a]
section
variable (D L G lost:Nat) (hr:cn D L G=Z2) (hD1:1<=D) (hD:D<=12) (hL:1<=L) (hL4:L<=4) (hG:G<=4) (hdiv:D%L=0) (h16:D+L+G<=16) (hl:lost<2^(D+L+G)) (hT0:∃ C,tells (fE D L G) (ae lost)=Z3 C)
include hr hD1 hD hL hL4 hG hdiv h16 hl hT0
theorem Km (hy:1<=room) (hS:jF w sb room) (hT:aJ w) (h2:3<=w.heap.size):Calls ZZ 151 #[Z7 (Z3 ⟨sb+1+1+1,0,Z4⟩),bY D L G lost Z2] w λe w'=>∃ nb s C ao m c,jx D L G s ao m c e/\Hl w' sb nb room D L G lost s C ao m c/\w.heap.size<=nb/\(∀ k,(Value.slice ao m c).ownBlock=Z3 k->w.heap.size<=k)/\aa (λk=>k=sb\/k=sb+1) w w':=by
 have g:=uK.new w D L G lost;obtain ⟨w2,ky⟩:=nM ((w.alloc (Z5 #[Z8 Z9 (D:Int),Z8 Z9 (L:Int),Z8 Z9 (G:Int),Z8 .u64 (lost:Int),.bool Z2] 228)).alloc (Z5 #[Z8 Z9 0,Z6 Z4 0 0] 210));rw [ky] at g;obtain ⟨F,c1,I,J,K⟩:=g.cells;have u:=hS.below g.below;obtain ⟨k7,⟨n,k9⟩,ks,kx⟩:=u.parts;have hv:∀ w',Z0 w2.heap.size w2 w'->Calls ZZ 167 #[Z7 (Z3 ⟨sb+1+1,0,Z4⟩),bY D L G lost Z2] w' λe hd=>e=.returned (.tuple #[.agg #[Z8 Z9 0,Z6 Z4 0 0],.bool false])/\Z0 w'.heap.size w' hd:=λw' hb=>Ar ((hb.block _ (To.1 k7).1).trans k7) ((hb.block _ (To.1 k9).1).trans k9) D L G lost Z2;have kb:Z0 w2.heap.size w2 (w2.alloc (Z5 #[Z8 Z9 0,Z6 Z4 0 0] 210)):=bA w2 _;obtain ⟨d0,d1,d2,d3,d4⟩:=(g.mono kb).cells;have dp:=(u.below kb).parts.2.2.2;have kr:=hide hS.lt;have q2:=g.size;have kz:w.heap.size≠w2.heap.size:=by omega
 have H:=hide3 g u hv;clear g u hv k7 k9 ks hS kb;unfold bY at H ⊢;go_enter Tryz.func151,Tryz.ntmps151;go_upto_region 1 with fail;go_cut [6,7] from 10 to 18 (λv6 v7 E=>v7=.bool false/\Z0 w2.heap.size w2 E)
 case first=>
  go_region_with (go_at_call 167;refine (H.out.2.2 _ ?_).mono ?_;(first|exact (Below.refl _ _).drew|exact ((Below.refl _ _).drew).alloc lR _);rintro e w3 ⟨rfl,l⟩;(try (have q3:w3.heap[w2.heap.size]?=Z3 (Z5 #[Z8 Z9 0,Z6 Z4 0 0] 210 (0,0)):=(l.block w2.heap.size (by simp)).trans (blk_alloc_new w2.drew _);obtain ⟨r0,r1,g1,g0⟩:=aG q3;clear q3));have hs:Z0 w2.heap.size w2 w3:=(by first|exact ((Below.refl _ w2).drew).trans l|exact ((bA w2 _).drew).trans (l.mono (by simp)));have y:=hide hs;clear l hs);all_goals (go_wp2_with fail;go_meet;case rel=>(refine ⟨rfl,?_⟩;first|exact y.out.alloc y.out.size _|exact (y.out.setCell (p:=⟨w2.heap.size,0,Z4⟩) lR _).setCell (p:=⟨w2.heap.size,1,Z4⟩) lR _))
 case rest=>
  clear F c1 I J K d0 d1 d2 d3 d4 dp kx kz;rename Z1=>w3;obtain ⟨rfl,l⟩:=hcut;obtain ⟨g,u,_⟩:=H.out;have j:=g.mono l;have T:=u.below l;obtain ⟨F,c1,I,J,K⟩:=j.cells;have kc:=Kl D L G lost hr hD1 hD hL hL4 hG hdiv h16 hl hT0 w3 (hT.mono (by omega) j.below) (Tm h2 j.below.size);unfold bY at kc;have y:=hide3 j T kc;clear g u j T kc l hT;go_wp2_with fail;refine y.out.2.2.mono ?_;rintro e b ⟨s,C,V,N,ao,m,c,rfl,ki,B⟩;clear F c1 I J K;obtain ⟨z,r⟩:∃ z:Int,1+((ae (av (D+L+G) s)).length:Int)=z:=⟨_,rfl⟩;rw [r];obtain ⟨j,T,_⟩:=y.out;have Y:Z0 w3.heap.size w3 b:=⟨B.os,B.tape,B.output,B.size,λk f=>B.block k f (λq=>q)⟩;have kp:=hide (show w.heap.size+2<=w3.heap.size/\w3.heap.size<=b.heap.size from ⟨j.size,Y.size⟩);have X:Z0 b.heap.size b (b.alloc (Z5 #[Z8 Z9 z,.slice ao m c] 210)):=bA b _;have W:=Y.trans (X.mono Y.size);have a:=j.mono W;have i:=T.below W;obtain ⟨k8,⟨n5,ka⟩,k6,kj⟩:=i.parts;have o:(b.alloc (Z5 #[Z8 Z9 z,.slice ao m c] 210)).heap[b.heap.size]?=Z3 (Z5 #[Z8 Z9 z,.slice ao m c] 210 (0,0)):=blk_alloc_new _ _;have t:=aA ki X;obtain ⟨d,ke⟩:=nM (b.alloc (Z5 #[Z8 Z9 z,.slice ao m c] 210));rw [ke] at X W a i k8 ka k6 kj o t;obtain ⟨F,c1,I,J,K⟩:=a.cells;obtain ⟨r0,r1,_,_⟩:=aG o;have hg:=C9 (w:=d.drew) hy k8 ka k6 D L G lost z Z2 ao m c;unfold bY at hg;have Z:=hide8 a i o t hg V N r;clear B ki Y X W a i k8 ka k6 o t hg j T V N r;go_upto_region 6 with fail;go_cut [34] from 28 to 33 (λ_v E=>(∃ n' k',E.heap[sb+1]?=Z3 (.map #[{ key:=bY D L G lost Z2,val:=Z7 (Z3 ⟨d.heap.size+1+1,0,Z4⟩),born:=k' }] n'))/\iC E sb (d.heap.size+1+1)/\dH E (d.heap.size+1+1) D L G lost Z2 z (.slice ao m c) (Z7 (Z3 ⟨sb,0,Z4⟩)) (Z7 (Z3 ⟨sb,0,Z4⟩))/\aa (λk=>k=sb\/k=sb+1) d.drew E)
  case first=>
   go_region_with (go_at_call 169;refine Z.out.2.2.2.2.1.mono ?_;rintro e x ⟨rfl,P,O,Q,R⟩;have H6:=hide4 P O Q R;clear P O Q R);all_goals (go_wp2_with fail;go_meet;case rel=>exact H6.out)
  case rest=>
   rename Z1=>x;clear F c1 I J K r0 r1 kj;obtain ⟨P,O,Q,R⟩:=hcut;obtain ⟨a,i,o,t,_,V,N,r⟩:=Z.out;have h:aa (λk=>k=sb\/k=sb+1) d x:=(aa.drew d).trans R;have km:=i.lt;have kk:=a.size;have ko:sb+1+1+1<w.heap.size:=kr.out;have kv:b.heap.size<d.heap.size:=(To.1 o).1;have kf:=kp.out;have U:=(h.block (w.heap.size+1) (by omega) (by omega)).trans a.res;have kh:=(h.block b.heap.size kv (by omega)).trans o;have A:x.ownsRow w3.heap.size 284 4 (.slice ao m c) (cK D L G s C).length (eH .u8 (cK D L G s C)):=fj t h (λk f q=>by have:=iy t f;omega);have S:Hl x sb (d.heap.size+1+1) room D L G lost s C ao m c:=⟨(h.block _ (by omega) (by omega)).trans i.list,(h.block _ (by omega) (by omega)).trans i.shelf,P,O,by rw [r];exact Q,by omega,jO A (by omega),V,N⟩;obtain ⟨q0,q1,g1,g0⟩:=aG U;obtain ⟨r0,r1,_,_⟩:=aG kh;have H6:=hide8 U S A h km kk ko kf;clear P O Q R a i o t h U kh S A V N r;go_wp2;obtain ⟨U,S,A,h,km,kk,ko,kf⟩:=H6.out;obtain ⟨n0,n1,_⟩:=aG (kU (y':=.slice ao m c) (kT (x':=Z8 Z9 z) U));have kg:aa (λk=>k=w.heap.size+1) x ((x.setCell ⟨w.heap.size+1,0,Z4⟩ (Z8 Z9 z)).setCell ⟨w.heap.size+1,1,Z4⟩ (.slice ao m c)):=eO x (w.heap.size+1) 0 1 _ _;refine bodyPost_ret (v:=.tuple #[.agg #[Z8 Z9 z,.slice ao m c],.nilIface]) (by simp [results,Tryz.results151,go_sem,n0,n1]) rfl ?_;obtain ⟨a,_,_,_,_,_,_,r⟩:=Z.out;have M:=(h.mono λ_ _ q=>(.inl q:_\/_)).trans (kg.mono λ_ _ q=>(.inr q:(_=sb\/_=sb+1)\/_));refine ⟨d.heap.size+1+1,s,C,ao,m,c,by unfold jx;rw [r],S.keep λk f=>kg.block k ((tD sb (d.heap.size+1+1) room D L G lost s C ao m c 0).lt _ S k f) (λq=>?_),by omega,λk f=>by have:=iy A f;omega,⟨M.os.trans a.below.os,M.tape.trans a.below.tape,M.output.trans a.below.output,Tm a.below.size M.size,λk f hn=>(M.block k (by have:=a.below.size;omega) (by omega)).trans (a.below.block k f)⟩⟩;rcases f with h1|h1|h1
   . omega
   . omega
   . have:=iy A h1;omega
omit hr hD1 hD hL hL4 hG hdiv h16 hl hT0 in
theorem Ko (u:Hl w sb nb room D L G lost s C ao m c):Calls ZZ 151 #[Z7 (Z3 ⟨sb+1+1+1,0,Z4⟩),bY D L G lost Z2] w λe w'=>jx D L G s ao m c e/\Hl w' sb nb room D L G lost s C ao m c/\aa (λk=>k=sb\/k=nb) w w':=by
 have b:=uK.new w D L G lost;obtain ⟨w2,hq⟩:=nM ((w.alloc (Z5 #[Z8 Z9 (D:Int),Z8 Z9 (L:Int),Z8 Z9 (G:Int),Z8 .u64 (lost:Int),.bool Z2] 228)).alloc (Z5 #[Z8 Z9 0,Z6 Z4 0 0] 210));rw [hq] at b;obtain ⟨Q,c1,R,S,T⟩:=b.cells;have g:∀ k,QF sb nb ao m c k->k<w.heap.size:=(tD sb nb room D L G lost s C ao m c 0).lt _ u;have A:=u.keep λk d=>b.below.block k (g k d);have hp:=A.cells;obtain ⟨z,i⟩:∃ z:Int,1+((ae (av (D+L+G) s)).length:Int)=z:=⟨_,rfl⟩;have K:∀ w',Z0 w2.heap.size w2 w'->Calls ZZ 167 #[Z7 (Z3 ⟨sb+1+1,0,Z4⟩),bY D L G lost Z2] w' λe j=>e=.returned (.tuple #[.agg #[Z8 Z9 z,.slice ao m c],.bool Z2])/\Hl j sb nb room D L G lost s C ao m c/\aa (λk=>k=sb\/k=nb) w' j:=λw' hb=>by
  have f:=A.keep λk d=>hb.block k (Tn (g k d) b.below.size);obtain ⟨n,q,O⟩:=f.map;refine (C8 f.list O f.ends f.node f.ne).mono ?_;rintro e j ⟨rfl,l,o,p⟩;have hi:=f.ne;have hj:=f.node.lt;exact ⟨by rw [i],⟨(p.block _ (by omega) (by omega)).trans f.list,(p.block _ (by omega) (by omega)).trans f.shelf,⟨n,q,(p.block _ (by omega) (by omega)).trans O⟩,l,o,hi,fj f.own p (λk d e=>by
   rcases e with rfl|rfl
   . have q:w'.heap[k]?=_:=f.ends;exact cP f.own q (by decide) d
   . have q:w'.heap[k]?=_:=f.node;exact cP f.own q (by decide) d),f.rds,f.told⟩,p⟩
 have E:Z0 w2.heap.size w2 (w2.alloc (Z5 #[Z8 Z9 0,Z6 Z4 0 0] 210)):=bA w2 _;obtain ⟨U,d1,V,W,X⟩:=(b.mono E).cells;have Y:=(A.keep λk d=>E.block k (Tn (g k d) b.below.size)).cells;have hx:=b.size;have hr:w.heap.size≠w2.heap.size:=by omega
 have hv:=u.ne;have hj:=u.node.lt;have H:=hide4 b g i K;clear b K E u A g;unfold bY at H ⊢;unfold jx;rw [i];clear i;go_enter Tryz.func151,Tryz.ntmps151;go_upto_region 1 with fail;go_cut [6,7] from 10 to 18 (λv6 v7 I=>v7=.bool Z2/\∃ y,v6=Z7 (Z3 ⟨y,0,Z4⟩)/\w2.heap.size<=y/\I.heap[y]?=Z3 (Z5 #[Z8 Z9 z,.slice ao m c] 210 (0,0))/\Hl I sb nb room D L G lost s C ao m c/\aa (λk=>k=sb\/k=nb) w2 I)
 case first=>
  go_region_with (go_at_call 167;refine (H.out.2.2.2 _ ?_).mono ?_;(first|exact (Below.refl _ _).drew|exact ((Below.refl _ _).drew).alloc lR _);rintro e w3 ⟨rfl,h,a⟩;(try (have F:w3.heap[w2.heap.size]?=Z3 (Z5 #[Z8 Z9 0,Z6 Z4 0 0] 210 (0,0)):=(a.block w2.heap.size (by simp) (by omega)).trans (blk_alloc_new w2.drew _);obtain ⟨r0,r1,g1,Z⟩:=aG F;have P:=hide F;clear F));have J:aa (λk=>k=sb\/k=nb) w2 w3:=(by first|exact (aa.drew w2).trans a|exact aa.after ((bA w2 _).drew) a);have B:=hide2 h J;clear h a J);all_goals (go_wp2_with fail;go_meet;case rel=>(
   obtain ⟨h,a⟩:=B.out;have g:=H.out.2.1;have hf:=a.size;first
    | (refine ⟨rfl,w2.heap.size,rfl,Nat.le_refl _,kU (y':=.slice ao m c) (kT (x':=Z8 Z9 z) P.out),h.keep λk d=>(eO w3 w2.heap.size 0 1 _ _).block k (by have:=g k d;omega) (by have:=g k d;omega),?_⟩
       have t:=eO w3 w2.heap.size 0 1 (Z8 Z9 z) (.slice ao m c);exact ⟨t.os.trans a.os,t.tape.trans a.tape,t.output.trans a.output,Tm a.size t.size,λk l o=>(t.block k (by omega) (by omega)).trans (a.block k l o)⟩)
    | exact ⟨rfl,w3.heap.size,rfl,hf,blk_alloc_new _ _,h.keep λk d=>blk_alloc_lt _ _ _ (by have:=g k d;omega),a.os,a.tape,a.output,by rw [World.size_alloc];omega,λk l o=>(blk_alloc_lt _ _ _ (by omega)).trans (a.block k l o)⟩))
 case rest=>
  clear Q c1 R S T U d1 V W X Y hp hr;rename Z1=>w3;obtain ⟨rfl,y,rfl,hs,N,h,a⟩:=hcut;obtain ⟨b,g,i,_⟩:=H.out;have x:=(a.block (w.heap.size+1) (by omega) (by omega)).trans b.res;obtain ⟨q0,q1,g1,Z⟩:=aG x;obtain ⟨r0,r1,_,_⟩:=aG N;have B:=hide3 x h a;clear x h a N b g i;go_wp2;obtain ⟨x,h,a⟩:=B.out;obtain ⟨b,g,i,_⟩:=H.out;obtain ⟨n0,n1,_⟩:=aG (kU (y':=.slice ao m c) (kT (x':=Z8 Z9 z) x));have M:aa (λk=>k=w.heap.size+1) w3 ((w3.setCell ⟨w.heap.size+1,0,Z4⟩ (Z8 Z9 z)).setCell ⟨w.heap.size+1,1,Z4⟩ (.slice ao m c)):=eO w3 (w.heap.size+1) 0 1 _ _;refine bodyPost_ret (v:=.tuple #[.agg #[Z8 Z9 z,.slice ao m c],.nilIface]) (by simp [results,Tryz.results151,go_sem,n0,n1]) rfl ?_;have r:=(a.mono λ_ _ q=>(.inl q:_\/_)).trans (M.mono λ_ _ q=>(.inr q:(_=sb\/_=nb)\/_));refine ⟨rfl,h.keep λk d=>M.block k (by have:=g k d;have:=a.size;omega) (by have:=g k d;omega),⟨r.os.trans b.below.os,r.tape.trans b.below.tape,r.output.trans b.below.output,Tm b.below.size r.size,λk d hn=>(r.block k (by have:=b.below.size;omega) (by omega)).trans (b.below.block k d)⟩⟩
end
structure yU (D L G:Nat) (Kind:dD->Prop) (ok:Nat->Prop):Prop where
 ho:∀ ps x,Kind ps->Kind { ps with ho:=x }
 rd:∀ (ps:dD),Kind ps->∀ (w:Z1),ps.S w->aJ w->3<=w.heap.size->(∀ k,ps.bl k->3<=k)->∀ lost,ok lost ->
  Calls ZZ 144 #[Z7 (Z3 ⟨ps.ps,0,Z4⟩),.agg #[Z8 Z9 D,Z8 Z9 L,Z8 Z9 G],Z8 .u64 lost] w λe w'=>∃ (ps':dD) (s:Nat) (C:Ck) (ao:Option Addr) (m c:Nat),jx D L G s ao m c e/\Kind ps'/\ps'.ps=ps.ps/\ps'.ho=ps.ho/\ps'.S w'/\(∀ k,ps'.bl k->ps.bl k\/w.heap.size<=k)/\(∀ k,(Value.slice ao m c).ownBlock=Z3 k->ps.bl k\/w.heap.size<=k)/\w'.ownsRow 0 284 4 (.slice ao m c) (cK D L G s C).length (eH .u8 (cK D L G s C))/\OY D L G lost s/\tells (fE D L G) (ae (av (D+L+G) s))=Z3 C/\aa ps.bl w w'
def tE (sb:Nat) (room:Int) (D L G lost:Nat) (ps:dD):Prop:=(∃ ho,ps=tC sb room ho)\/∃ nb s C ao m c ho,ps=tD sb nb room D L G lost s C ao m c ho
section
variable (D L G lost:Nat) (hr:cn D L G=Z2) (hD1:1<=D) (hD:D<=12) (hL:1<=L) (hL4:L<=4) (hG:G<=4) (hdiv:D%L=0) (h16:D+L+G<=16) (hl:lost<2^(D+L+G)) (hT0:∃ C,tells (fE D L G) (ae lost)=Z3 C)
include hr hD1 hD hL hL4 hG hdiv h16 hl hT0
theorem Kp (j:1<=room) {ps:dD} (hK:tE sb room D L G lost ps) (i:ps.S w) (n:aJ w) (a:3<=w.heap.size):Calls ZZ 151 #[Z7 (Z3 ⟨ps.ps,0,Z4⟩),bY D L G lost Z2] w λe w'=>∃ (b:dD) (s:Nat) (C:Ck) (ao:Option Addr) (m c:Nat),jx D L G s ao m c e/\tE sb room D L G lost b/\b.ps=ps.ps/\b.ho=ps.ho/\b.S w'/\(∀ k,b.bl k->ps.bl k\/w.heap.size<=k)/\(∀ k,(Value.slice ao m c).ownBlock=Z3 k->ps.bl k\/w.heap.size<=k)/\w'.ownsRow 0 284 4 (.slice ao m c) (cK D L G s C).length (eH .u8 (cK D L G s C))/\OY D L G lost s/\tells (fE D L G) (ae (av (D+L+G) s))=Z3 C/\aa ps.bl w w':=by
 rcases hK with ⟨ho,rfl⟩|⟨nb,s,C,ao,m,c,ho,rfl⟩
 . refine (Km D L G lost hr hD1 hD hL hL4 hG hdiv h16 hl hT0 j i n a).mono ?_;rintro e w' ⟨nb,s,C,ao,m,c,f,a,l,h,g⟩;refine ⟨tD sb nb room D L G lost s C ao m c ho,s,C,ao,m,c,f,.inr ⟨nb,s,C,ao,m,c,ho,rfl⟩,rfl,rfl,a,λk d=>?_,λk d=>.inr (h k d),a.own,a.rds,a.told,g.mono λk _ q=>?_⟩
   . rcases d with q|rfl|q
     . exact .inl q
     . exact .inr l
     . exact .inr (h k q)
   . show sb<=k/\k<=sb+1+1+1;omega
 . refine (Ko D L G lost i).mono ?_;rintro e w' ⟨f,a,g⟩;refine ⟨tD sb nb room D L G lost s C ao m c ho,s,C,ao,m,c,f,.inr ⟨nb,s,C,ao,m,c,ho,rfl⟩,rfl,rfl,a,λk d=>.inl d,λk d=>.inl (.inr (.inr d)),a.own,a.rds,a.told,g.mono λk _ q=>?_⟩;rcases q with rfl|rfl
   . exact .inl ⟨by omega,by omega⟩
   . exact .inr (.inl rfl)
theorem Gz (S:1<=room):yU D L G (tE sb room D L G lost) (λl=>l=lost):=by
 refine ⟨λps x hK=>?_,λps hK w E K f Z l T=>?_⟩
 . rcases hK with ⟨ho,rfl⟩|⟨nb,s,C,ao,m,c,ho,rfl⟩
   . exact .inl ⟨x,rfl⟩
   . exact .inr ⟨nb,s,C,ao,m,c,x,rfl⟩
 subst T;have a:=CI.new w D L G;have r:((w.alloc (Z5 #[Z8 Z9 (D:Int),Z8 Z9 (L:Int),Z8 Z9 (G:Int)] 25)).alloc (Z5 #[Z8 Z9 0,Z6 Z4 0 0] 210)).heap.size=w.heap.size+2:=by simp
 obtain ⟨w2,N⟩:=nM ((w.alloc (Z5 #[Z8 Z9 (D:Int),Z8 Z9 (L:Int),Z8 Z9 (G:Int)] 25)).alloc (Z5 #[Z8 Z9 0,Z6 Z4 0 0] 210));rw [N] at a r;obtain ⟨Q,c1,R⟩:=fa a.par;have J:=Kp D L G l hr hD1 hD hL hL4 hG hdiv h16 hl hT0 S hK (ps.keep _ _ E λk b=>a.below.block k (ps.lt _ E k b)) (K.mono (by omega) a.below) (Tm f a.below.size);unfold bY at J;have H:=hide4 a r J (ps.lt _ E);clear a r J E K;go_enter Tryz.func144,Tryz.ntmps144;go_wp2_with fail;refine H.out.2.2.1.mono ?_;rintro e w3 ⟨d,s,C,ao,m,c,M,t,f,u,h,i,j,y,A,B,n⟩;unfold jx at M;subst M;obtain ⟨z,p⟩:∃ z:Int,1+((ae (av (D+L+G) s)).length:Int)=z:=⟨_,rfl⟩;rw [p];obtain ⟨a,r,_,F⟩:=H.out;have o:=(n.block (w.heap.size+1) (by omega) (λq=>by have:=F _ q;omega)).trans a.res;obtain ⟨r0,r1,Y,X⟩:=aG o;have P:=hide12 t f u h i j y A B n o p;clear t f u h i j y A B n o Q c1 R N p a;go_wp2;obtain ⟨t,f,u,h,i,j,y,A,B,n,o,p⟩:=P.out;obtain ⟨a,r,_,F⟩:=H.out;obtain ⟨n0,W,_⟩:=aG (kU (y':=.slice ao m c) (kT (x':=Z8 Z9 z) o));have I:aa (λk=>k=w.heap.size+1) w3 ((w3.setCell ⟨w.heap.size+1,0,Z4⟩ (Z8 Z9 z)).setCell ⟨w.heap.size+1,1,Z4⟩ (.slice ao m c)):=eO w3 (w.heap.size+1) 0 1 _ _;have V:∀ k,d.bl k->k≠w.heap.size+1:=λk b=>by rcases i k b with q|q;have:=F k q;omega;omega
 refine bodyPost_ret (v:=.tuple #[.agg #[Z8 Z9 z,.slice ao m c],.nilIface]) (by simp [results,Tryz.results144,go_sem,n0,W]) rfl ?_;have g:=(n.mono λ_ _ q=>(.inl q:_\/_)).trans (I.mono λk _ q=>(.inr q:ps.bl k\/_));refine ⟨d,s,C,ao,m,c,by unfold jx;rw [p],t,f,u,d.keep _ _ h λk b=>I.block k (d.lt _ h k b) (V k b),λk b=>?_,λk b=>?_,fj y I λk b q=>?_,A,B,⟨g.os.trans a.below.os,g.tape.trans a.below.tape,g.output.trans a.below.output,Tm a.below.size g.size,λk b U=>(g.block k (by have:=a.below.size;omega) (λq=>q.elim U (by omega))).trans (a.below.block k b)⟩⟩
 . rcases i k b with q|q
   . exact .inl q
   . exact .inr (by omega)
 . rcases j k b with q|q
   . exact .inl q
   . exact .inr (by omega)
 . rcases j k b with O|O
   . have:=F k O;omega
   . omega
end
end
end Go.Proofs.YtfbmmcnpjhmjaaaGreatDoor
