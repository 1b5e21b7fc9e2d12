import Derived.Test.YtfbmmcnpjhmjaaaGreatDoorM50
import Derived.Test.YtfbmmcnpjhmjaaaGreatDoorM51
set_option maxRecDepth 100000
set_option maxHeartbeats 8000000
open Go.Value renaming pointer -> Z9, slice -> Z8, string -> Z6
open Go.Obj renaming cells -> Z7
open Option renaming none -> Z5, some -> Z4
open Go renaming World -> Z3, Value -> Z2, Boxed -> Z0
open Go.RowKit renaming Below -> Z1
open Nat renaming le_trans -> Tm, lt_of_lt_of_le -> To, zero_le -> Tp
open Array renaming getElem?_eq_some_iff -> Tn
open List renaming getElem?_eq_getElem -> Tq, getElem_of_mem -> Ts, mem_cons -> Tt, length_cons -> Tu, map_cons -> Tv, sum_cons -> Tw, length_map -> Tx, getElem_mem -> Ty
open Option.some renaming injEq -> Tr
open Go.Proofs.Tryz renaming prog -> ZZ
namespace Go.Proofs.YtfbmmcnpjhmjaaaGreatDoor
open Go.RowKit Go.Deep Gf
variable {A:aB} {x:ByteArray} {F:bx} {ps:dD} {Kind:dD->Prop} {Q:List (ByteArray×Z2)} {P l:List Nat} {base D n ar v p L G t q1 q2 sa f B B':Nat} {ok:Nat->Prop} {xs:bg} {T:TypeId} {u r pg ob:Z2} {w w' b c a:Z3}
def qS (xs:bg) (x:ByteArray) (base:Nat) (u r:Z2) (w:Z3):Prop:=
 (r=qQ 6/\u=Z8 Z5 0 0/\bB x=false)\/(r=qQ 9/\u=Z8 Z5 0 0/\bB x=true/\x∉xs.names) \/
 (r=.nilIface/\bB x=true/\∃ k0,∃ hk:k0<xs.length,xs[k0].1.name=x/\w.ownsRow base 5 1 u xs[k0].2.length (aH xs[k0].2))
theorem qS.noCut (h:qS xs x base u r w):noCut r:=by
 rcases h with ⟨rfl,_⟩|⟨rfl,_⟩|⟨rfl,_⟩
 . exact .inr ⟨6,by decide,rfl⟩
 . exact .inr ⟨9,by decide,rfl⟩
 . exact .inl rfl
theorem qS.isSlice (h:qS xs x base u r w):∃ a n c,u=.slice a n c:=by
 rcases h with ⟨_,rfl,_⟩|⟨_,rfl,_⟩|⟨_,_,d,b,_,ho⟩
 . exact ⟨_,_,_,rfl⟩
 . exact ⟨_,_,_,rfl⟩
 . obtain ⟨f,g,e⟩:=fh ho;exact ⟨_,_,_,e⟩
theorem qS.keep {base':Nat} (h:qS xs x base u r w) (l:base'<=base) (m:∀ (j:Nat) (cs:Array Z2),w.heap[j]?=Z4 (Z7 cs 5 (0,0))->w'.heap[j]?=w.heap[j]?):qS xs x base' u r w':=by
 rcases h with h|h|⟨e,f,n,k,i,ho⟩
 . exact .inl h
 . exact .inr (.inl h)
 . refine .inr (.inr ⟨e,f,n,k,i,ho.1,?_⟩);rcases ho.2 with d|⟨g,cap,cur,b,c,a,o⟩
   . exact .inl d
   . exact .inr ⟨g,cap,cur,b,Tm l c,(m _ _ a).trans a,o⟩
def tY (D:Nat) (xs:bg) (x:ByteArray):Nat:=match xs.find? (λo=>decide (o.1.name=x)) with
 | some o=>iM D o.2.length
 | none=>0
def OO (w:Z3) (ar v p:Nat) (Kind:dD->Prop) (ok:Nat->Prop) (ps:dD) (D L G t:Nat) (pg ob:Z2) (P:List Nat) (xs:bg) (A:aB) (F:bx) (x:ByteArray) (rs:Nat->Int) (ps':dD) (w':Z3):Prop:=bf w' ar v p ps' D L G t pg ob P xs (A.rd rs) F/\DV D L G Kind ok ps' (A.rd rs)/\BN A rs (tY D xs x) D/\ps'.ps=ps.ps/\(∀ k,ps'.bl k->ps.bl k\/w.heap.size<=k)
theorem BN.weak {rs:Nat->Int} {k k':Nat} (h:BN A rs k D) (b:k<=k'):BN A rs k' D:=λd=>by
 obtain ⟨c,a,e⟩:=h d;exact ⟨c,λi=>⟨(a i).1,Tm (a i).2 b⟩,Tm e (Nat.mul_le_mul_right _ b)⟩
theorem EL (h:Up xs.names) {k0:Nat} (d:k0<xs.length):tY D xs xs[k0].1.name=iM D xs[k0].2.length:=by
 have i:xs.names.length=xs.length:=by rw [<- eu,bP];simp [bg.os]
 have e:xs.find? (λo=>decide (o.1.name=xs[k0].1.name))=Z4 xs[k0]:=by
  rw [List.find?_eq_some_iff_getElem];refine ⟨decide_eq_true rfl,k0,d,rfl,λj g=>?_⟩;have a:=List.pairwise_iff_getElem.1 h j k0 (by omega) (by omega) g;have f:xs[j].1.name≠xs[k0].1.name:=λq=>by
   have b:xs.names[j]'(by omega)=xs[j].1.name:=(by simp [bg.names,aZ,bg.os]);have c:xs.names[k0]'(by omega)=xs[k0].1.name:=(by simp [bg.names,aZ,bg.os]);rw [b,c,q,kF] at a;cases a
  simp [f]
 unfold tY;rw [e]
theorem BE {b c:Nat} {ao:Option Addr} (d:Z0 w b 34 (.slice ao n c)):tR w b:=λoff u h=>by
 have a:w.heap[b]?=Z4 (Z7 #[.slice ao n c] 34 (0,0)):=d;cases off with
 | zero=>simp [World.cell?,a] at h;subst h;exact ⟨λ_=>nofun,λ_=>nofun⟩
 | succ n=>simp [World.cell?,a] at h
theorem Mz (h:bf w ar v p ps D L G t pg ob P xs A F) (i:DV D L G Kind ok ps A) (x:ByteArray) :
 Calls ZZ 48 #[Z9 (Z4 ⟨ar,0,Z5⟩),Z6 x] w λe w'=>∃ u r rs a,e=.returned (.tuple #[u,r])/\OO w ar v p Kind ok ps D L G t pg ob P xs A F x rs a w'/\aa (λj=>F.has p A.n j\/j=v\/ps.bl j) w w'/\qS xs x w.heap.size u r w':=by
 cases hx:bB x with
 | false=>
  refine (KP h x hx).mono ?_;rintro e w' ⟨rfl,b⟩;exact ⟨_,_,A.reads,ps,rfl,⟨h.below b,i,(BN.zero A D).weak (Tp _),rfl,λ_ q=>.inl q⟩,aa.of_all b _,.inl ⟨rfl,rfl,hx⟩⟩
 | true=>
  by_cases f:x∈xs.names
  . obtain ⟨c,d,g⟩:∃ c,∃ d:c<xs.length,xs[c].1.name=x:=by
     obtain ⟨k,B,e⟩:=Ts f;have l:xs.names.length=xs.length:=(by rw [<- eu,bP];simp [bg.os]);refine ⟨k,by omega,?_⟩;simpa [bg.names,aZ,bg.os] using e
    refine (ON h i x hx c d g).mono ?_;rintro e w' ⟨u,rs,a,rfl,ho,l,y,s,o,m,z⟩;exact ⟨u,_,rs,a,rfl,⟨l,y,by rw [<- g,EL h.disk.up d];exact s,o,m⟩,z,.inr (.inr ⟨rfl,hx,c,d,g,ho⟩)⟩
  . refine (BD h x hx f).mono ?_;rintro e w' ⟨rfl,b⟩;exact ⟨_,_,A.reads,ps,rfl,⟨h.below b,i,(BN.zero A D).weak (Tp _),rfl,λ_ q=>.inl q⟩,aa.of_all b _,.inr (.inl ⟨rfl,rfl,hx,f⟩)⟩
def DW (w:Z3) (ar v p:Nat) (Kind:dD->Prop) (ok:Nat->Prop) (ps:dD) (D L G t:Nat) (xs:bg) (A:aB) (F:bx) (x:ByteArray) (e:Ending) (w':Z3):Prop:=
 ∃ u r rs ps' pg ob P,e=.returned (.tuple #[u,r])/\OO w ar v p Kind ok ps D L G t pg ob P xs A F x rs ps' w'/\aa (λj=>j=ar\/F.has p A.n j\/j=v\/ps.bl j) w w'/\qS xs x w.heap.size u r w'
theorem KR {w1:Z3} {q3:Nat} (h:bf w ar v p ps D L G t pg ob P xs A F) (W:DV D L G Kind ok ps A) (x:ByteArray) (d:Z1 w.heap.size w w1) (z:Z0 w1 q1 90 (Z9 (Z4 ⟨ar,0,Z5⟩))) (C:Z0 w1 q2 9 (Z6 x)) (f:Z0 w1 q3 34 (Z8 Z5 0 0)) (V:w.heap.size<=q3) :
 Calls ZZ 47 #[Z9 (Z4 ⟨q1,0,Z5⟩),Z9 (Z4 ⟨q2,0,Z5⟩),Z9 (Z4 ⟨q3,0,Z5⟩)] w1 λe w2=>∃ u r rs i,e=.returned r/\OO w ar v p Kind ok ps D L G t pg ob P xs A F x rs i w2/\aa (λj=>F.has p A.n j\/j=v\/ps.bl j\/j=q3) w1 w2/\qS xs x w.heap.size u r w2/\Z0 w2 q3 34 u:=by
 have M:=z.cell;have N:=C.cell;have I:=Mz (h.below d) W x;have g:∀ j,F.has p A.n j->j<w.heap.size:=λj a=>h.vol.arr.has_lt a;have H:=hide4 h f g d;clear h z C f g d;go_enter Tryz.func47,Tryz.ntmps47;go_wp2_with fail;refine I.mono ?_;rintro e w2 ⟨u,r,rs,i,rfl,E,l,m⟩;obtain ⟨h,f,g,d⟩:=H.out;have b:Z0 w2 q3 34 (Z8 Z5 0 0):=(l.block _ f.lt (λe=>by
  rcases e with e|e|e
  . have:=g _ e;omega
  . have:=h.vol.vol.lt;omega
  . have:=ps.lt _ h.kit _ e;omega)).trans f
 have X:=b.cell;have Y:=b.frozen;obtain ⟨o,n,c,rfl⟩:=m.isSlice;have K:=hide4 E l m b;clear E l m b I M N h f g d;go_wp2;go_ret;obtain ⟨⟨J,R,S,T,U⟩,l,m,b⟩:=K.out;obtain ⟨h,f,g,d⟩:=H.out;have O:Z0 (w2.setCell ⟨q3,0,Z5⟩ (.slice o n c)) q3 34 (.slice o n c):=b.set _;have s:∀ j,j≠q3->(w2.setCell ⟨q3,0,Z5⟩ (.slice o n c)).heap[j]?=w2.heap[j]?:=λj a=>blk_setCell_other _ _ _ _ a;have Q:tR w2 q3:=BE b;refine ⟨_,r,rs,i,rfl,⟨J.aside (B:=w.heap.size) Q (eG J.kit b tX) (by simp [World.setCell]) (λk y _=>s k y) V (by exact g) h.vol.vol.lt h.arc.lt h.vol.room,R,S,T,λk y=>(U k y).imp id λq=>Tm d.size q⟩,?_,m.keep d.size (λj cs a=>s j (λe=>by subst e;rw [b] at a;cases a)),O⟩;exact (l.mono λj _ a=>by
  rcases a with q|q|q
  . exact .inl q
  . exact .inr (.inl q)
  . exact .inr (.inr (.inl q))).trans ⟨rfl,rfl,rfl,by simp [World.setCell],λj _ a=>s j (λe=>a (.inr (.inr (.inr e))))⟩
theorem QR (h:bf w ar v p ps D L G t pg ob P xs A F) (hv:DV D L G Kind ok ps A) (x:ByteArray) :
 Calls ZZ 35 #[Z9 (Z4 ⟨ar,0,Z5⟩),Z6 x] w (DW w ar v p Kind ok ps D L G t xs A F x):=by
 have hr:∀ (T:Fn) (first cap:Array Z2) (w:Z3),(Instr.makeFunc T first cap).run ZZ w=.ok (.func T first cap) w:=λ_ _ _ _=>rfl;have hn:∀ (args:Array Z2) (w:Z3),(callFunc 47 args).run ZZ w=.ok (.enter 47 args) w:=enters_of Tryz.func47 (by kernel_rfl) rfl;obtain ⟨N,M⟩:=nM (((w.alloc (Z7 #[Z9 (Z4 ⟨ar,0,Z5⟩)] 90)).alloc (Z7 #[Z6 x] 9)).alloc (Z7 #[Z8 Z5 0 0] 34));have i:Z0 N w.heap.size 90 (Z9 (Z4 ⟨ar,0,Z5⟩)):=by rw [<- M];exact ((Boxed.new w _ _).alloc _).alloc _
 have l:Z0 N (w.heap.size+1) 9 (Z6 x):=by
  have:=(Boxed.new (w.alloc (Z7 #[Z9 (Z4 ⟨ar,0,Z5⟩)] 90)) 9 (Z6 x)).alloc (Z7 #[Z8 Z5 0 0] 34);rw [World.size_alloc] at this;rw [<- M];exact this
 have y:Z0 N (w.heap.size+2) 34 (Z8 Z5 0 0):=by
  have:=Boxed.new ((w.alloc (Z7 #[Z9 (Z4 ⟨ar,0,Z5⟩)] 90)).alloc (Z7 #[Z6 x] 9)) 34 (Z8 Z5 0 0);simp only [World.size_alloc] at this;rw [<- M];exact this
 have f:Z1 w.heap.size w N:=by rw [<- M];exact ((bA w _).alloc (by simp) _).alloc (by simp;omega) _
 have W:=h.below f;have hx:=y.lt;have Y:=DJ W 47 #[] #[Z9 (Z4 ⟨w.heap.size,0,Z5⟩),Z9 (Z4 ⟨w.heap.size+1,0,Z5⟩),Z9 (Z4 ⟨w.heap.size+2,0,Z5⟩)] hn
  (λr S g B a w2=>∃ u rs,qS xs x w.heap.size u r w2/\Z0 w2 (w.heap.size+2) 34 u/\(DV D L G Kind ok a (A.rd rs)/\BN A rs (tY D xs x) D/\a.ps=ps.ps/\∀ k,a.bl k->ps.bl k\/w.heap.size<=k)/\S=t/\g=xs/\B=A.rd rs) (λj=>j=w.heap.size+2\/j=v\/ps.bl j) (λj e=>by
   rcases e with e|e|e
   . omega
   . have:=h.vol.vol.lt;have:=f.size;omega
   . have:=ps.lt _ h.kit _ e;have:=f.size;omega)
  (λr S g B a w2 w' U=>by
   rintro ⟨u,rs,J,I,hE⟩;have X:∀ j,w2.heap[j]?≠Z4 (Obj.cells #[Value.nilIface] 63 (0,0))->w'.heap[j]?=w2.heap[j]?:=λj d=>U.2.2 j (λe=>by subst e;exact d U.1);refine ⟨u,rs,J.keep lR (λj cs d=>X j (by rw [d];simp)),(X _ (by rw [I];simp)).trans I,hE⟩)
  (λw1 E hs=>(KR h hv x (f.trans (E.mono f.size)) ((E.block _ i.lt).trans i) ((E.block _ l.lt).trans l) ((E.block _ y.lt).trans y) (by omega)).mono (by
   rintro e w2 ⟨u,r,rs,a,rfl,⟨hl,hG⟩,hO,J,I⟩;exact ⟨r,t,pg,ob,P,xs,A.rd rs,a,rfl,J.noCut,hl,rfl,⟨rfl,rfl⟩,hO.mono λj _ d=>by
    rcases d with q|q|q|q
    . exact .inr (.inl q)
    . exact .inr (.inr (.inr (.inl q)))
    . exact .inr (.inr (.inr (.inr q)))
    . exact .inr (.inr (.inl q)),u,rs,J,I,hG,rfl,rfl,rfl⟩))
 have c1:=i.cell;have H:=hide3 Y f h;clear Y f i l y h W;go_enter Tryz.func35,Tryz.ntmps35;go_wp2_with fail;refine H.out.1.mono ?_;rintro e o ⟨r,S,R,Q,P',g,B,a,rfl,hq,K,hp,he,C,u,rs,m,V,z,rfl,rfl,rfl⟩;have b:Z0 o (w.heap.size+1+1) 34 u:=V;have y0:=b.cell;have y1:=b.frozen;obtain ⟨s,n,c,rfl⟩:=m.isSlice;have Z:=hide5 C m b K z;clear z K C m V b hq hp he;go_wp2;obtain ⟨C,m,b,K,z⟩:=Z.out;have c3:=(b.set (.slice s n c)).cell;refine bodyPost_ret (v:=.tuple #[.slice s n c,r]) (by simp [results,Tryz.results35,go_sem,c3]) rfl ?_;have O:Z1 o.heap.size o (o.setCell ⟨w.heap.size+1+1,0,Z5⟩ (.slice s n c)):=⟨rfl,rfl,rfl,by simp [World.setCell],λj d=>by
  by_cases e:j=w.heap.size+1+1
  . subst e;exact (b.set (.slice s n c)).trans b.symm
  . exact blk_setCell_other _ _ _ _ e⟩
 refine ⟨_,r,rs,a,R,Q,P',rfl,⟨K.below O,z⟩,?_,m.keep lR (λj cs d=>O.block j (Tn.1 d).1)⟩;have hm:aa (λj=>j=ar\/F.has p A.n j\/j=v\/ps.bl j) w o:=(aa.of_all H.out.2.1 (λj=>j=ar\/F.has p A.n j\/j=v\/ps.bl j)).later C (λj i l=>by
  rcases l with q|q|q|q|q
  . exact .inl q
  . exact .inr (.inl q)
  . omega
  . exact .inr (.inr (.inl q))
  . exact .inr (.inr (.inr q)))
 exact hm.trans (aa.of_all O _)
theorem QS (g:Z0 w sa 92 (Z9 (Z4 ⟨ar,0,Z5⟩))) (h:bf w ar v p ps D L G t pg ob P xs A F) (i:DV D L G Kind ok ps A) (x:ByteArray) :
 Calls ZZ 17 #[Z9 (Z4 ⟨sa,0,Z5⟩),Z6 x] w (DW w ar v p Kind ok ps D L G t xs A F x):=by
 have cs:=g.cell;have f:=QR h i x;clear g h i;go_enter Tryz.func17,Tryz.ntmps17;go_wp2_with fail;refine f.mono ?_;rintro e l ⟨u,r,rs,c,b,a,k,rfl,d⟩;have j:=hide d;clear d f;go_wp2;go_ret2;exact ⟨u,r,rs,c,b,a,k,rfl,j.out⟩
def QT (o:Ob):List Z2:=[Z6 o.name,.int .i64 (o.size:Nat)]
def lS (os:List Ob):List Z2:=os.flatMap QT
theorem G4 (os:List Ob) (k:Nat) (a:k<os.length):lS (os.take (k+1))=lS (os.take k)++QT os[k]:=by
 unfold lS;rw [List.take_add_one,Tq a,List.flatMap_append];simp
theorem Tryz.infoEntry:(ZZ.info? 78).map (λi=>(i.zero,i.size,i.bytes))=Z4 (Z4 (.agg #[Z6 ByteArray.empty,.int .i64 0]),2,24):=by kernel_rfl
def Sb (w:Z3) (q:Nat) (os:List Ob) (i:Z2) (wr:Z3):Prop:=∃ k:Nat,k<=os.length/\i=.int .i64 (k:Nat)/\∃ u,Z0 wr q 74 u/\wr.ownsRow w.heap.size 78 2 u k (lS (os.take k))/\aa (λj=>j=q) w wr
theorem G5 {os:List Ob} {K:Nat->Prop} (Q:Z0 w q1 90 (Z9 (Z4 ⟨ar,0,Z5⟩))) (z:Z0 w q2 74 (Z8 Z5 0 0)) (T:bJ w ar v D L G t f n pg ob false) (B:gz K w ob os) (hK:∀ k,K k->k≠q2) (kg:os.length<=10000) :
 Calls ZZ 55 #[Z9 (Z4 ⟨q1,0,Z5⟩),Z9 (Z4 ⟨q2,0,Z5⟩)] w λe w'=>e=.returned .nilIface/\∃ u,Z0 w' q2 74 u/\w'.ownsRow w.heap.size 78 2 u os.length (lS os)/\aa (λj=>j=q2) w w':=by
 obtain ⟨_,_,_,_,P⟩:=T.cells;have g1:=Q.cell;obtain ⟨ie,k6,hf,hg,hh⟩:=info_parts Tryz.infoEntry;obtain ⟨oo,oc,rfl,hol,_⟩:=id B;obtain ⟨s,Z⟩:=nM (os.length);rw [Z] at P;have H:=hide3 z B Z;have kb:=z.lt;have ke:s<=10000:=by omega
 clear Q z T B hol;go_enter Tryz.func55,Tryz.ntmps55;go_wp2;go_loopw [10] (λi wr=>Sb w q2 os i wr) (λi _=>s-(intOf i).toNat)
 case atStart=>exact ⟨0,Tp _,rfl,_,H.out.1,World.ownsRow_nil _ _ _ _,aa.refl _ _⟩
 case round=>
  clear P g1;obtain ⟨k,hk,rfl,u,o,ho,a⟩:=hrel;by_cases E:k<os.length
  . have W:eM K w wr:=⟨a.size,λj g k5=>a.block j g (λe=>hK j k5 e)⟩;obtain ⟨b,off,sv,rfl,hb,_,r1,r2,r3,r4⟩:=(H.out.2.1.keep W).at' (k:=k) E;obtain ⟨sa,sc,rfl,_⟩:=id r4;obtain ⟨nm,F⟩:=nM (os[k].name);obtain ⟨c,J⟩:∃ c:Int,((os[k].size:Nat):Int)=c:=⟨_,rfl⟩;obtain ⟨sl,k0⟩:=nM (os[k].stripes.length);have y:lS (os.take (k+1))=lS (os.take k)++[Z6 nm,.int .i64 c]:=(by rw [G4 os k E];unfold QT;rw [F,J]);rw [F] at r1;rw [J] at r2;rw [k0] at r3;have k9:k<s:=(by rw [<- H.out.2.2];exact E);have ka:(k:Int)<(s:Int):=(by omega);obtain ⟨h,M⟩:=nM (wr.alloc (Z7 #[Z6 nm,.int .i64 c,.slice sa sl sc] 123));have C:aw h wr.heap.size 123 [Z6 nm,.int .i64 c,.slice sa sl sc]:=(by rw [<- M];exact heap_alloc_last wr _);have r:Z1 wr.heap.size wr h:=(by rw [<- M];exact bA wr _);have kc:h.heap.size=wr.heap.size+1:=(by rw [<- M];simp);have x0:=C.cell (j:=0) (u:=Z6 nm) rfl;have x1:=C.cell (j:=1) (u:=.int .i64 c) rfl;have U:Z0 h q2 74 u:=(r.block _ o.lt).trans o;have xq:=U.cell;have X:aw (h.alloc (Z7 #[Z6 nm,.int .i64 c] 78)) h.heap.size 78 [Z6 nm,.int .i64 c]:=heap_alloc_last h _;have l:Z1 wr.heap.size wr (h.alloc (Z7 #[Z6 nm,.int .i64 c] 78)):=r.alloc (by omega) _;have A:Src ZZ 2 74 (Z8 (Z4 ⟨h.heap.size,0,Z5⟩) 1 1) 1 [Z6 nm,.int .i64 c] (h.alloc (Z7 #[Z6 nm,.int .i64 c] 78)):=
     Src.ofSlice _ Tryz.underlying74 ⟨h.heap.size,0,Z5⟩ 1 1 [Z6 nm,.int .i64 c] rfl (λj u g=>by rw [Addr.add_mid,Nat.zero_add];exact X.cell g) (λu V=>by
      simp only [Tt,List.not_mem_nil,or_false] at V;rcases V with rfl|rfl<;>rfl)
    have I:(h.alloc (Z7 #[Z6 nm,.int .i64 c] 78)).ownsRow w.heap.size 78 2 u k (lS (os.take k)):=aA ho l;have d:=hide8 o ho a A I l y r;have kf:IntKind.i64.wrap ((k:Int)+1)=(k:Int)+1:=(by rw [IntKind.wrap_i64];omega);clear o ho a A I l y r C X U W r4 F J k0 hb kc;go_wp2_with (at_builtin;refine af _ rfl (.tmp 14) (.tmp 20) 74 74 rfl w.heap.size 78 ie _ 2 24 Tryz.underlying74 k6 hf hg hh rfl u k (lS (os.take k)) (by rfl) (by exact d.out.2.2.2.2.1) _ (by rfl) 1 [Z6 nm,.int .i64 c] (by exact d.out.2.2.2.1) (by unfold maxLen;omega) (by omega) (by exact Tm d.out.2.2.1.size d.out.2.2.2.2.2.1.size) ?_;intro v7 x q m he;have p:Z0 x q2 74 u:=(m.block _ (To d.out.1.lt d.out.2.2.2.2.2.1.size) (λe=>cP d.out.2.1 d.out.1 (by decide) e.symm)).trans ((d.out.2.2.2.2.2.1.block _ d.out.1.lt).trans d.out.1);have z0:=p.cell;have z1:=p.frozen;obtain ⟨N,O,rfl⟩:=fh q;have H7:=hide3 q m p;clear q m he p);obtain ⟨o,ho,a,A,I,l,y,r⟩:=d.out;obtain ⟨q,m,p⟩:=H7.out;have hp:Z0 (x.setCell ⟨q2,0,Z5⟩ (.slice N (k+1) O)) q2 74 (.slice N (k+1) O):=p.set _;have R:∀ j,j≠q2->(x.setCell ⟨q2,0,Z5⟩ (.slice N (k+1) O)).heap[j]?=x.heap[j]?:=λj g=>blk_setCell_other _ _ _ _ g;have ki:=m.size;have kh:=l.size;refine ⟨⟨k+1,by omega,by go_num,_,hp,?_,?_⟩,?_⟩
    . rw [y];exact fj q (S:=λj=>j=q2) ⟨rfl,rfl,rfl,by simp [World.setCell],λj _ g=>R j g⟩ λj g e=>cP q (e▸p:x.heap[j]?=_) (by decide) g
    . refine ⟨m.os.trans (l.os.trans a.os),m.tape.trans (l.tape.trans a.tape),m.output.trans (l.output.trans a.output),by have:=a.size;simp [World.setCell];omega,λj g Y=>?_⟩;have k7:j<wr.heap.size:=To g a.size;exact (R j Y).trans ((m.block j (by omega) (λe=>by have:=iy ho e.symm;omega)).trans ((l.block j k7).trans (a.block j g Y)))
    . simp only [intOf];omega
  . have k8:k=s:=(by have:=H.out.2.2;omega);subst k8;have HF:=hide3 o ho a;clear o ho a;go_wp2;go_ret;obtain ⟨o,ho,a⟩:=HF.out;refine ⟨rfl,u,o,?_,a⟩;rw [List.take_of_length_le (by have:=H.out.2.2;omega),<- H.out.2.2] at ho;exact ho
def KS (w:Z3) (xs:bg) (e:Ending) (w':Z3):Prop:=∃ u,e=.returned (.tuple #[u,.nilIface])/\Z1 w.heap.size w w'/\w'.ownsRow w.heap.size 78 2 u xs.os.length (lS xs.os)
theorem G6 {b:Nat} {l:List Z2} (h:w.ownsRow base 78 2 u n l) (i:w.heap[b]?=Z4 (Z7 #[.nilIface] 63 (0,0))) (k:∀ j,j≠b->w'.heap[j]?=w.heap[j]?):w'.ownsRow base 78 2 u n l:=by
 refine ⟨h.1,?_⟩;rcases h.2 with f|⟨g,cap,cur,c,d,a,m⟩
 . exact .inl f
 . exact .inr ⟨g,cap,cur,c,d,(k g (λe=>by subst e;rw [i] at a;cases a)).trans a,m⟩
theorem PV (h:bf w ar v p ps D L G t pg ob P xs A F) :
 Calls ZZ 38 #[Z9 (Z4 ⟨ar,0,Z5⟩)] w (KS w xs):=by
 have hx:∀ (O:Fn) (first cap:Array Z2) (w:Z3),(Instr.makeFunc O first cap).run ZZ w=.ok (.func O first cap) w:=λ_ _ _ _=>rfl;have hp:∀ (args:Array Z2) (w:Z3),(callFunc 55 args).run ZZ w=.ok (.enter 55 args) w:=enters_of Tryz.func55 (by kernel_rfl) rfl;obtain ⟨M,K⟩:=nM ((w.alloc (Z7 #[Z9 (Z4 ⟨ar,0,Z5⟩)] 90)).alloc (Z7 #[Z8 Z5 0 0] 74));have y:Z0 M w.heap.size 90 (Z9 (Z4 ⟨ar,0,Z5⟩)):=by rw [<- K];exact (Boxed.new w _ _).alloc _
 have z:Z0 M (w.heap.size+1) 74 (Z8 Z5 0 0):=by
  have:=Boxed.new (w.alloc (Z7 #[Z9 (Z4 ⟨ar,0,Z5⟩)] 90)) 74 (Z8 Z5 0 0);rw [World.size_alloc] at this;rw [<- K];exact this
 have o:Z1 w.heap.size w M:=by rw [<- K];exact (bA w _).alloc (by simp) _
 have T:=h.below o;have hz:=z.lt;have U:=DJ T 55 #[] #[Z9 (Z4 ⟨w.heap.size,0,Z5⟩),Z9 (Z4 ⟨w.heap.size+1,0,Z5⟩)] hp
  (λr X b B q w2=>r=.nilIface/\b=xs/\(∀ j,j<w.heap.size->w2.heap[j]?=w.heap[j]?)/\∃ u,Z0 w2 (w.heap.size+1) 74 u/\w2.ownsRow w.heap.size 78 2 u xs.os.length (lS xs.os)) (λj=>j=w.heap.size+1) (λj e=>by omega)
  (λr X b B q w2 w' m=>by
   rintro ⟨e1,e3,e4,u,C,ho⟩;exact ⟨e1,e3,λj g=>(m.2.2 j (by omega)).trans (e4 j g),u,(m.2.2 _ (λe=>by have N:=m.1;rw [<- e,C] at N;cases N)).trans C,G6 ho m.1 m.2.2⟩)
  (λw1 J hy=>by
   have l:Z1 w.heap.size w w1:=o.trans (J.mono o.size);have hq:=h.below l;have hC:gz (λk=>k<w.heap.size) w1 ob xs.os:=h.cat.any.keep (eM.of_below l);refine (G5 ((J.block _ y.lt).trans y) ((J.block _ z.lt).trans z) hq.arc hC (λk V=>by omega) (by have:=h.few.1;omega)).mono ?_;rintro e w2 ⟨rfl,u,C,ho,R⟩;have S:Z1 w.heap.size w w2:=l.trans (R.below (B:=w.heap.size) λk V=>⟨To V l.size,by omega⟩);exact ⟨_,t,pg,ob,P,xs,A,ps,rfl,.inl rfl,h.below S,rfl,⟨rfl,rfl⟩,R.mono λj _ g=>.inr (.inr g),rfl,rfl,λj g=>S.block j g,u,C,cT ho l.size⟩)
 have c1:=y.cell;have H:=hide3 U o h;clear U o y z h T;go_enter Tryz.func38,Tryz.ntmps38;go_wp2_with fail;refine H.out.1.mono ?_;rintro e I ⟨r,X,hd,hb,P',b,B,q,rfl,hv,hr,hs,he,d,rfl,rfl,E,u,a,f⟩;have y0:=a.cell;have y1:=a.frozen;obtain ⟨s,c,rfl⟩:=fh f;obtain ⟨n,i⟩:=nM (b.os.length);rw [i] at y0 a;have Y:=hide5 d f a E i;clear hr d f a E hv hs he i;go_wp2;obtain ⟨d,f,a,E,i⟩:=Y.out;have Z:=(a.set (.slice s n c)).cell;refine bodyPost_ret (v:=.tuple #[.slice s n c,.nilIface]) (by simp [results,Tryz.results38,go_sem,Z]) rfl ?_;have Q:Z1 I.heap.size I (I.setCell ⟨w.heap.size+1,0,Z5⟩ (.slice s n c)):=⟨rfl,rfl,rfl,by simp [World.setCell],λj g=>by
  by_cases e:j=w.heap.size+1
  . subst e;exact (a.set (.slice s n c)).trans a.symm
  . exact blk_setCell_other _ _ _ _ e⟩
 rw [i] at f;have x:=H.out.2.1;have W:w.heap.size<=I.heap.size:=Tm x.size d.size;exact ⟨_,rfl,(Below.mk (d.os.trans x.os) (d.tape.trans x.tape) (d.output.trans x.output) W E).trans (Q.mono W),by rw [i];exact aA f Q⟩
theorem PW (c:Z0 w sa 92 (Z9 (Z4 ⟨ar,0,Z5⟩))) (h:bf w ar v p ps D L G t pg ob P xs A F) :
 Calls ZZ 25 #[Z9 (Z4 ⟨sa,0,Z5⟩)] w (KS w xs):=by
 have cs:=c.cell;have b:=PV h;clear c h;go_enter Tryz.func25,Tryz.ntmps25;go_wp2_with fail;refine b.mono ?_;rintro e f ⟨u,rfl,a⟩;have d:=hide a;clear a b;go_wp2;go_ret2;exact ⟨u,rfl,d.out⟩
def Kd (B:Nat) (T:TypeId) (w w':Z3):Prop:=∀ j cs,j<B->w.heap[j]?=Z4 (Z7 cs T (0,0))->w'.heap[j]?=w.heap[j]?
theorem Kd.below (h:Z1 w.heap.size w w') (B:Nat) (T:TypeId):Kd B T w w':=λj _ _ a=>h.block j (Tn.1 a).1
theorem Kd.trans (h:Kd B T a b) (k:Kd B T b c):Kd B T a c:=λj cs d e=>(k j cs d ((h j cs d e).trans e)).trans (h j cs d e)
theorem Kd.mono (h:Kd B T a b) (c:B'<=B):Kd B' T a b:=λj cs d q=>h j cs (by omega) q
def Sc (T:TypeId):Prop:=T=53\/T=80\/T=92\/T=5\/T=40
def gY (B:Nat) (w w':Z3):Prop:=∀ T,Sc T->Kd B T w w'
theorem gY.below (h:Z1 w.heap.size w w') (B:Nat):gY B w w':=λT _=>Kd.below h B T
theorem gY.trans (h:gY B a b) (k:gY B b c):gY B a c:=λT d=>(h T d).trans (k T d)
theorem gY.mono (h:gY B a b) (c:B'<=B):gY B' a b:=λT d=>(h T d).mono c
theorem gY.live {ho:Nat} {off:Bool} (m:aq w p A F) (s:bJ w ar v D L G t f n pg ob off) (x:bq w v p D L G ps.ps ho) (r:ps.S w) (o:aa (λj=>j=ar\/F.has p A.n j\/j=v\/ps.bl j) w w'):gY B w w':=λT i j cs _ b=>o.block j (Tn.1 b).1 (λq=>by
 have a:T≠121/\T≠57/\T≠61/\T≠255/\T≠4:=by
  rcases i with rfl|rfl|rfl|rfl|rfl<;>exact ⟨by decide,by decide,by decide,by decide,by decide⟩
 have h:T≠130/\¬ BM T:=by
  rcases i with rfl|rfl|rfl|rfl|rfl<;>exact ⟨by decide,by unfold BM;decide⟩
 rcases q with q|q|q|q
 . subst q;have g:w.heap[j]?=Z4 (Z7 (mz v D L G t f n pg ob off) 121 (0,0)):=s;rw [b] at g;simp only [Tr,Obj.cells.injEq] at g;exact a.1 g.2.1
 . obtain ⟨l,T',e,u⟩:=m.kind q;rw [b] at e;simp only [Tr,Obj.cells.injEq] at e;have c:=e.2.1;rcases u with k|k|k|k
   . exact a.2.1 (c.trans k)
   . exact a.2.2.1 (c.trans k)
   . exact a.2.2.2.1 (c.trans k)
   . exact a.2.2.2.2 (c.trans k)
 . subst q;have d:=x;unfold bq at d;rw [b] at d;simp only [Tr,Obj.cells.injEq] at d;exact h.1 d.2.1
 . exact eG r b h.2 q)
theorem KT {size:Nat} {v:Z2} {xs:List Z2} (h:w.ownsRow base T size v n xs) (f:Kd B T w w') (e:w.heap.size<=B):w'.ownsRow base T size v n xs:=by
 refine ⟨h.1,?_⟩;rcases h.2 with d|⟨g,cap,cur,b,c,a,i⟩
 . exact .inl d
 . exact .inr ⟨g,cap,cur,b,c,(f _ _ (To (Tn.1 a).1 e) a).trans a,i⟩
def Ow (w:Z3) (v:Z2) (l:List Nat):Prop:=(∃ base,w.ownsRow base 5 1 v l.length (aH l))/\(∀ x∈l,x<256)/\l.length<=1500
theorem Ow.nil (w:Z3):Ow w (Z8 Z5 0 0) []:=⟨⟨0,World.ownsRow_nil _ _ _ _⟩,λx a=>(by cases a),by decide⟩
theorem Ow.keep {v:Z2} (h:Ow w v l) (d:Kd w.heap.size 5 w w'):Ow w' v l:=by
 obtain ⟨⟨base,a⟩,b,c⟩:=h;exact ⟨⟨base,KT a d lR⟩,b,c⟩
theorem Ow.bs {v:Z2} (h:Ow w v l):Bs w v l:=by
 obtain ⟨⟨base,ho⟩,e,o⟩:=h;rcases ho.2 with ⟨rfl,d⟩|⟨g,cap,cur,rfl,f,i,c,j,m,n⟩
 . have:l=[]:=List.eq_nil_of_length_eq_zero d;subst this;exact ⟨Z5,0,rfl,Nat.le_refl _,by decide,λx h=>(by cases h),λh=>absurd rfl h⟩
 . refine ⟨_,cap,rfl,c,by omega,e,λ_=>⟨g,0,rfl,λk b=>?_⟩⟩;have a:=ho.cells (g:=g) rfl k (.int .u8 ((l.getD k 0:Nat):Int)) (by
    unfold aH;rw [List.getElem?_map,Tq b,List.getD_eq_getElem?_getD,Tq b];rfl)
   rw [mw] at a;rw [Nat.zero_add];exact a
theorem Ow.sl {v:Z2} (h:Ow w v l):ld v/\Be v=l.length:=by
 obtain ⟨⟨base,ho⟩,_,a⟩:=h;obtain ⟨b,c,rfl⟩:=fh ho;exact ⟨⟨_,_,_,rfl,by omega⟩,rfl⟩
def jf (w:Z3):List (ByteArray×Z2)->bg->Prop
 | [],[]=>True
 | q::Q,x::xs=>(q.1=x.1.name/\Ow w q.2 x.2)/\jf w Q xs
 | _,_=>False
theorem jf.len:∀ {Q:List (ByteArray×Z2)} {xs:bg},jf w Q xs->Q.length=xs.length
 | [],[],_=>rfl
 | [],_::_,h=>h.elim
 | _::_,[],h=>h.elim
 | _::Q,_::xs,h=>by rw [Tu,Tu,jf.len h.2]
theorem jf.names:∀ {Q:List (ByteArray×Z2)} {xs:bg},jf w Q xs->cy Q=xs.names
 | [],[],_=>rfl
 | [],_::_,h=>h.elim
 | _::_,[],h=>h.elim
 | q::Q,x::xs,h=>by
  have e:cy (q::Q)=q.1::cy Q:=rfl;have a:bg.names (x::xs)=x.1.name::bg.names xs:=rfl;rw [e,a,h.1.1,jf.names h.2]
theorem jf.keep (a:∀ v l,Ow w v l->Ow w' v l):∀ {Q:List (ByteArray×Z2)} {xs:bg},jf w Q xs->jf w' Q xs
 | [],[],_=>trivial
 | [],_::_,h=>h.elim
 | _::_,[],h=>h.elim
 | _::_,_::_,h=>⟨⟨h.1.1,a _ _ h.1.2⟩,jf.keep a h.2⟩
theorem jf.take:∀ {Q:List (ByteArray×Z2)} {xs:bg} (k:Nat),jf w Q xs->jf w (Q.take k) (xs.take k)
 | _,_,0,_=>by simp only [List.take_zero];exact trivial
 | [],[],_+1,_=>trivial
 | [],_::_,_+1,h=>h.elim
 | _::_,[],_+1,h=>h.elim
 | _::_,_::_,k+1,h=>⟨h.1,jf.take k h.2⟩
theorem jf.drop:∀ {Q:List (ByteArray×Z2)} {xs:bg} (k:Nat),jf w Q xs->jf w (Q.drop k) (xs.drop k)
 | _,_,0,h=>h
 | [],[],_+1,_=>trivial
 | [],_::_,_+1,h=>h.elim
 | _::_,[],_+1,h=>h.elim
 | _::_,_::_,k+1,h=>jf.drop k h.2
theorem jf.app:∀ {Q Q':List (ByteArray×Z2)} {xs xs':bg},jf w Q xs->jf w Q' xs'->jf w (Q++Q') (xs++xs')
 | [],_,[],_,_,a=>a
 | [],_,_::_,_,h,_=>h.elim
 | _::_,_,[],_,h,_=>h.elim
 | _::_,_,_::_,_,h,a=>⟨h.1,jf.app h.2 a⟩
theorem jf.at:∀ {Q:List (ByteArray×Z2)} {xs:bg},jf w Q xs->∀ k (a:k<Q.length) (b:k<xs.length),Q[k].1=xs[k].1.name/\Ow w Q[k].2 xs[k].2
 | [],_,_,_,a,_=>absurd a (by simp)
 | _::_,[],h,_,_,_=>h.elim
 | _::_,_::_,h,0,_,_=>h.1
 | _::Q,_::xs,h,k+1,a,b=>jf.at h.2 k (by simpa using a) (by simpa using b)
theorem jf.sl:∀ {Q:List (ByteArray×Z2)} {xs:bg},jf w Q xs->∀ o∈Q,ld o.2
 | [],_,_,_,h=>by cases h
 | _::_,[],h,_,_=>h.elim
 | q::Q,x::xs,h,o,ho=>by
  rcases Tt.1 ho with rfl|ho
  . exact h.1.2.sl.1
  . exact jf.sl h.2 o ho
theorem jf.stripes (D:Nat):∀ {Q:List (ByteArray×Z2)} {xs:bg},jf w Q xs->(Q.map λo=>Be o.2/(D*44)+1).sum=qD D xs
 | [],[],_=>rfl
 | [],_::_,h=>h.elim
 | _::_,[],h=>h.elim
 | q::Q,x::xs,h=>by
  unfold qD;rw [Tv,Tv,Tw,Tw,h.1.2.sl.2,jf.stripes D h.2];rfl
theorem nD (x:ByteArray):bX x↔bB x=true:=by unfold bX bB;simp
theorem kM (h:jf w Q xs) (x:ByteArray):pI Q x↔x∉xs.names:=by
 rw [<- h.names];constructor
 . intro f a;obtain ⟨k,b,e⟩:=Ts a;have c:k<Q.length:=(by unfold cy at b;rwa [Tx] at b);refine f k c ?_;rw [<- e];simp [cy]
 . intro a j d e;refine a ?_;rw [<- toList_inj e];exact List.mem_map.2 ⟨Q[j],Ty d,rfl⟩
theorem fV (h:jf w Q xs) (d:Up xs.names) {x:ByteArray} {k:Nat} (f:Mh Q x k):aF xs.names x=k/\k<Q.length/\x∈xs.names:=by
 obtain ⟨b,e,_⟩:=f;have c:k<(cy Q).length:=by unfold cy;rw [Tx];exact b
 have a:(cy Q)[k]=x:=by simp only [cy,List.getElem_map];exact toList_inj e
 rw [<- h.names] at d ⊢;exact ⟨fy d c a,b,a▸Ty c⟩
end Go.Proofs.YtfbmmcnpjhmjaaaGreatDoor
