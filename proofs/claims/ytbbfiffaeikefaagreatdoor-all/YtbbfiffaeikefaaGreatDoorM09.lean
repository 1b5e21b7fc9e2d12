import Derived.Test.YtbbfiffaeikefaaGreatDoorM08
import Derived.BigRegionIn
import Derived.SizedLaws
set_option maxRecDepth 100000
set_option linter.all false
set_option maxHeartbeats 8000000
open Go.IntKind renaming i64 -> Z9, u64 -> Z8
open Go.Value renaming int -> Z7, pointer -> Z6, slice -> Z5, bool -> Z1, string -> Z0, tuple -> ZZ
open Go.Obj renaming cells -> Z4
open Go.Ending renaming returned -> Z3
open Go renaming undef -> ZY, World -> ZT, Value -> ZS, Calls -> ZR, Ending -> ZQ, TypeId -> ZP, Boxed -> ZO
open Option renaming none -> ZX, some -> ZW
open Bool renaming true -> ZV, false -> ZU
open List renaming range -> YE, getElem_range -> YH
open Exists renaming intro -> YF
open ByteArray renaming empty -> YG
open Go.Proofs.Tryz renaming prog -> ZN
open Go.Proofs.Tryz
namespace Go.Proofs.YtbbfiffaeikefaaGreatDoor
def ab7:=@Go.World.cell?_spot
def WH:=@Go.WideShapes.add_plain
def Xv:=@Go.DataW.trod_int
end Go.Proofs.YtbbfiffaeikefaaGreatDoor
namespace Go.Proofs.YtbbfiffaeikefaaGreatDoor
open Go.RowKit Go.Deep Gf Go.Shelf
variable {A:aF} {C:aF->Prop} {cp:Array ZS} {off:Bool} {x:ByteArray} {e:ZQ} {R:ZQ->ZT->Prop} {F:aQ} {cf:FuncId} {cache kc:Int} {ps:aN} {Kind:aN->Prop} {Q:List (ByteArray×ZS)} {M:List (Nat×Nat)} {l d P:a8} {os:List Ob} {wb D L G r blocks p B T b B' ar v t f n ho rb sa q N nb g k D' nn gone sp D1 S len0 cap0:Nat} {sg:Nat->Nat} {X:Ob×a8} {xs':aZ} {ao:Option Addr} {H:Type} {s out want pg ob rv u rr:ZS} {w a w' c KW wx w0 wr Z W:ZT} {J:ZT->Prop}
def PF (D L G:Nat) (a s r:ZS) (blocks:Nat) (out want:ZS) (cache:Int):List ZS:=[Z7 Z9 (D:Nat),Z7 Z9 (L:Nat),Z7 Z9 (G:Nat),a,s,r,Z7 Z9 (blocks:Nat),out,want,Z7 Z9 cache]
def jT (w:ZT) (wb D L G:Nat) (a s r:ZS) (blocks:Nat) (out want:ZS) (cache:Int):Prop:=an w wb 56 (PF D L G a s r blocks out want cache)
def jT.cells {a r:ZS} (h:jT w wb D L G a s r blocks out want cache) :
 w.cell? ⟨wb,0,ZX⟩=ZW (Z7 Z9 (D:Nat))/\w.cell? ⟨wb,1,ZX⟩=ZW (Z7 Z9 (L:Nat))/\w.cell? ⟨wb,2,ZX⟩=ZW (Z7 Z9 (G:Nat))/\w.cell? ⟨wb,3,ZX⟩=ZW a/\w.cell? ⟨wb,4,ZX⟩=ZW s/\w.cell? ⟨wb,5,ZX⟩=ZW r/\w.cell? ⟨wb,6,ZX⟩=ZW (Z7 Z9 (blocks:Nat))/\w.cell? ⟨wb,7,ZX⟩=ZW out/\w.cell? ⟨wb,8,ZX⟩=ZW want/\w.cell? ⟨wb,9,ZX⟩=ZW (Z7 Z9 cache):=
 ⟨an.cell h rfl,an.cell h rfl,an.cell h rfl,an.cell h rfl,an.cell h rfl,an.cell h rfl,an.cell h rfl,an.cell h rfl,an.cell h rfl,an.cell h rfl⟩
theorem JH {r:ZS} (h:jT w wb D L G (Z6 (ZW ⟨p,0,ZX⟩)) s r blocks out want cache) (hs:∃ o,s=.pointer o) (R:Nat->ZT->Prop) (j:∀ sa w2,R sa w2->w2.heap[wb]?=w.heap[wb]?)
 (ho:ZR ZN 35 #[Z6 (ZW ⟨p,0,ZX⟩),.agg #[Z7 Z9 D,Z7 Z9 L,Z7 Z9 G],.agg #[Z7 Z9 cache]] w.drew λe w2=>∃ sa,e=Z3 (ZZ #[Z6 (ZW ⟨sa,0,ZX⟩),.nilIface])/\R sa w2) :
 ZR ZN 15 #[Z6 (ZW ⟨wb,0,ZX⟩)] w λe w'=>e=Z3 (Z1 ZV)/\∃ sa w2 c,R sa w2/\bW w2 c/\jT w' wb D L G (Z6 (ZW ⟨p,0,ZX⟩)) (Z6 (ZW ⟨sa,0,ZX⟩)) r blocks out want cache/\w'=c.setCell ⟨wb,4,ZX⟩ (Z6 (ZW ⟨sa,0,ZX⟩)):=by
 obtain ⟨c0,c1,l,m,n,q,t,u,v,x⟩:=h.cells;have f:=aE ho h j;clear ho h j n q t u v;go_enter func15,ntmps15;go_upto_region 1 with fail;go_cut [3,4] from 6 to 34 (λz A wx=>∃ sa,z=Z6 (ZW ⟨sa,0,ZX⟩)/\A=.nilIface/\R sa wx)
 case first=>
  go_region_with (go_at_call 35;refine f.o.1.mono ?_;rintro e w2 ⟨sa,rfl,a⟩;have b:=ak a;clear a);all_goals (go_wp2_with fail;go_meet;case rel=>exact ⟨sa,rfl,rfl,b.o⟩)
 case rest=>
  obtain ⟨sa,rfl,rfl,a⟩:=hcut;have k:jT wc wb D L G (Z6 (ZW ⟨p,0,ZX⟩)) s r blocks out want cache:=an.keep f.o.2.1 (f.o.2.2 sa wc a);obtain ⟨y,rfl⟩:=hs;have b:=al a k;clear a k c0 c1 l m x;go_wp2_with fail;refine (nZ wc).mono ?_;rintro e c ⟨rfl,g⟩;have d:jT c wb D L G (Z6 (ZW ⟨p,0,ZX⟩)) (.pointer y) r blocks out want cache:=an.keep b.o.2 (g.block _ (an.lt b.o.2));have B:=d.cells.2.2.2.2.1;have C:=an.R3 d 4;have i:=al g d;clear g d;dsimp only;go_wp2;go_ret;refine ⟨rfl,sa,wc,c,b.o.1,i.o.1,?_,rfl⟩;exact an.set i.o.2 4 [Z6 (ZW ⟨sa,0,ZX⟩)] (by simp [PF])
def Kd (B:Nat) (T:ZP) (w w':ZT):Prop:=∀ j cs,j<B->w.heap[j]?=ZW (Z4 cs T (0,0))->w'.heap[j]?=w.heap[j]?
def Kd.below (h:bW w w') (B:Nat) (T:ZP):Kd B T w w':=λj _ _ a=>h.block j (TX.1 a).1
def Kd.trans {T:ZP} {b:ZT} (h:Kd B T a b) (k:Kd B T b c):Kd B T a c:=λj cs d e=>(k j cs d ((h j cs d e).trans e)).trans (h j cs d e)
def Kd.mono {T:ZP} {b:ZT} (h:Kd B T a b) (c:B'<=B):Kd B' T a b:=λj cs d q=>h j cs (by omega) q
def aaP (T:ZP):Prop:=T=53\/T=82\/T=108\/T=5\/T=41
def Law (T:ZP):Prop:=aaP T\/T=61
def iS (B:Nat) (w w':ZT):Prop:=∀ T,Law T->Kd B T w w'
def vL (B:Nat) (w w':ZT):Prop:=∀ T,aaP T->Kd B T w w'
def iS.SJ (h:iS B w w'):vL B w w':=λT a=>h T (.inl a)
def iS.below (h:bW w w') (B:Nat):iS B w w':=λT _=>Kd.below h B T
def iS.trans {b:ZT} (h:iS B a b) (k:iS B b c):iS B a c:=λT d=>(h T d).trans (k T d)
def iS.mono {b:ZT} (h:iS B a b) (c:B'<=B):iS B' a b:=λT d=>(h T d).mono c
def iS.live (l:aA w p A F) (r:bf w ar v D L G t f n pg ob off) (hv:bt w v p D L G ps.ps ho) (o:ps.S w) (m:aa (λj=>j=ar\/F.S j\/j=v\/ps.bl j) w w'):iS B w w':=λT i j cs _ b=>m.block j (TX.1 b).1 (λq=>by
 have a:T≠135/\T≠91/\T≠95/\T≠102/\T≠4:=by
  rcases i with (rfl|rfl|rfl|rfl|rfl)|rfl<;>exact ⟨by decide,by decide,by decide,by decide,by decide⟩
 have h:T≠144/\¬ jS T:=by
  rcases i with (rfl|rfl|rfl|rfl|rfl)|rfl<;>exact ⟨by decide,by unfold jS;decide⟩
 rcases q with q|q|q|q
 . subst q;have g:w.heap[j]?=ZW (Z4 (lH v D L G t f n pg ob off) 135 (0,0)):=r;rw [b] at g;simp only [UF,U1] at g;exact a.1 g.2.1
 . obtain ⟨cs',T',e,s⟩:=l.kind q;rw [b] at e;simp only [UF,U1] at e;have c:=e.2.1;rcases s with k|k|k|k
   . exact a.2.1 (c.trans k)
   . exact a.2.2.1 (c.trans k)
   . exact a.2.2.2.1 (c.trans k)
   . exact a.2.2.2.2 (c.trans k)
 . subst q;have d:=hv;unfold bt at d;rw [b] at d;simp only [UF,U1] at d;exact h.1 d.2.1
 . exact bZ o b h.2 q)
def M7 {base size:Nat} {T:ZP} {v:ZS} {xs:List ZS} (h:w.ownsRow base T size v n xs) (f:Kd B T w w') (e:w.heap.size<=B):w'.ownsRow base T size v n xs:=by
 refine ⟨h.1,?_⟩;rcases h.2 with d|⟨g,cap,cur,b,c,a,rr⟩
 . exact .inl d
 . exact .inr ⟨g,cap,cur,b,c,(f _ _ (TZ (TX.1 a).1 e) a).trans a,rr⟩
def Ow (w:ZT) (v:ZS) (l:a8):Prop:=(∃ base,w.ownsRow base 5 1 v l.length (aH l))/\(∀ x∈l,x<256)/\l.length<=1500
def Ow.nil (w:ZT):Ow w (Z5 ZX 0 0) []:=⟨⟨0,UN _ _ _ _⟩,λx a=>(by cases a),by decide⟩
def Ow.keep {v:ZS} (h:Ow w v l) (d:Kd w.heap.size 5 w w'):Ow w' v l:=by
 obtain ⟨⟨base,a⟩,b,c⟩:=h;exact ⟨⟨base,M7 a d lR⟩,b,c⟩
def Ow.bs {v:ZS} (h:Ow w v l):Bs w v l:=by
 obtain ⟨⟨base,ho⟩,e,hl⟩:=h;rcases ho.2 with ⟨rfl,d⟩|⟨g,cap,cur,rfl,f,i,c,j,m,n⟩
 . have:l=[]:=UX d;subst this;exact ⟨ZX,0,rfl,TV _,by decide,λx h=>(by cases h),λh=>absurd rfl h⟩
 . refine ⟨_,cap,rfl,c,by omega,e,λ_=>⟨g,0,rfl,λk b=>?_⟩⟩;have a:=ho.cells (g:=g) rfl k (Z7 .u8 ((l.getD k 0:Nat):Int)) (by
    unfold aH;rw [UA,Ua b,T6,Ua b];rfl)
   rw [jC] at a;rw [Ui];exact a
def Ow.sl {v:ZS} (h:Ow w v l):kD v/\BI v=l.length:=by
 obtain ⟨⟨base,ho⟩,_,hl⟩:=h;obtain ⟨a,b,rfl⟩:=bE ho;exact ⟨⟨_,_,_,rfl,by omega⟩,rfl⟩
def iU (w:ZT):List (ByteArray×ZS)->aZ->Prop
 | [],[]=>True
 | q::Q,x::xs=>(q.1=x.1.name/\Ow w q.2 x.2)/\iU w Q xs
 | _,_=>False
def iU.len:∀ {Q:List (ByteArray×ZS)} {xs:aZ},iU w Q xs->Q.length=xs.length
 | [],[],_=>rfl
 | [],_::_,h=>h.elim
 | _::_,[],h=>h.elim
 | _::Q,_::xs,h=>by rw [UD,UD,iU.len h.2]
def iU.names:∀ {Q:List (ByteArray×ZS)} {xs:aZ},iU w Q xs->cD Q=xs.names
 | [],[],_=>rfl
 | [],_::_,h=>h.elim
 | _::_,[],h=>h.elim
 | q::Q,x::xs,h=>by
  have e:cD (q::Q)=q.1::cD Q:=rfl;have a:aZ.names (x::xs)=x.1.name::aZ.names xs:=rfl;rw [e,a,h.1.1,iU.names h.2]
def iU.keep (a:∀ v l,Ow w v l->Ow w' v l):∀ {Q:List (ByteArray×ZS)} {xs:aZ},iU w Q xs->iU w' Q xs
 | [],[],_=>trivial
 | [],_::_,h=>h.elim
 | _::_,[],h=>h.elim
 | _::_,_::_,h=>⟨⟨h.1.1,a _ _ h.1.2⟩,iU.keep a h.2⟩
def iU.take:∀ {Q:List (ByteArray×ZS)} {xs:aZ} (k:Nat),iU w Q xs->iU w (Q.take k) (xs.take k)
 | _,_,0,_=>by simp only [Wm];exact trivial
 | [],[],_+1,_=>trivial
 | [],_::_,_+1,h=>h.elim
 | _::_,[],_+1,h=>h.elim
 | _::_,_::_,k+1,h=>⟨h.1,iU.take k h.2⟩
def iU.drop:∀ {Q:List (ByteArray×ZS)} {xs:aZ} (k:Nat),iU w Q xs->iU w (Q.drop k) (xs.drop k)
 | _,_,0,h=>h
 | [],[],_+1,_=>trivial
 | [],_::_,_+1,h=>h.elim
 | _::_,[],_+1,h=>h.elim
 | _::_,_::_,k+1,h=>iU.drop k h.2
def iU.app:∀ {Q Q':List (ByteArray×ZS)} {xs xs':aZ},iU w Q xs->iU w Q' xs'->iU w (Q++Q') (xs++xs')
 | [],_,[],_,_,a=>a
 | [],_,_::_,_,h,_=>h.elim
 | _::_,_,[],_,h,_=>h.elim
 | _::_,_,_::_,_,h,a=>⟨h.1,iU.app h.2 a⟩
def iU.at:∀ {Q:List (ByteArray×ZS)} {xs:aZ},iU w Q xs->∀ k (a:k<Q.length) (b:k<xs.length),Q[k].1=xs[k].1.name/\Ow w Q[k].2 xs[k].2
 | [],_,_,_,a,_=>absurd a (by simp)
 | _::_,[],h,_,_,_=>h.elim
 | _::_,_::_,h,0,_,_=>h.1
 | _::Q,_::xs,h,k+1,a,b=>iU.at h.2 k (by simpa using a) (by simpa using b)
def iU.sl:∀ {Q:List (ByteArray×ZS)} {xs:aZ},iU w Q xs->∀ o∈Q,kD o.2
 | [],_,_,_,h=>by cases h
 | _::_,[],h,_,_=>h.elim
 | q::Q,x::xs,h,o,ho=>by
  rcases Uw.1 ho with rfl|ho
  . exact h.1.2.sl.1
  . exact iU.sl h.2 o ho
def iU.RL (D:Nat):∀ {Q:List (ByteArray×ZS)} {xs:aZ},iU w Q xs->(Q.map λo=>BI o.2/(D*44)+1).sum=rA D xs
 | [],[],_=>rfl
 | [],_::_,h=>h.elim
 | _::_,[],h=>h.elim
 | q::Q,x::xs,h=>by
  unfold rA;rw [UG,UG,XI,XI,h.1.2.sl.2,iU.RL D h.2];rfl
def kX (x:ByteArray):eK x↔b9 x=ZV:=by unfold eK b9;simp
theorem nG {xs:aZ} (h:iU w Q xs) (x:ByteArray):pK Q x↔x∉xs.names:=by
 rw [<- h.names];constructor
 . intro f a;obtain ⟨k,b,e⟩:=UT a;have c:k<Q.length:=(by unfold cD at b;rwa [T9] at b);refine f k c ?_;rw [<- e];simp [cD]
 . intro a j d e;refine a ?_;rw [<- toList_inj e];exact T7.2 ⟨Q[j],TY d,rfl⟩
def kY {xs:aZ} (h:iU w Q xs) (c:Up xs.names) {x:ByteArray} {k:Nat} (d:NT Q x k):aK xs.names x=k/\k<Q.length/\x∈xs.names:=by
 obtain ⟨b,e,_⟩:=d;have hl:k<(cD Q).length:=by unfold cD;rw [T9];exact b
 have a:(cD Q)[k]=x:=by simp only [cD,UQ];exact toList_inj e
 rw [<- h.names] at c ⊢;exact ⟨ig c hl a,b,a▸TY hl⟩
section
structure MB (w0 w:ZT) (wb D L G nb t:Nat) (xs:aZ) (p r sa ar v:Nat) (Kind:aN->Prop) (ps:aN) (pg ob:ZS) (P:a8) (A:aF) (F:aQ) (out want:ZS) (cache:Int):Prop where
 wbA:jT w wb D L G (Z6 (ZW ⟨p,0,ZX⟩)) (Z6 (ZW ⟨sa,0,ZX⟩)) (Z6 (ZW ⟨r,0,ZX⟩)) nb out want cache
 box:ZO w sa 108 (Z6 (ZW ⟨ar,0,ZX⟩))
 live:aT w ar v p ps D L G t pg ob P xs A F
 nb:A.nb=nb
 base:bW w0 w
 glob:bN w0
 hK:3<=w0.heap.size
 wbB:w0.heap.size<=wb
 lt:wb<ar
 fB:∀ k,F.S k->w0.heap.size<=k
 vB:w0.heap.size<=v
 kB:∀ k,ps.bl k->w0.heap.size<=k
 shv:vG D L G Kind ps
 wbK:¬ ps.bl wb
structure Dc (KW w:ZT) (r:Nat) (Q:List (ByteArray×ZS)) (xs:aZ) (out want:ZS):Prop where
 ref:∃ rb rv,rQ w r rb rv Q
 rel:iU w Q xs
 ow:kD out/\kD want
 mks:∀ (k:Nat) (cs:Array ZS),KW.heap[k]?=ZW (Z4 cs 61 (0,0))->w.heap[k]?=KW.heap[k]?
def MS (KW:ZT) (C:aF->Prop) (w0 w:ZT) (wb D L G nb T:Nat):Prop:=∃ t xs Q p r sa ar v Kind ps pg ob P A F out want cache,MB w0 w wb D L G nb t xs p r sa ar v Kind ps pg ob P A F out want cache/\Dc KW w r Q xs out want/\t<=T/\C A
def vL.ref (h:rQ w r rb rv Q) (b:vL B w w') (a:w.heap.size<=B):rQ w' r rb rv Q:=
 ⟨(b _ (.inl rfl) r _ (TZ (TX.1 h.top).1 a) h.top).trans h.top,M7 h.own (b _ (.inr (.inl rfl))) a⟩
def vL.box (h:ZO w sa 108 u) (b:vL B w w') (a:w.heap.size<=B):ZO w' sa 108 u:=
 (b _ (.inr (.inr (.inl rfl))) sa _ (TZ h.lt a) h).trans h
def vL.ow (h:Ow w u l) (b:vL B w w') (a:w.heap.size<=B):Ow w' u l:=h.keep ((b _ (.inr (.inr (.inr (.inl rfl))))).mono a)
def Dc.keep {xs:aZ} (h:Dc KW w r Q xs out want) (c:iS B w w') (b:w.heap.size<=B):Dc KW w' r Q xs out want:=by
 obtain ⟨rb,rv,d⟩:=h.ref;refine ⟨⟨rb,rv,c.SJ.ref d b⟩,h.rel.keep λ_ _ o=>c.SJ.ow o b,h.ow,λk cs q=>?_⟩;have a:=h.mks k cs q;rw [q] at a;rw [q];exact (c _ (.inr rfl) k _ (TZ (TX.1 a).1 b) a).trans a
def bN.below (h:bN w) (b:bW w w'):bN w':=by
 have a:w.cell? ⟨0,0,ZX⟩=_:=h;exact (b.cell (Ub a)).trans a
section
variable {w0 w w':ZT} {wb D L G nb t:Nat} {xs:aZ} {p r sa ar v:Nat} {Kind:aN->Prop} {ps:aN} {pg ob:ZS} {P:a8} {A:aF} {F:aQ} {out want:ZS} {cache:Int}
def MB.gl (h:MB w0 w wb D L G nb t xs p r sa ar v Kind ps pg ob P A F out want cache):bN w:=h.glob.below h.base
def MB.next (h:MB w0 w wb D L G nb t xs p r sa ar v Kind ps pg ob P A F out want cache) (f:vL w.heap.size w w') (g:w'.heap[wb]?=w.heap[wb]?) (d:bW w0 w') {t':Nat} {xs':aZ} {pg' a:ZS} {P':a8} {B:aF} {ps':aN} (hl:aT w' ar v p ps' D L G t' pg' a P' xs' B F) (c:B.nb=A.nb) (hv:Kind ps') (b:∀ k,ps'.bl k->ps.bl k\/w.heap.size<=k) :
 MB w0 w' wb D L G nb t' xs' p r sa ar v Kind ps' pg' a P' B F out want cache:=
 { h with wbA:=an.keep h.wbA g,box:=f.box h.box lR,live:=hl,nb:=c.trans h.nb,base:=d,kB:=λk q=>(b k q).elim (h.kB k) λe=>TU h.base.size e,shv:=⟨h.shv.sh,h.shv.re,h.shv.pk,hv⟩,wbK:=λq=>(b wb q).elim h.wbK λe=>absurd (an.lt h.wbA) (WJ.2 e) }
def MB.below (h:MB w0 w wb D L G nb t xs p r sa ar v Kind ps pg ob P A F out want cache) (a:bW w w'):MB w0 w' wb D L G nb t xs p r sa ar v Kind ps pg ob P A F out want cache:=
 h.next (iS.below a _).SJ (a.block _ (an.lt h.wbA)) (h.base.trans (a.mono h.base.size)) (h.live.below a) rfl h.shv.kind (λ_ q=>.inl q)
def MB.wbF (h:MB w0 w wb D L G nb t xs p r sa ar v Kind ps pg ob P A F out want cache):¬ F.S wb/\wb≠v:=by
 have c:w.heap[wb]?=ZW (Z4 _ 56 (0,0)):=h.wbA;refine ⟨λq=>?_,λe=>?_⟩
 . obtain ⟨cs,T,b,f⟩:=h.live.vol.arr.kind q;rw [c] at b;simp only [UF,U1] at b;have d:=b.2.1;rcases f with k|k|k|k<;>exact absurd (d.trans k) (by decide)
 . have a:=h.live.vol.vol;unfold bt at a;rw [<- e,c] at a;cases a
def MB.Tu (h:MB w0 w wb D L G nb t xs p r sa ar v Kind ps pg ob P A F out want cache) (c:aa (λj=>j=ar\/F.S j\/j=v\/ps.bl j) w w') {t':Nat} {xs':aZ} {pg' a:ZS} {P':a8} {B:aF} {ps':aN} (hl:aT w' ar v p ps' D L G t' pg' a P' xs' B F) (e:B.nb=A.nb) (hv:Kind ps') (d:∀ k,ps'.bl k->ps.bl k\/w.heap.size<=k) :
 MB w0 w' wb D L G nb t' xs' p r sa ar v Kind ps' pg' a P' B F out want cache/\iS w.heap.size w w':=by
 have b:=iS.live (B:=w.heap.size) h.live.vol.arr h.live.arc h.live.vol.vol h.live.kit c;refine ⟨h.next b.SJ (c.block _ (an.lt h.wbA) (λq=>?_)) (h.base.trans (c.below λk b=>⟨TZ b h.base.size,λq=>?_⟩)) hl e hv d,b⟩
 . rcases q with q|q|q|q
   . have:=h.lt;omega
   . exact h.wbF.1 q
   . exact h.wbF.2 q
   . exact h.wbK q
 . have:=h.wbB;have:=h.lt;have:=h.vB;rcases q with q|q|q|q
   . omega
   . have:=h.fB k q;omega
   . omega
   . have:=h.kB k q;omega
def MB.call (h:MB w0 w wb D L G nb t xs p r sa ar v Kind ps pg ob P A F out want cache) (c:aa (λj=>j=ar\/F.S j) w w') {t':Nat} {xs':aZ} {pg' a:ZS} {P':a8} {B:aF} (hl:aT w' ar v p ps D L G t' pg' a P' xs' B F) (b:B.nb=A.nb) :
 MB w0 w' wb D L G nb t' xs' p r sa ar v Kind ps pg' a P' B F out want cache/\iS w.heap.size w w':=h.Tu (c.mono λ_ _ q=>q.elim .inl λe=>.inr (.inl e)) hl b h.shv.kind λ_ q=>.inl q
def MB.write (h:MB w0 w wb D L G nb t xs p r sa ar v Kind ps pg ob P A F out want cache) (d:aa (λj=>j=wb) w w') {r':Nat} {out' a:ZS} {cache':Int}
 (m:jT w' wb D L G (Z6 (ZW ⟨p,0,ZX⟩)) (Z6 (ZW ⟨sa,0,ZX⟩)) (Z6 (ZW ⟨r',0,ZX⟩)) nb out' a cache') :
 MB w0 w' wb D L G nb t xs p r' sa ar v Kind ps pg ob P A F out' a cache'/\iS w.heap.size w w':=by
 obtain ⟨g,i⟩:=h.wbF;have f:∀ j,j≠wb->j<w.heap.size->w'.heap[j]?=w.heap[j]?:=λj b hl=>d.block j hl b;have n:w.heap[wb]?=ZW (Z4 _ 56 (0,0)):=h.wbA;have c:iS w.heap.size w w':=λT l j cs hl b=>f j (λe=>by
  subst e;rw [n] at b;simp only [UF,U1] at b;have e:=b.2.1;rcases l with (q|q|q|q|q)|q<;>exact absurd (e.trans q) (by decide)) hl
 exact ⟨{ h with wbA:=m,box:=c.SJ.box h.box lR,live:=h.live.other d.size f h.lt i g (by have:=h.hK;have:=h.wbB;omega) h.wbK,base:=h.base.trans (d.below λk c=>⟨TZ c h.base.size,λq=>by have:=h.wbB;omega⟩) },c⟩
end
end
def mb (w:ZT) (q:Nat) (o:rH) (dv:ZS):Prop:=an w q 41 [Z7 Z9 o.kind,Z7 Z9 o.a,Z0 o.s,dv]
def mb.cells {o:rH} {dv:ZS} (h:mb w q o dv):w.cell? ⟨q,0,ZX⟩=ZW (Z7 Z9 o.kind)/\w.cell? ⟨q,1,ZX⟩=ZW (Z7 Z9 o.a)/\w.cell? ⟨q,2,ZX⟩=ZW (Z0 o.s)/\w.cell? ⟨q,3,ZX⟩=ZW dv:=
 ⟨an.cell h rfl,an.cell h rfl,an.cell h rfl,an.cell h rfl⟩
def isN (x:ZS) (n:Int):Prop:=x=Az n\/(x=.nilIface/\n=0)
def vM {x:ZS} {n:Int} (b:isN x n) {w:ZT} (a:bN w):ZR ZN 22 #[x] w λe w'=>e=Z3 (Z7 Z9 n)/\bW w w':=by
 rcases b with rfl|⟨rfl,rfl⟩
 . exact DZ n w a
 . exact nZ w
def wJ (n:Int) (D nb:Nat) (xs:aZ) (x:ByteArray) (d:a8) (xs':aZ):Prop:=(n=0/\wH D nb xs x d xs')\/(xs'=xs/\wG D nb xs x d.length n)
def M8 {xs:aZ} {Q:Int->Prop} {N:aZ->Prop} (h:dr w ar v p ps D L G t xs A F Q N (Z3 rr) w'):∃ n a pg ob P' xs' B,isN rr n/\aT w' ar v p ps D L G a pg ob P' xs' B F/\dZ A B/\aa (λk=>k=ar\/F.S k) w w'/\a<=t+1/\((n=0/\N xs')\/(xs'=xs/\Q n)):=by
 obtain ⟨i,a,pg,ob,P',xs',B,c,hl,d,b,h|⟨e,j,n,f,g⟩⟩:=h
 . cases c;exact ⟨0,a,pg,ob,P',xs',B,.inr ⟨h.1,rfl⟩,hl,d,b,by omega,.inl ⟨rfl,h.2.2⟩⟩
 . cases c;exact ⟨n,a,pg,ob,P',xs',B,.inl f,hl,d,b,by omega,.inr ⟨e,g⟩⟩
def RpN (w:ZT) (q:Nat) (Q:List (ByteArray×ZS)) (x:ByteArray) (d:a8) (n:Int) (e:ZQ) (w':ZT):Prop:=
 (n≠0/\n≠10/\e=Z3 (Z7 Z9 n)/\w'=w)\/((n=0\/n=10)/\MQ w q Q x d e w')
def O8 {n:Int} {xs:aZ} (j:rQ w q rb rv Q) (hl:Q.length<=1000) (r:iU wx Q xs) (hs:∀ o∈Q,kD o.2) {ao:Option Addr} {c m:Nat} (l:d.length=m) (k:Bs w (.slice ao m c) d) (p:wJ n D nb xs x d xs') :
 ZR ZN 40 #[Z6 (ZW ⟨q,0,ZX⟩),Z0 x,.slice ao m c] w (RpN w q Q x d n):=by
 subst l;have i:=nG r x;have g:=kX x;rcases p with ⟨rfl,a,b,f,_⟩|⟨_,⟨a,rfl⟩|⟨a,⟨b,rfl⟩|⟨b,⟨f,rfl⟩|⟨f,_,rfl⟩⟩⟩⟩
 . exact (GQ j (by omega) hs x ao c d k b (g.2 a) (i.2 f)).mono λe w' h=>.inr ⟨.inl rfl,h⟩
 . exact (Jo q x ao _ c (λq=>by rw [g,a] at q;cases q) w).mono λe w' h=>.inl ⟨by decide,by decide,h.1,h.2⟩
 . exact (Jp q x ao _ c (g.2 a) b w).mono λe w' h=>.inl ⟨by decide,by decide,h.1,h.2⟩
 . exact (Dm j (by omega) x ao _ c (g.2 a) b (λh=>i.1 h f)).mono λe w' h=>.inl ⟨by decide,by decide,h.1,h.2⟩
 . exact (GQ j (by omega) hs x ao c d k b (g.2 a) (i.2 f)).mono λe w' h=>.inr ⟨.inr rfl,h⟩
def wJ.none {n:Int} {xs:aZ} (h:wJ n D nb xs x d xs') (a:n≠0):xs'=xs:=h.elim (λq=>absurd q.1 a) λq=>q.1
def wJ.some {xs:aZ} (h:wJ 0 D nb xs x d xs'):wH D nb xs x d xs':=by
 rcases h with h|⟨_,⟨_,e⟩|⟨_,⟨_,e⟩|⟨_,⟨_,e⟩|⟨_,_,e⟩⟩⟩⟩
 . exact h.2
 all_goals exact absurd e (by decide)
def wJ.full {xs:aZ} (h:wJ 10 D nb xs x d xs'):d.length<=1500/\nb<(af xs.os).length+mQ D d.length+2*AA D (ai xs.os).length d.length+2:=by
 rcases h with ⟨e,_⟩|⟨_,⟨_,e⟩|⟨_,⟨_,e⟩|⟨a,⟨_,e⟩|⟨_,b,_⟩⟩⟩⟩;rotate_right
 . exact ⟨a,b⟩
 all_goals exact absurd e (by decide)
def JI (h:aI w b l):vk w b:=λoff u c=>by
 have f:=h.heap;simp only [World.cell?,f] at c;have:u∈(l.map (λx=>Value.int .u8 ((x:Nat):Int))):=by
  have a:=c;simp at a;obtain ⟨x,g,rfl⟩:=a;obtain ⟨d,e⟩:=Va.1 g;exact T7.2 ⟨x,e▸TY d,rfl⟩
 obtain ⟨x,_,rfl⟩:=T7.1 this;exact ⟨λy e=>(by cases e),λs e=>(by cases e)⟩
def aI.bs {m:Nat} (h:aI w b (l++[71,72])) (d:l.length=m) (hl:l.length<=1000000) (e:∀ x∈l,x<256):Bs w (Z5 (ZW ⟨b,0,ZX⟩) m (m+2)) l:=by
 subst d;have:=Bs.Sq (n:=l.length) h (by simp) (by omega) (by intro x c;rcases Uj.1 c with q|q;exact e x q;simp at q;omega);have a:(l++[71,72]).length=l.length+2:=by simp
 rw [a,List.take_left'] at this;exact this;rfl
def M9 {xs:aZ} (a:iU w Q xs) {D nb m:Nat} {xs':aZ} {x:ByteArray} {d:a8} (j:d.length=m) (g:1<=D) (e:D<=6) (i:∀ x∈xs,lh D x) (h:wJ 10 D nb xs x d xs'):(nb:Int)-8<(jr Q D (m:Int):Int):=by
 have f:=E7 g e i (n:=d.length) (nb:=nb) h.full.1 rfl rfl h.full.2;have b:bQ Q (D*44) Q.length=rA D xs:=by unfold bQ;rw [VE];exact a.RL D
 have c:jr Q D (m:Int)=rA D xs+(m/(D*44)+1)+2*((xs.length+1)*200/(D*44)+1):=by
  unfold jr;rw [TT (by omega),VG,b,a.len]
 rw [j] at f;rw [c];omega
def O9 {xs:aZ} (h:iU w Q xs) {x:ByteArray} {d:a8} {o:Ob} (ho:o.name=x) {v:ZS} (hv:Ow w v d):iU w (Q.take (aK (cD Q) x)++(x,v)::Q.drop (aK (cD Q) x)) (xs.ins (o,d)):=by
 unfold aZ.ins;rw [h.names,ho];exact (h.take _).app ⟨⟨ho.symm,hv⟩,h.drop _⟩
theorem Na {xs:aZ} (h:MB w0 w wb D L G nb t xs p r sa ar v Kind ps pg ob P A F out want cache) (hc:Dc KW w r Q xs out want) (o:rH) (dv:ZS) (f:Bs w0 dv o.d) (xd:o.d.length<=100000) (xi:t<1000000) (x9:D<=6) :
 ZR ZN 20 #[Z6 (ZW ⟨wb,0,ZX⟩),.agg #[Z7 Z9 o.kind,Z7 Z9 o.a,Z0 o.s,dv]] w λe w'=>e=Z3 (Z1 ZV)/\MS KW (dZ A) w0 w' wb D L G nb (t+1):=by
 obtain ⟨Z,dc,xe,_⟩:=id f;subst xe;have u:=f.lt;obtain ⟨m,c⟩:=nM (o.d.length);rw [c] at f xd ⊢;obtain ⟨w1,qn⟩:=nM (w.alloc (Z4 #[Z7 Z9 o.kind,Z7 Z9 o.a,Z0 o.s,.slice Z m dc] 41));have C:mb w1 w.heap.size o (.slice Z m dc):=by rw [<- qn];exact UE w _
 have qd:bW w w1:=by rw [<- qn];exact bA w _
 have g:=h.below qd;have M:=hc.keep (iS.below qd _) lR;obtain ⟨O,ky⟩:=nM (w.heap.size);have N:O<w1.heap.size:=by rw [<- ky];exact an.lt C
 have U:ar<O:=by rw [<- ky];exact h.live.arc.lt
 have z:∀ k,F.S k->k<O:=λk hk=>by rw [<- ky];exact h.live.vol.arr.RO hk
 have V:v<O:=by rw [<- ky];exact h.live.vol.vol.lt
 rw [ky] at C;have x3:=C.cells.2.2.2;have qk:=G7 _ o.d w1 (f.mono g.base) (by omega);rw [c] at qk;have H1:=hide10 C g M f u c N U z V;clear C g M f u c N U z V h hc qd;go_enter func20,ntmps20;go_wp2_with fail;clear ky;refine qk.mono ?_;rintro e w2 ⟨rb,rfl,Y,ka,kb⟩;clear qk qn x3;obtain ⟨C,g,M,f,u,c,N,U,z,V⟩:=H1.o;have kp:mb w2 O o (.slice Z m dc):=an.keep C (kb.block _ N);have h2:=g.below kb;have y2:=kp.cells.2.2.1;have s2:=h2.wbA.cells.2.2.2.2.1;have kv:bW w2 w2.drew:=(TW _ w2).drew;have qb:=h2.below kv;have kj:=abh qb.box qb.live xi o.s (ZW ⟨rb,0,ZX⟩) (m+2) o.d (λw' hO=>by
  rw [c];have x8:aI w' rb (o.d++[71,72]):=VA ka (hO.block rb ka.lt (λe=>by have:=z _ e;omega));exact x8.bs c (by omega) u) (by omega)
 rw [c] at kj;have H2:=a7 kp h2 kb ka Y kv;clear C g M f u c N U z V kp h2 kb ka Y kv qb;go_upto_region 2 with fail;go_cut [6] from 12 to 82 (λv6 wx=>dr w2.drew ar v p ps D L G t xs A F (wG D A.nb xs o.s m) (wH D A.nb xs o.s o.d) (Z3 v6) wx)
 case first=>
  go_region_with (go_at_call 38;refine kj.mono ?_;rintro e w3 qh;obtain ⟨rr,_,_,_,_,_,_,rfl,_⟩:=id qh;have H3:=ak qh;clear qh);all_goals (go_wp2_with fail;go_meet;case rel=>exact H3.o)
 case rest=>
  obtain ⟨n,t',xk,qr,P',xs',B,hN,qx,E,qp,H,q1⟩:=M8 hcut;obtain ⟨C,g,M,f,u,c,N,U,z,V⟩:=H1.o;have i:wJ n D A.nb xs o.s o.d xs':=by unfold wJ;rw [c];exact q1
  obtain ⟨kp,h2,kb,ka,Y,kv⟩:=H2.o;have km:=kb.size;have hr:aa (λj=>j=ar\/F.S j) w2 wc:=(aa.RN kv _).trans qp;obtain ⟨h3,qv⟩:=h2.call hr qx E.nb;have kr:mb wc O o (.slice Z m dc):=an.keep kp (hr.block _ (by omega) (λe=>by
   rcases e with e|e
   . omega
   . have:=z _ e;omega))
  have kz:aI wc rb (o.d++[71,72]):=VA ka (hr.block rb ka.lt (λe=>by
   rcases e with e|e
   . omega
   . have:=z _ e;omega))
  have x2:=vM hN h3.gl;have x5:=hr.size;have hz:iS w1.heap.size w1 wc:=(iS.below kb _).trans (qv.mono km);have H3:=hide8 kr h3 kz hz i (TU km x5) E H;clear hN i q1 C g M f u c N U z V kp h2 kb ka Y kv km hr h3 qv kr kz x5 hz qx E H qp kj y2 s2 hcut;go_wp2_with fail;refine x2.mono ?_;rintro e w4 ⟨rfl,ks⟩;clear x2;obtain ⟨C,g,M,f,u,c,N,U,z,V⟩:=H1.o;obtain ⟨kr,h3,kz,hz,i,q8,E,H⟩:=H3.o;have Y:=H2.o.2.2.2.2.1;have y:=h3.below ks;have kf:mb w4 O o (.slice Z m dc):=an.keep kr (ks.block _ (an.lt kr));have ke:aI w4 rb (o.d++[71,72]):=kz.below ks;have qm:=G8 rb _ o.d w4 ke (f.mono y.base) (by omega);rw [c] at qm;have x4:=kf.cells.2.2.2;have H4:=a6 kf y ke (hz.trans (iS.below ks _)) (TU q8 ks.size);clear C g M f u c N U z V kr h3 kz hz i q8 E H Y kf ke y ks;go_wp2_with fail;refine qm.mono ?_;rintro e W ⟨rfl,kx,_⟩;clear qm x4;obtain ⟨C,g,M,f,u,c,N,U,z,V⟩:=H1.o;obtain ⟨kf,y,ke,q4,qo⟩:=H4.o;obtain ⟨_,_,_,_,i,_,E,H⟩:=H3.o;have Y:=H2.o.2.2.2.2.1;have he:∀ j,j≠rb->j<w4.heap.size->W.heap[j]?=w4.heap[j]?:=λj hj hl=>kx.block j hl (λe=>hj (by cases e;rfl));have ko:=kx.size;have qy:=y.live.aside (w':=W) (b:=rb) (B:=w1.heap.size) (JI ke) (by obtain ⟨cs,xc,_⟩:=ke;exact bZ y.live.kit xc pj) ko he Y (λk hk=>by have:=z k hk;omega) (by omega) (by omega) (by have:=g.live.vol.room;exact this);have q6:iS w1.heap.size w4 W:=λT _ j cs hj hq=>he j (by omega) (by omega);have q2:bW w0 W:=y.base.trans ⟨kx.os,kx.tape,kx.output,ko,λj hj=>he j (by have:=g.base.size;omega) (TZ hj y.base.size)⟩;have q7:W.heap[wb]?=w4.heap[wb]?:=he wb (by have:=g.lt;omega) (an.lt y.wbA);have K:MB w0 W wb D L G nb t' xs' p r sa ar v Kind ps xk qr P' B F out want cache:={ y with wbA:=an.keep y.wbA q7,box:=(he sa (by have:=g.box.lt;omega) y.box.lt).trans y.box,live:=qy,base:=q2 };have J:mb W O o (.slice Z m dc):=an.keep kf (he O (by omega) (an.lt kf));have x:=M.keep (q4.trans q6) lR;obtain ⟨xz,y1,x1⟩:=x.ref;have R:Q.length<=1000:=by
   rw [x.rel.len];have:=g.live.Si.1;simpa [aZ.os] using this
  have qs:=yV x1 (by omega) x.rel.sl;have r5:=K.wbA.cells.2.2.2.2.2.1;have H5:=a5 J K x R;clear C g M f u c N U z V kf y ke q4 qo i E H Y he ko qy q6 q2 q7 K J x x1 R kx;go_wp2_with fail;refine qs.mono ?_;rintro e w6 ⟨rfl,⟨u6,kc⟩,hv⟩;clear qs r5;obtain ⟨J,K,x,R⟩:=H5.o;obtain ⟨_,_,_,f,u,c,_,_,_,_⟩:=H1.o;have i:=H3.o.2.2.2.2.1;have h6:=K.below hv;have kg:mb w6 O o (.slice Z m dc):=an.keep J (hv.block _ (an.lt J));have qi:=O8 kc R x.rel x.rel.sl c (f.mono h6.base) i;obtain ⟨_,_,y6,x6⟩:=kg.cells;obtain ⟨q5,kk⟩:=nM (W.heap.size);rw [kk] at qi kc ⊢;have H6:=a6 kg h6 kc hv kk;clear J K x R f u c i h6 kg kc hv kk;go_wp2_with fail;refine qi.mono ?_;rintro e l xh;clear qi y6 x6;obtain ⟨kg,h6,kc,hv,kk⟩:=H6.o;obtain ⟨J,K,x,R⟩:=H5.o;have i:=H3.o.2.2.2.2.1;obtain ⟨E,H⟩:=H3.o.2.2.2.2.2.2;have ki:=E;rcases xh with ⟨n0,xv,rfl,rfl⟩|⟨hn,rfl,u7,xm,qj,qg,qc⟩
  . obtain rfl:=i.none n0;have hy:MS KW (dZ A) w0 l wb D L G nb (t+1):=⟨_,_,_,_,_,_,_,_,_,_,_,_,_,_,_,_,_,_,h6,x.keep (iS.below hv _) lR,H,ki⟩;have HF:=ak hy;clear hy kg h6 kc hv kk J K x R i E H;go_wp2_with fail;refine (od n l).mono ?_;rintro e w8 ⟨rfl,rfl⟩;go_wp2;go_ret;exact ⟨rfl,HF.o⟩
  . have kh:Below W.heap.size w6 l:=qc.below λk hk=>⟨TZ hk hv.size,by omega⟩;have hs:bW W l:=hv.trans kh;have I:=K.below hs;have X:=x.keep (iS.below hs _) lR;rcases hn with rfl|rfl
    . obtain ⟨_,qf,_,_,AH,x0,rfl⟩:=i.some;have u:=H1.o.2.2.2.2.1;have q9:=I.wbA;have r7:=q9.cells.2.2.2.2.2.1;have f7:=an.R3 q9 5;have hN:∀ w8,w8=l.setCell ⟨wb,5,ZX⟩ (Z6 (ZW ⟨q5,0,ZX⟩))->MS KW (dZ A) w0 w8 wb D L G nb (t+1):=by
       rintro w8 rfl;have xa:aa (λj=>j=wb) l (l.setCell ⟨wb,5,ZX⟩ (Z6 (ZW ⟨q5,0,ZX⟩))):=aa.setCell _ _ _ rfl;have xb:jT (l.setCell ⟨wb,5,ZX⟩ (Z6 (ZW ⟨q5,0,ZX⟩))) wb D L G (Z6 (ZW ⟨p,0,ZX⟩)) (Z6 (ZW ⟨sa,0,ZX⟩)) (Z6 (ZW ⟨q5,0,ZX⟩)) nb out want cache:=an.set q9 5 [Z6 (ZW ⟨q5,0,ZX⟩)] (by simp [PF]);obtain ⟨h8,xg⟩:=I.write xa xb;have qe:Dc KW l q5 (Q.take (aK (cD Q) o.s)++(o.s,xm)::Q.drop (aK (cD Q) o.s)) (xs.ins (AH,o.d)) out want:=⟨⟨_,u7,qj⟩,O9 X.rel x0 ⟨⟨_,qg⟩,u,qf⟩,X.ow,X.mks⟩;exact ⟨_,_,_,_,_,_,_,_,_,_,_,_,_,_,_,_,_,_,h8,qe.keep xg lR,H,ki⟩
      have HN:=ak hN;clear hN kg h6 kc hv kk J K x R i E H qj qg qc kh hs I X q9 u x0;go_wp2_with fail;refine (od 0 _).mono ?_;rintro e w8 ⟨rfl,rfl⟩;go_wp2;go_ret;exact ⟨rfl,HN.o _ rfl⟩
    . obtain rfl:=i.none (by decide);have c:=H1.o.2.2.2.2.2.1;have hy:MS KW (dZ A) w0 l wb D L G nb (t+1):=⟨_,_,_,_,_,_,_,_,_,_,_,_,_,_,_,_,_,_,I,X,H,ki⟩;have xf:=M9 X.rel c I.live.vol.par.d1 x9 I.live.disk.fits i;rw [E.nb.symm.trans I.nb] at xf;obtain ⟨c0,_,_,_,_,c5,c6,_⟩:=I.wbA.cells;have qq:mb l O o (.slice Z m dc):=an.keep J (hs.block _ (an.lt J));have x7:=qq.cells.2.2.2;obtain ⟨y0,y3,qa⟩:=X.ref;have qz:∀ k,ZR ZN 29 #[Z6 (ZW ⟨r,0,ZX⟩),Z7 Z9 D,Z7 Z9 m] (l.drewN k) λe w'=>e=Z3 (Z7 Z9 (jr Q D (m:Int):Nat))/\w'=l.drewN k:=λk=>by
       have q3:bW l (l.drewN k):=⟨rfl,rfl,rfl,TV _,λ_ _=>rfl⟩;exact (Eo ⟨(q3.block _ (TX.1 qa.top).1).trans qa.top,ay qa.own q3⟩ R X.rel.sl D I.live.vol.par.d1 (by omega) (m:Int) (by omega) (by omega)).mono λe w' q=>⟨q.2,q.1⟩
      generalize jr Q D (m:Int)=nn at *;have HF:=al hy qz;have xj:IntKind.i64.wrap ((nb:Int)-8)=(nb:Int)-8:=(by rw [UB];have:=I.nb;have:=I.live.nb;omega);clear hy qz kg h6 kc hv kk J K x R i E H qj qg qc kh hs I X c qq qa;go_upto_region 8 with fail;go_quiet ((go_at_call 29;refine abD (HF.o.2 _)));go_wp2;go_ret;obtain ⟨t1,y5,Q1,p1,r1,y4,xp,v1,xq,xy,pg1,xx,P1,A1,F1,xo,xn,hb,hM,hC,hT⟩:=HF.o.1;have q3:bW l (l.drewN nq):=⟨rfl,rfl,rfl,TV _,λ_ _=>rfl⟩;exact ⟨rfl,_,_,_,_,_,_,_,_,_,_,_,_,_,_,_,_,_,_,hM.below q3,hC.keep (iS.below q3 _) lR,hT⟩
structure St0 (KW w0 w w1:ZT) (wb D L G nb t:Nat) (xs:aZ) (Q:List (ByteArray×ZS)) (p r sa ar v:Nat) (Kind:aN->Prop) (ps:aN) (pg ob:ZS) (P:a8) (A:aF) (F:aQ) (out want:ZS) (cache:Int) (o:rH) (dv:ZS):Prop where
 op:mb w1 w.heap.size o dv
 b:MB w0 w1 wb D L G nb t xs p r sa ar v Kind ps pg ob P A F out want cache
 c:Dc KW w1 r Q xs out want
 ar:ar<w.heap.size
 f:∀ k,F.S k->k<w.heap.size
 lt:w.heap.size<w1.heap.size
def Rw {xs:aZ} (h:MB w0 w wb D L G nb t xs p r sa ar v Kind ps pg ob P A F out want cache) (f:Dc KW w r Q xs out want) (o:rH) (b:ZS) {w1:ZT} (e:w.alloc (Z4 #[Z7 Z9 o.kind,Z7 Z9 o.a,Z0 o.s,b] 41)=w1):St0 KW w0 w w1 wb D L G nb t xs Q p r sa ar v Kind ps pg ob P A F out want cache o b:=by
 have d:bW w w1:=by rw [<- e];exact bA w _
 have c:mb w1 w.heap.size o b:=by rw [<- e];exact UE w _
 exact ⟨c,h.below d,f.keep (iS.below d _) lR,h.live.arc.lt,λk g=>h.live.vol.arr.RO g,an.lt c⟩
def MS.mono {C':aF->Prop} {T':Nat} (h:MS KW C w0 w wb D L G nb T) (f:T<=T') (d:∀ A,C A->C' A):MS KW C' w0 w wb D L G nb T':=by
 obtain ⟨t,xs,Q,p,r,sa,ar,v,Kind,ps,pg,ob,P,A,F,out,want,cache,a,b,e,c⟩:=h;exact ⟨t,xs,Q,p,r,sa,ar,v,Kind,ps,pg,ob,P,A,F,out,want,cache,a,b,by omega,d A c⟩
section
section
variable {KW w0 w:ZT} {wb D L G nb t:Nat} {xs:aZ} {Q:List (ByteArray×ZS)} {p r sa ar v:Nat} {Kind:aN->Prop} {ps:aN} {pg ob:ZS} {P:a8} {A:aF} {F:aQ} {out want:ZS} {cache:Int}
theorem JJ (h:MB w0 w wb D L G nb t xs p r sa ar v Kind ps pg ob P A F out want cache) (l:Dc KW w r Q xs out want) (o:rH) (i:ZS) (u:∃ f m g,i=.slice f m g) (n:o.kind<1\/6<o.kind) {C:aF->Prop} (x:C A) :
 ZR ZN 9 #[Z6 (ZW ⟨wb,0,ZX⟩),.agg #[Z7 Z9 o.kind,Z7 Z9 o.a,Z0 o.s,i]] w λe w'=>e=Z3 (Z1 ZV)/\MS KW C w0 w' wb D L G nb (t+1):=by
 obtain ⟨f,m,g,rfl⟩:=u;obtain ⟨kd,j⟩:=nM (o.kind);obtain ⟨w1,k⟩:=nM (w.alloc (Z4 #[Z7 Z9 o.kind,Z7 Z9 o.a,Z0 o.s,.slice f m g] 41));have d:=Rw h l o _ k;obtain ⟨y,K,M,N⟩:=d.op.cells;have q:=ak (show MS KW C w0 w1 wb D L G nb (t+1) from ⟨_,_,_,_,_,_,_,_,_,_,_,_,_,_,_,_,_,_,d.b,d.c,by omega,x⟩);clear d h l;rw [j] at y k n ⊢;have z:¬ kd=1:=by omega
 have B:¬ kd=2:=by omega
 have E:¬ kd=3:=by omega
 have H:¬ kd=4:=by omega
 have I:¬ kd=5:=by omega
 have J:¬ kd=6:=by omega
 clear n j;go_enter func9,ntmps9;go_wp2;go_ret;exact ⟨rfl,q.o⟩
end
end
section
def iS.arr (e:aA w p A F) (f:aa (F.S) w w'):iS B w w':=λT g j cs _ d=>f.block j (TX.1 d).1 (λq=>by
 have b:T≠91/\T≠95/\T≠102/\T≠4:=by
  rcases g with (rfl|rfl|rfl|rfl|rfl)|rfl<;>exact ⟨by decide,by decide,by decide,by decide⟩
 obtain ⟨cs',T',c,h⟩:=e.kind q;rw [d] at c;simp only [UF,U1] at c;have a:=c.2.1;rcases h with k|k|k|k
 . exact b.1 (a.trans k)
 . exact b.2.1 (a.trans k)
 . exact b.2.2.1 (a.trans k)
 . exact b.2.2.2 (a.trans k))
def yZ {a r:ZS} (f:jT w wb D L G a s r nb out want cache) (c:aa (λj=>j=wb) w w'):iS w.heap.size w w':=λT d j cs hl b=>c.block j hl (λe=>by
 have g:w.heap[wb]?=ZW (Z4 _ 56 (0,0)):=f;subst e;rw [g] at b;simp only [UF,U1] at b;have e:=b.2.1;rcases d with (q|q|q|q|q)|q<;>exact absurd (e.trans q) (by decide))
structure AB (w0 w:ZT) (wb D L G nb t p r:Nat) (s:ZS) (xs:aZ) (A:aF) (F:aQ) (out want:ZS) (cache kc:Int):Prop where
 wbA:jT w wb D L G (Z6 (ZW ⟨p,0,ZX⟩)) s (Z6 (ZW ⟨r,0,ZX⟩)) nb out want cache
 sp:∃ o,s=.pointer o
 opn:JD w p D L G t kc xs A F
 nb:A.nb=nb
 base:bW w0 w
 glob:bN w0
 hK:3<=w0.heap.size
 wbB:w0.heap.size<=wb
 fB:∀ k,F.S k->w0.heap.size<=k
def AB.wbF {xs:aZ} (h:AB w0 w wb D L G nb t p r s xs A F out want cache kc):¬ F.S wb:=λq=>by
 have c:w.heap[wb]?=ZW (Z4 _ 56 (0,0)):=h.wbA;obtain ⟨cs,T,a,d⟩:=h.opn.arr.kind q;rw [c] at a;simp only [UF,U1] at a;have b:=a.2.1;rcases d with k|k|k|k<;>exact absurd (b.trans k) (by decide)
def Pa {w3 w4 w2:ZT} {xs:aZ} (h:AB w0 w3 wb D L G nb t p r s xs A F out want cache kc) (J:Dc KW w3 r Q xs out want) (y:bW w3 w4) (E:M5 w4 p D L G t kc xs A F e w2):w2.heap[wb]?=w3.heap[wb]?/\bN w2/\∃ sa,e=Z3 (ZZ #[Z6 (ZW ⟨sa,0,ZX⟩),.nilIface])/\∀ a,bW w2 a->MS KW (dZ A) w0 (a.setCell ⟨wb,4,ZX⟩ (Z6 (ZW ⟨sa,0,ZX⟩))) wb D L G nb t:=by
 have f:aa F.S w3 w2:=(aa.RN y _).trans E.out;have C:=an.lt h.wbA;have z:=h.wbF;have l:=f.block _ C z;have N:=J.keep (iS.arr (B:=w3.heap.size) h.opn.arr f) lR;have:=y.size;have g:bW w0 w2:=h.base.trans (f.below λk b=>⟨TZ b h.base.size,λq=>by have:=h.fB k q;omega⟩);obtain ⟨sa,ar,K,hs,o,v,sb,ps,pg,ob,P,B,hl,w,b,hv,V,i⟩:=E.ans;refine ⟨l,h.glob.below g,sa,K,λa c=>?_⟩;have n:jT a wb D L G (Z6 (ZW ⟨p,0,ZX⟩)) s (Z6 (ZW ⟨r,0,ZX⟩)) nb out want cache:=an.keep h.wbA ((c.block _ (TZ C f.size)).trans l);have d:aa (λj=>j=wb) a (a.setCell ⟨wb,4,ZX⟩ (Z6 (ZW ⟨sa,0,ZX⟩))):=aa.setCell _ _ _ rfl;have M:jT (a.setCell ⟨wb,4,ZX⟩ (Z6 (ZW ⟨sa,0,ZX⟩))) wb D L G (Z6 (ZW ⟨p,0,ZX⟩)) (Z6 (ZW ⟨sa,0,ZX⟩)) (Z6 (ZW ⟨r,0,ZX⟩)) nb out want cache:=an.set n 4 [Z6 (ZW ⟨sa,0,ZX⟩)] (by simp [PF]);have u:iS a.heap.size a (a.setCell ⟨wb,4,ZX⟩ (Z6 (ZW ⟨sa,0,ZX⟩))):=yZ n d;have:=h.base.size;have I:ZO a sa 108 (Z6 (ZW ⟨ar,0,ZX⟩)):=(c.block _ o.lt).trans o;have R:=(hl.below c).other d.size (λj O T=>d.block j T O) (by omega) (by omega) z (TU h.hK h.wbB) (λq=>by have:=i _ q;omega);have m:bW w0 a:=g.trans (c.mono g.size);exact ⟨_,_,_,_,_,_,_,_,m8 sb kc D L G,ps,_,_,_,B,F,_,_,_,⟨M,u.SJ.box I lR,R,w.nb.trans h.nb,m.trans (d.below λk b=>⟨TZ b m.size,λq=>by have:=h.wbB;omega⟩),h.glob,h.hK,h.wbB,by omega,h.fB,by omega,λk q=>by have:=i k q;omega,⟨yU h.opn.par,λps x b=>by
  obtain ⟨H,U,ho,rfl⟩:=b;exact ⟨H,U,x,rfl⟩,GM,b⟩,λq=>by have:=i _ q;omega⟩,(N.keep (iS.below c _) lR).keep u lR,TV _,w⟩
def Dv {xs:aZ} (h:AB w0 w wb D L G nb t p r s xs A F out want cache cache) (i:Dc KW w r Q xs out want) :
 ZR ZN 15 #[Z6 (ZW ⟨wb,0,ZX⟩)] w λe w'=>e=Z3 (Z1 ZV)/\MS KW (dZ A) w0 w' wb D L G nb t:=by
 have c:bW w w.drew:=(TW _ w).drew;refine (JH h.wbA h.sp (λsa w2=>w2.heap[wb]?=w.heap[wb]?/\∀ d,bW w2 d->MS KW (dZ A) w0 (d.setCell ⟨wb,4,ZX⟩ (Z6 (ZW ⟨sa,0,ZX⟩))) wb D L G nb t) (λ_ _ q=>q.1) ((JE (h.opn.below c)).mono λe w2 j=>?_)).mono ?_
 . obtain ⟨hs,_,sa,b,a⟩:=Pa h i c j;exact ⟨sa,b,hs,a⟩
 . rintro e w' ⟨b,sa,w2,k,⟨_,a⟩,g,_,rfl⟩;exact ⟨b,(a _ g).mono lR λB f=>f⟩
section
variable {KW w0 w:ZT} {wb D L G nb t:Nat} {xs:aZ} {Q:List (ByteArray×ZS)} {p r sa ar v:Nat} {Kind:aN->Prop} {ps:aN} {pg ob:ZS} {P:a8} {A:aF} {F:aQ} {out want:ZS} {cache:Int}
theorem JK (h:MB w0 w wb D L G nb t xs p r sa ar v Kind ps pg ob P A F out want cache) (V:Dc KW w r Q xs out want) (h7:8<=A.nb) (o:rH) (R:ZS) (hq:∃ C m H,R=.slice C m H) (g:o.kind=5) :
 ZR ZN 9 #[Z6 (ZW ⟨wb,0,ZX⟩),.agg #[Z7 Z9 o.kind,Z7 Z9 o.a,Z0 o.s,R]] w λe w'=>e=Z3 (Z1 ZV)/\MS KW (dZ A) w0 w' wb D L G nb (t+1):=by
 obtain ⟨C,m,H,rfl⟩:=hq;obtain ⟨kc,hs,B⟩:=ik o.a 65 (by decide) (by decide);have T:wrap64 ((IntKind.u64.wrap o.a).tmod 65)=(kc:Int):=by simpa using B
 clear B;obtain ⟨w1,M⟩:=nM (w.alloc (Z4 #[Z7 Z9 o.kind,Z7 Z9 o.a,Z0 o.s,.slice C m H] 41));have f:=Rw h V o _ M;have hm:=Dd f.b.live.vol.arr f.b.live.n0;obtain ⟨O,x1,x2,x3⟩:=f.op.cells;have a1:=f.b.wbA.cells.2.2.2.1;obtain ⟨q0,x⟩:=nM (w.heap.size);have HS:=al f x;clear f h V;rw [g] at O M ⊢;rw [x] at O x1 x2 x3;clear g;go_enter func9,ntmps9;go_wp2_with fail;clear x M O x1 x2 x3;refine hm.mono ?_;rintro e w2 ⟨E,rfl,u,I,z⟩;clear hm a1;obtain ⟨f,x⟩:=HS.o;have l:jT w2 wb D L G (Z6 (ZW ⟨p,0,ZX⟩)) (Z6 (ZW ⟨sa,0,ZX⟩)) (Z6 (ZW ⟨r,0,ZX⟩)) nb out want cache:=an.keep f.b.wbA (u.block _ (an.lt f.b.wbA));obtain ⟨_,_,_,c3,_,_,_,_,_,c9⟩:=l.cells;have f3:=an.R3 l 3;have f9:=an.R3 l 9;have X:mb w2 q0 o (.slice C m H):=by rw [<- x];exact an.keep f.op (u.block _ f.lt)
 have y1:=X.cells.2.1;obtain ⟨c,hj⟩:=nM (w1.heap.size);rw [hj] at I z ⊢;have ha:wb<w1.heap.size:=an.lt f.b.wbA;obtain ⟨J,N⟩:=nM ((w2.setCell ⟨wb,3,ZX⟩ (Z6 (ZW ⟨c,0,ZX⟩))).setCell ⟨wb,9,ZX⟩ (Z7 Z9 (kc:Nat)));have i:aa (λj=>j=wb) w2 J:=by rw [<- N];exact (aa.setCell (S:=λj=>j=wb) w2 ⟨wb,3,ZX⟩ _ rfl).trans (aa.setCell (S:=λj=>j=wb) _ ⟨wb,9,ZX⟩ _ rfl)
 have Y:jT J wb D L G (Z6 (ZW ⟨c,0,ZX⟩)) (Z6 (ZW ⟨sa,0,ZX⟩)) (Z6 (ZW ⟨r,0,ZX⟩)) nb out want (kc:Int):=by
  rw [<- N];exact an.set (an.set l 3 [Z6 (ZW ⟨c,0,ZX⟩)] (by simp [PF])) 9 [Z7 Z9 (kc:Nat)] (by simp [PF])
 have W:aA J c A E:=I.keep λk g=>i.block k (I.RO g) (λe=>by have:=z k g;omega);have d:=f.b;have hi:=d.base.size;have hr:=TU d.hK d.wbB;have K:bW w0 w2:=d.base.trans (u.mono hi);have y:=d.live.vol.below u lR;have Z:AB w0 J wb D L G nb t c r (Z6 (ZW ⟨sa,0,ZX⟩)) xs A E out want (kc:Int) (kc:Int):=⟨Y,⟨_,rfl⟩,⟨W,d.live.vol.n,d.live.vol.par,by omega,by omega,h7,d.live.nb,y.laid.keep (i.block _ y.laid.lt (by omega)),y.tab.keep (i.block _ y.tab.lt (by omega)),TU y.room i.size,λq=>by have:=z _ q;have:=d.hK;omega,λq=>by have:=z _ q;have:=d.hK;omega,.inr ⟨d.live.turn,P,d.live.disk⟩,d.live.fine⟩,d.nb,K.trans (i.below λk g=>⟨by have:=K.size;omega,λq=>by have:=d.wbB;omega⟩),d.glob,d.hK,d.wbB,λk g=>by have:=z k g;omega⟩;have hn:=(f.c.keep (iS.below u _) lR).keep (yZ l i) lR;have hp:=Dv Z hn;clear f x u I z l X hj ha i Y W d hi K Z hn y hr;go_wp2_with fail;clear N;refine hp.mono ?_;rintro e w4 ⟨rfl,U⟩;have H4:=ak U;clear U hp;go_wp2;go_ret;exact ⟨rfl,H4.o.mono (by omega) λ_ q=>q⟩
end
end
theorem JL (h:zB D L G) (k6:8<=nb) (Y:nb<=1000) (c:Int) (X:bN w) (hv:bh w) (O:aG w) (hK:3<=w.heap.size) :
 ZR ZN 7 #[.agg #[Z7 Z9 (D:Nat),Z7 Z9 (L:Nat),Z7 Z9 (G:Nat)],Z7 Z9 (nb:Nat),Z7 Z9 c] w λe w'=>∃ wb,e=Z3 (ZZ #[Z6 (ZW ⟨wb,0,ZX⟩),Z1 ZV])/\MS w (dZ (ub (D+L+G) nb)) w w' wb D L G nb 1:=by
 obtain ⟨kc,k7,v⟩:=ik c 65 (by decide) (by decide);have I:wrap64 ((IntKind.u64.wrap c).tmod 65)=(kc:Int):=by simpa using v
 clear v;obtain ⟨w1,H⟩:=nM (w.alloc (Z4 #[Z7 Z9 (D:Nat),Z7 Z9 (L:Nat),Z7 Z9 (G:Nat)] 27));have x:an w1 w.heap.size 27 [Z7 Z9 (D:Nat),Z7 Z9 (L:Nat),Z7 Z9 (G:Nat)]:=by rw [<- H];exact UE w _
 have x0:=x.cell (j:=0) (u:=Z7 Z9 (D:Nat)) rfl;have x1:=x.cell (j:=1) (u:=Z7 Z9 (L:Nat)) rfl;have x2:=x.cell (j:=2) (u:=Z7 Z9 (G:Nat)) rfl;have hs:bW w w1:=by rw [<- H];exact bA w _
 have S:=yY (D:Int) (L:Int) (G:Int) w1 ⟨by omega,by have:=h.d;omega⟩ ⟨by omega,by have:=h.l4;omega⟩ ⟨by omega,by have:=h.g;omega⟩;have t:=al x hs;clear x hs;go_enter func7,ntmps7;go_wp2_with fail;refine S.mono ?_;rintro e w2 ⟨rfl,T⟩;have B:bW w1 w2:=by rw [T];exact bA w1 _
 clear T H x0 x1 x2 S;have E:=zR (D+L+G) nb w2 (by have:=h.d1;omega) (by have:=h.s;omega) (by omega);rw [show ((D+L+G:Nat):Int)=(D:Int)+(L:Int)+(G:Int) by omega] at E;go_wp2_with fail;refine E.mono ?_;rintro e a ⟨rfl,r,F,n,f⟩;have i:bW w w2:=t.o.2.trans (B.mono t.o.2.size);have l:bW w a:=i.trans (r.mono i.size);have A:an a w.heap.size 27 _:=t.o.1.keep ((r.block _ (TZ t.o.1.lt B.size)).trans (B.block _ t.o.1.lt));have y0:=A.cell (j:=0) (u:=Z7 Z9 (D:Nat)) rfl;have y1:=A.cell (j:=1) (u:=Z7 Z9 (L:Nat)) rfl;have y2:=A.cell (j:=2) (u:=Z7 Z9 (G:Nat)) rfl;obtain ⟨p,z⟩:=nM (w2.heap.size);rw [z] at n f ⊢;have U:=a7 n f l r z i;clear n f l r z i A E B;dsimp only;go_wp2_with fail;obtain ⟨b,y⟩:=nM ((a.alloc (Z4 #[Z5 ZX 0 0] 53)).alloc (Z4 #[Z7 Z9 (D:Nat),Z7 Z9 (L:Nat),Z7 Z9 (G:Nat),Z6 (ZW ⟨p,0,ZX⟩),.pointer ZX,Z6 (ZW ⟨a.heap.size,0,ZX⟩),Z7 Z9 (nb:Nat),Z5 ZX 0 0,Z5 ZX 0 0,Z7 Z9 (kc:Nat)] 56));have R:b.heap[a.heap.size]?=ZW (Z4 #[Z5 ZX 0 0] 53 (0,0)):=by rw [<- y];exact (UC _ _ _ (by simp)).trans (UE a _)
 have M:jT b (a.heap.size+1) D L G (Z6 (ZW ⟨p,0,ZX⟩)) (.pointer ZX) (Z6 (ZW ⟨a.heap.size,0,ZX⟩)) nb (Z5 ZX 0 0) (Z5 ZX 0 0) (kc:Int):=by
  rw [<- y];have:=UE (a.alloc (Z4 #[Z5 ZX 0 0] 53)) (Z4 #[Z7 Z9 (D:Nat),Z7 Z9 (L:Nat),Z7 Z9 (G:Nat),Z6 (ZW ⟨p,0,ZX⟩),.pointer ZX,Z6 (ZW ⟨a.heap.size,0,ZX⟩),Z7 Z9 (nb:Nat),Z5 ZX 0 0,Z5 ZX 0 0,Z7 Z9 (kc:Nat)] 56);rw [Uq] at this;exact this
 have C:bW a b:=by rw [<- y];exact (bA a _).alloc (by simp) _
 obtain ⟨n,f,l,r,z,i⟩:=U.o;have m:bW w b:=l.trans (C.mono l.size);have W:bW b b.drew:=(TW _ b).drew;have Z:=i.size;have hm:=l.size;have J:aA b p (ub (D+L+G) nb) F:=n.below C lR;have N:AB w b (a.heap.size+1) D L G nb 1 p a.heap.size (.pointer ZX) [] (ub (D+L+G) nb) F (Z5 ZX 0 0) (Z5 ZX 0 0) (kc:Int) (kc:Int):=⟨M,⟨_,rfl⟩,⟨J,rfl,h,by omega,by omega,k6,Y,hv.below m hv.lt,O.keep (m.block _ O.lt),TU hK m.size,λq=>by have:=f _ q;omega,λq=>by have:=f _ q;omega,.inl ⟨rfl,rfl,λ_ _=>rfl,λ_ _=>rfl⟩,aF.clean.fine (λ_ _=>rfl) h.d h.g⟩,rfl,m,X,hK,by omega,λk hk=>by have:=f k hk;omega⟩;have P:Dc w b a.heap.size [] [] (Z5 ZX 0 0) (Z5 ZX 0 0):=⟨⟨a.heap.size+1,Z5 ZX 0 0,R,UN _ _ _ _⟩,trivial,⟨⟨_,_,_,rfl,by decide⟩,⟨_,_,_,rfl,by decide⟩⟩,λk _ q=>m.block k (TX.1 q).1⟩;have Q:=Dv N P;clear R M C n f l r z i m W Z hm J N P;rw [y];refine Q.mono ?_;rintro e w6 ⟨rfl,K⟩;have V:=ak K;clear K Q y;dsimp only;go_wp2;go_ret2;exact ⟨_,rfl,V.o⟩
section
def aaQ (n:Int) (xs:aZ) (x:ByteArray) (xs':aZ):Prop:=(n=0/\Ds xs x xs')\/(xs'=xs/\wI xs x n)
def Rx {n0:Nat} {n:Int} {xs:aZ} (l:rQ w q rb rv Q) (h:aaJ w q Q x e w') (s:aaQ n xs x xs') (f:iU wx Q xs) (m:Up xs.names) (t:n0<=q) (y:n0<=w.heap.size) :
 e=Z3 (Z7 Z9 n)/\Below n0 w w'/\n≠10/\∃ i,(∃ rb rv,rQ w' q rb rv i)/\∀ g,iU g Q xs->iU g i xs':=by
 have r:=nG f x;have c:=kX x;rcases s with ⟨rfl,a,d,rfl⟩|⟨rfl,⟨a,rfl⟩|⟨a,d,rfl⟩⟩
 . rcases h with ⟨q,_⟩|⟨_,q,_⟩|⟨_,k,q,b,⟨u,p⟩,o⟩
   . exact absurd (c.2 a) q
   . exact absurd d (r.1 q)
   . refine ⟨b,o.below λj v=>⟨by omega,by omega⟩,by decide,_,⟨_,u,p⟩,λg z=>?_⟩;rw [(kY f m q).1];exact (z.take k).app (z.drop (k+1))
 . rcases h with ⟨_,b,rfl⟩|⟨q,_⟩|⟨q,_⟩
   . exact ⟨b,TW _ _,by decide,Q,⟨_,_,l⟩,λ_ z=>z⟩
   . rw [c,a] at q;cases q
   . rw [c,a] at q;cases q
 . rcases h with ⟨q,_⟩|⟨_,_,b,rfl⟩|⟨_,k,q,_⟩
   . exact absurd (c.2 a) q
   . exact ⟨b,TW _ _,by decide,Q,⟨_,_,l⟩,λ_ z=>z⟩
   . exact absurd (kY f m q).2.2 d
section
variable {KW w0 w:ZT} {wb D L G nb t:Nat} {xs:aZ} {Q:List (ByteArray×ZS)} {p r sa ar v:Nat} {Kind:aN->Prop} {ps:aN} {pg ob:ZS} {P:a8} {A:aF} {F:aQ} {out want:ZS} {cache:Int}
theorem Nb (h:MB w0 w wb D L G nb t xs p r sa ar v Kind ps pg ob P A F out want cache) (hc:Dc KW w r Q xs out want) (o:rH) (dv:ZS) (kj:∃ x m y,dv=.slice x m y) (kp:t<1000000) (hk:o.kind=3) :
 ZR ZN 9 #[Z6 (ZW ⟨wb,0,ZX⟩),.agg #[Z7 Z9 o.kind,Z7 Z9 o.a,Z0 o.s,dv]] w λe w'=>e=Z3 (Z1 ZV)/\MS KW (dZ A) w0 w' wb D L G nb (t+1):=by
 obtain ⟨x,m,y,rfl⟩:=kj;obtain ⟨w1,k5⟩:=nM (w.alloc (Z4 #[Z7 Z9 o.kind,Z7 Z9 o.a,Z0 o.s,.slice x m y] 41));have d:=Rw h hc o _ k5;have M:bW w1 w1.drew:=(TW _ w1).drew;have Y:=d.b.below M;have hp:=O7 Y.box Y.live kp o.s;obtain ⟨x0,x1,x2,x3⟩:=d.op.cells;have s1:=d.b.wbA.cells.2.2.2.2.1;obtain ⟨q0,H⟩:=nM (w.heap.size);have HS:=al d H;clear d h hc M Y;rw [hk] at x0 k5 ⊢;rw [H] at x0 x1 x2 x3;clear hk;go_enter func9,ntmps9;go_upto_region 13 with fail;clear H k5 x0 x1 x3;go_cut [11] from 21 to 233 (λv11 wx=>dr w1.drew ar v p ps D L G t xs A F (wI xs o.s) (Ds xs o.s) (Z3 v11) wx)
 case first=>
  go_region_with (go_at_call 26;refine hp.mono ?_;rintro e w2 Z;obtain ⟨rr,_,_,_,_,_,_,rfl,_⟩:=id Z;have i:=ak Z;clear Z);all_goals (go_wp2_with fail;go_meet;case rel=>exact i.o)
 case rest=>
  obtain ⟨n,t',hd,hb,P',xs',B,hN,ke,W,k6,kg,J⟩:=M8 hcut;change aaQ n xs o.s xs' at J;obtain ⟨d,H⟩:=HS.o;have M:bW w1 w1.drew:=(TW _ w1).drew;have V:aa (λj=>j=ar\/F.S j) w1 wc:=(aa.RN M _).trans k6;obtain ⟨z,kc⟩:=d.b.call V ke W.nb;have E:=d.c.keep kc lR;have R:=d.b.live.disk.up;have K:Q.length<=1000000:=by
   rw [E.rel.len];have:=d.b.live.Si.1;have e:xs.os.length=xs.length:=(by simp [aZ.os]);omega
  have C:mb wc q0 o (.slice x m y):=by
   rw [<- H];exact an.keep d.op (V.block _ d.lt (λe=>by
    rcases e with e|e
    . have:=d.ar;omega
    . have:=d.f _ e;omega))
  have kh:=vM hN z.gl;have i:=hide8 z E C J R K W kg;clear d H M V z kc E C hN J R K ke W kg k6 hp x2 s1 hcut;go_wp2_with fail;refine kh.mono ?_;rintro e w3 ⟨rfl,hs⟩;clear kh;obtain ⟨z,E,C,J,R,K,_⟩:=i.o;have l:=z.below hs;have g:=E.keep (iS.below hs _) lR;have k:mb w3 q0 o (.slice x m y):=an.keep C (hs.block _ (an.lt C));obtain ⟨kr,ks,kf⟩:=g.ref;have ka:=yV kf K g.rel.sl;have r3:=l.wbA.cells.2.2.2.2.2.1;have H3:=aE l g k;clear z E C J R K l g k kf hs;go_wp2_with fail;refine ka.mono ?_;rintro e w4 ⟨rfl,⟨u4,u⟩,q⟩;clear ka r3;obtain ⟨l,g,k⟩:=H3.o;have k0:=Dk u i.o.2.2.2.2.2.1 g.rel.sl o.s;have k7:mb w4 q0 o (.slice x m y):=an.keep k (q.block _ (an.lt k));have y4:=k7.cells.2.2.1;obtain ⟨N,I⟩:=nM (w3.heap.size);rw [I] at k0 u ⊢;have H4:=aE u q I;clear l g k k7 u q I;go_wp2_with fail;refine k0.mono ?_;rintro e T kb;clear k0 y4;obtain ⟨u,q,I⟩:=H4.o;obtain ⟨l,g,k⟩:=H3.o;obtain ⟨kk,k9,ko,Q',k8,h4⟩:=Rx u kb i.o.2.2.2.1 g.rel i.o.2.2.2.2.1 (Nat.le_of_eq I) q.size;subst kk;have X:bW w3 T:=q.trans k9;have U:=l.below X;have hv:=g.keep (iS.below X _) lR;have O:=U.wbA;have r5:=O.cells.2.2.2.2.2.1;have f5:=an.R3 O 5;have hq:MS KW (dZ A) w0 (T.setCell ⟨wb,5,ZX⟩ (Z6 (ZW ⟨N,0,ZX⟩))) wb D L G nb (t+1):=by
   have hW:jT (T.setCell ⟨wb,5,ZX⟩ (Z6 (ZW ⟨N,0,ZX⟩))) wb D L G (Z6 (ZW ⟨p,0,ZX⟩)) (Z6 (ZW ⟨sa,0,ZX⟩)) (Z6 (ZW ⟨N,0,ZX⟩)) nb out want cache:=an.set O 5 [Z6 (ZW ⟨N,0,ZX⟩)] (by simp [PF]);obtain ⟨h6,km⟩:=U.write (aa.setCell (S:=λj=>j=wb) _ ⟨wb,5,ZX⟩ _ rfl) hW;have ki:Dc KW T N Q' xs' out want:=⟨k8,h4 _ hv.rel,hv.ow,hv.mks⟩;exact ⟨_,_,_,_,_,_,_,_,_,_,_,_,_,_,_,_,_,_,h6,ki.keep km lR,i.o.2.2.2.2.2.2.2,i.o.2.2.2.2.2.2.1⟩
  have HF:=ak hq;clear hq u q I l g k k9 k8 h4 X U hv O kb;go_wp2_with fail;refine (od _ _).mono ?_;rintro e w8 ⟨rfl,rfl⟩;go_wp2;go_ret;exact ⟨rfl,HF.o⟩
end
end
section
def Dw {xs:aZ} (b:∀ x∈xs,lh D x) {X:Ob×a8} (a:X∈xs):b9 X.1.name=ZV:=by
 have:=(b X a).fit.name;unfold b9;exact UZ this
def Nc {xs:aZ} (a:X∈xs):X.1.name∈xs.names:=T7.2 ⟨X.1,T7.2 ⟨X,a,rfl⟩,rfl⟩
def Nd {xs:aZ} (h:x∈xs.names):∃ X∈xs,X.1.name=x:=by
 obtain ⟨o,ho,e⟩:=T7.1 h;obtain ⟨X,a,rfl⟩:=T7.1 ho;exact ⟨X,a,e⟩
def Pb {xs:aZ} (a:iU wx Q xs) (i:Up xs.names) (p:∀ x∈xs,lh D x) (f:X∈xs):∃ c,(∀ e,Qt Q X.1.name e->e=Z3 (ZZ #[c,Z7 Z9 0]))/\Ow wx c X.2:=by
 have r:=nG a X.1.name;obtain ⟨b,h,g⟩:=UT f;have d:b<Q.length:=by rw [a.len];exact h
 obtain ⟨t,j⟩:=a.at b d h;rw [g] at t j;refine ⟨Q[b].2,λe o=>?_,j⟩;rcases o with ⟨q,_⟩|⟨_,q,_⟩|⟨_,k,q,l⟩
 . exact absurd ((kX _).2 (Dw p f)) q
 . exact absurd (Nc f) (r.1 q)
 . have s:=(kY a i q).1;have hl:b<xs.names.length:=(by rw [<- a.names];unfold cD;rw [T9];exact d);have n:=ig i hl (x:=X.1.name) (by rw [<- g];simp [aZ.names,aS,aZ.os]);have m:k=b:=s.symm.trans n;subst m;rw [l,T6,Ua d];rfl
def Ry {base:Nat} {xs:aZ} (v:vH xs x base u rr wx) (r:iU wx Q xs) (s:Up xs.names) (j:∀ x∈xs,lh D x) :
 ∃ n c l,isN rr n/\(∀ e,Qt Q x e->e=Z3 (ZZ #[c,Z7 Z9 n]))/\Ow wx u l/\Ow wx c l/\(n=0\/(n≠0/\u=Z5 ZX 0 0/\x∉xs.names)):=by
 have m:=kX x;rcases v with ⟨d,⟨b,a⟩|⟨b,a,o⟩⟩|⟨b,a,X,f,w,ho⟩
 . refine ⟨6,Z5 ZX 0 0,[],.inl b,λe i=>?_,d▸Ow.nil _,Ow.nil _,.inr ⟨by decide,d,λq=>?_⟩⟩
   . rcases i with ⟨_,g⟩|⟨q,_⟩|⟨q,_⟩
     . exact g
     . rw [m,a] at q;cases q
     . rw [m,a] at q;cases q
   . obtain ⟨X,f,e⟩:=Nd q;have:=Dw j f;rw [e,a] at this;cases this
 . refine ⟨9,Z5 ZX 0 0,[],.inl b,λe i=>?_,d▸Ow.nil _,Ow.nil _,.inr ⟨by decide,d,o⟩⟩;rcases i with ⟨q,_⟩|⟨_,_,g⟩|⟨_,k,q,_⟩
   . exact absurd (m.2 a) q
   . exact g
   . exact absurd (kY r s q).2.2 o
 . obtain ⟨c,p,t⟩:=Pb r s j f;have h:=j _ f;rw [w] at p;exact ⟨0,c,X.2,.inr ⟨b,rfl⟩,p,⟨⟨base,ho⟩,h.byt,by rw [h.len];exact h.fit.size⟩,t,.inl rfl⟩
def aaR:¬ jS 41:=by unfold jS;decide
section
variable {KW w0 w:ZT} {wb D L G nb t:Nat} {xs:aZ} {Q:List (ByteArray×ZS)} {p r sa ar v:Nat} {Kind:aN->Prop} {ps:aN} {pg ob:ZS} {P:a8} {A:aF} {F:aQ} {out want:ZS} {cache:Int}
theorem Nf (h:MB w0 w wb D L G nb t xs p r sa ar v Kind ps pg ob P A F out want cache) (n:Dc KW w r Q xs out want) (o:rH) (j:ZS) (g:Bs w0 j o.d) (B:o.d.length<=100000) (E:t<1000000) (z:D<=6) (H:o.kind=1) :
 ZR ZN 9 #[Z6 (ZW ⟨wb,0,ZX⟩),.agg #[Z7 Z9 o.kind,Z7 Z9 o.a,Z0 o.s,j]] w λe w'=>e=Z3 (Z1 ZV)/\MS KW (dZ A) w0 w' wb D L G nb (t+1):=by
 obtain ⟨x,y,C,_⟩:=id g;subst C;obtain ⟨m,q⟩:=nM (o.d.length);rw [q] at g ⊢;obtain ⟨w1,l⟩:=nM (w.alloc (Z4 #[Z7 Z9 o.kind,Z7 Z9 o.a,Z0 o.s,.slice x m y] 41));have f:=Rw h n o _ l;have i:=Na f.b f.c o _ g B E z;obtain ⟨I,J,K,M⟩:=f.op.cells;clear f h n g q;rw [H] at I l i ⊢;go_enter func9,ntmps9;go_wp2_with fail;refine i.mono ?_;rintro e w2 ⟨rfl,k⟩;have u:=ak k;clear k i;go_wp2;go_ret;exact ⟨rfl,u.o⟩
theorem Dx (h:MB w0 w wb D L G nb t xs p r sa ar v Kind ps pg ob P A F out want cache) (hc:Dc KW w r Q xs out want) (o:rH) (dv:ZS) (kv:∃ U m V,dv=.slice U m V) (hk:o.kind=2) :
 ZR ZN 9 #[Z6 (ZW ⟨wb,0,ZX⟩),.agg #[Z7 Z9 o.kind,Z7 Z9 o.a,Z0 o.s,dv]] w λe w'=>e=Z3 (Z1 ZV)/\MS KW (dZ A) w0 w' wb D L G nb (t+1):=by
 obtain ⟨U,m,V,rfl⟩:=kv;obtain ⟨w1,k9⟩:=nM (w.alloc (Z4 #[Z7 Z9 o.kind,Z7 Z9 o.a,Z0 o.s,.slice U m V] 41));have d:=Rw h hc o _ k9;have hp:bW w1 w1.drew:=(TW _ w1).drew;have W:=d.b.below hp;have hx:=abj W.box W.live o.s λwx kp=>OT (W.live.below kp) W.shv o.s;obtain ⟨x0,x1,x2,x3⟩:=d.op.cells;have s1:=d.b.wbA.cells.2.2.2.2.1;obtain ⟨q0,M⟩:=nM (w.heap.size);have HS:=al d M;clear d h hc hp W;rw [hk] at x0 k9 ⊢;rw [M] at x0 x1 x2 x3;clear hk;go_enter func9,ntmps9;go_upto_region 5 with fail;clear M k9 x0 x1 x3;go_cut [5,6] from 21 to 233 (λv5 v6 wx=>FJ w1.drew ar v p Kind ps D L G t xs A F o.s (Z3 (ZZ #[v5,v6])) wx)
 case first=>
  go_region_with (go_at_call 21;refine hx.mono ?_;rintro e w2 k8;obtain ⟨uu,rr,_,_,_,_,rfl,_⟩:=id k8;have T:=ak k8;clear k8);all_goals (go_wp2_with fail;go_meet;case rel=>exact T.o)
 case rest=>
  obtain ⟨u,rr,ps',hd,hb,P',he,⟨kg,k6,hq⟩,ka,ke⟩:=hcut;cases he;obtain ⟨d,M⟩:=HS.o;have hp:bW w1 w1.drew:=(TW _ w1).drew;have ha:aa (λj=>j=ar\/F.S j\/j=v\/ps.bl j) w1 wc:=(aa.RN hp _).trans ka;obtain ⟨g,kf⟩:=d.b.Tu ha kg rfl k6 hq;have i:=d.c.keep kf lR;have z:mb wc q0 o (.slice U m V):=by
   rw [<- M];exact an.keep d.op (ha.block _ d.lt (λe=>by
    rcases e with e|e|e|e
    . have:=d.ar;omega
    . have:=d.f _ e;omega
    . have:=d.ar;have:=d.b.live.vlt;omega
    . exact bZ d.b.live.kit d.op aaR e))
  obtain ⟨n,cv,l,hN,B,y,x,C⟩:=Ry ke i.rel g.live.disk.up g.live.disk.fits;have kj:=vM hN g.gl;obtain ⟨⟨N,R,O,hu,_⟩,_⟩:=y.sl;obtain ⟨⟨E,I,H,ks,_⟩,_⟩:=x.sl;subst hu ks;have T:=hide7 g i z B y x C;clear k6 hq d M hp ha g kf i z hN B y x C kg ka ke hx x2 s1;go_wp2_with fail;refine kj.mono ?_;rintro e J ⟨rfl,Y⟩;clear kj;obtain ⟨g,i,z,B,y,x,C⟩:=T.o;have h3:=g.below Y;have k7:=i.keep (iS.below Y _) lR;have kb:mb J q0 o (.slice U m V):=an.keep z (Y.block _ (an.lt z));have y3:=kb.cells.2.2.1;have r3:=h3.wbA.cells.2.2.2.2.2.1;have kc:Q.length<=1000000:=by
   rw [k7.rel.len];have:=h3.live.Si.1;have e:xs.os.length=xs.length:=(by simp [aZ.os]);omega
  have kh:∀ k,ZR ZN 23 #[Z6 (ZW ⟨r,0,ZX⟩),Z0 o.s] (J.drewN k) λe w'=>e=Z3 (ZZ #[.slice E I H,Z7 Z9 n])/\w'=J.drewN k:=λk=>by
   have ko:bW J (J.drewN k):=⟨rfl,rfl,rfl,TV _,λ_ _=>rfl⟩;obtain ⟨rb,rv,hr⟩:=(k7.keep (iS.below ko _) lR).ref;exact (BH hr kc o.s).mono λe w' q=>⟨B e q.2,q.1⟩
  have H3:=a5 h3 k7 kh Y;clear g i z B y x C h3 k7 kb kc kh Y;go_upto_region 7 with fail;go_quiet ((go_at_call 23;refine abD (H3.o.2.2.1 _)));clear y3 r3;have Z:bW wc (J.drewN nq):=H3.o.2.2.2.trans ⟨rfl,rfl,rfl,TV _,λ_ _=>rfl⟩;obtain ⟨w4,kk⟩:=nM (J.drewN nq);rw [kk] at Z ⊢;clear kk;obtain ⟨g,i,z,B,y,x,C⟩:=T.o;have k0:=y.keep (Kd.below Z _ _);have hy:=x.keep (Kd.below Z _ _);have ki:=FV _ _ l w4 k0.bs hy.bs;have H4:=ak Z;clear Z g i z B y x C k0 hy;go_wp2_with fail;refine ki.mono ?_;rintro e K ⟨rfl,m5,km⟩;have hm:bW wc K:=H4.o.trans (by rw [km];exact ⟨rfl,rfl,rfl,TV _,λ_ _=>rfl⟩);clear km ki;obtain ⟨g,i,z,B,y,x,C⟩:=T.o;have h5:=g.below hm;have hs:=i.keep (iS.below hm _) lR;have k5:=y.keep (Kd.below hm _ _);have hz:=x.keep (Kd.below hm _ _);have X:=h5.wbA;obtain ⟨_,_,_,_,_,_,_,c7,c8,_⟩:=X.cells;have f7:=an.R3 X 7;have f8:=an.R3 X 8;obtain ⟨⟨oa,om,oc,rfl,_⟩,wa,wm,wd,rfl,_⟩:=hs.ow;have hv:MS KW (dZ A) w0 ((K.setCell ⟨wb,7,ZX⟩ (.slice N R O)).setCell ⟨wb,8,ZX⟩ (.slice E I H)) wb D L G nb (t+1):=by
   have hO:aa (λj=>j=wb) K ((K.setCell ⟨wb,7,ZX⟩ (.slice N R O)).setCell ⟨wb,8,ZX⟩ (.slice E I H)):=(aa.setCell (S:=λj=>j=wb) K ⟨wb,7,ZX⟩ _ rfl).trans (aa.setCell (S:=λj=>j=wb) _ ⟨wb,8,ZX⟩ _ rfl);have hW:jT ((K.setCell ⟨wb,7,ZX⟩ (.slice N R O)).setCell ⟨wb,8,ZX⟩ (.slice E I H)) wb D L G (Z6 (ZW ⟨p,0,ZX⟩)) (Z6 (ZW ⟨sa,0,ZX⟩)) (Z6 (ZW ⟨r,0,ZX⟩)) nb (.slice N R O) (.slice E I H) cache:=an.set X 7 [.slice N R O,.slice E I H] (by simp [PF]);obtain ⟨h6,kx⟩:=h5.write hO hW;have kr:Dc KW K r Q xs (.slice N R O) (.slice E I H):=⟨hs.ref,hs.rel,⟨k5.sl.1,hz.sl.1⟩,hs.mks⟩;exact ⟨_,_,_,_,_,_,_,_,_,_,_,_,_,_,_,_,_,_,h6,kr.keep kx lR,by omega,dZ.refl A⟩
  have HF:=ak hv;clear hv g i z B y x h5 hs k5 hz X hm;rcases C with rfl|⟨hn,hu,_⟩
  . go_wp2_with fail;refine (od 0 _).mono ?_;rintro e w8 ⟨rfl,rfl⟩;go_wp2;go_ret;exact ⟨rfl,HF.o⟩
  . cases hu;have ky:=λwx=>XO (P:=ZN) wx 39 5 ZX 0 0 0 0 Ul;go_wp2_with fail;refine (od n _).mono ?_;rintro e w8 ⟨rfl,rfl⟩;go_wp2;go_ret;exact ⟨rfl,HF.o⟩
end
end
section
def PG (w:ZT) (g:Nat) (os:List Ob) (i:ZS) (wr:ZT):Prop:=
 ∃ k:Nat,k<=os.length/\i=Z7 Z9 (k:Nat)/\bW w wr/\∃ cur:List ZS,an wr g 80 cur/\os.length*2<=cur.length/\∀ j (hj:j<os.length),k<=j->cur[j*2]?=ZW (Z0 os[j].name)/\cur[j*2+1]?=ZW (Z7 Z9 (os[j].size:Nat))
def Dy:∀ (os:List Ob) (j:Nat) (a:j<os.length),(l9 os)[j*2]?=ZW (Z0 os[j].name)/\(l9 os)[j*2+1]?=ZW (Z7 Z9 (os[j].size:Nat))
 | [],j,a=>absurd a (by simp)
 | o::os,0,_=>⟨rfl,rfl⟩
 | o::os,j+1,a=>by
  have e:l9 (o::os)=[Z0 o.name,Z7 Z9 (o.size:Nat)]++l9 os:=by unfold l9;rw [VN];rfl
  obtain ⟨b,c⟩:=Dy os j (by simpa using a);rw [e];refine ⟨?_,?_⟩
  . rw [U6 (by simp;omega),show (j+1)*2-[Value.string o.name,Z7 Z9 (o.size:Nat)].length=j*2 by simp;omega];exact b
  . rw [U6 (by simp;omega),show (j+1)*2+1-[Value.string o.name,Z7 Z9 (o.size:Nat)].length=j*2+1 by simp;omega];exact c
def PG.start {base:Nat} (h:wr.ownsRow base 80 2 u n (l9 os)) (p:os.length=n) (s:0<n) (m:bW w wr) (t:w.heap.size<=base):∃ g cap,u=Z5 (ZW ⟨g,0,ZX⟩) n cap/\w.heap.size<=g/\PG w g os (Z7 Z9 0) wr:=by
 rcases h.2 with ⟨_,e⟩|⟨g,cap,cur,c,q,d,f,r,i,k⟩
 . omega
 . refine ⟨g,cap,c,by omega,0,T5 _,rfl,m,cur.toList,?_,?_,λj o _=>?_⟩
   . unfold an;rw [d,Array.toArray_toList]
   . have l:cur.toList.length=cap*2:=(by rw [Ww];exact i);rw [l,p];exact WX 2 f
   . obtain ⟨a,b⟩:=Dy os j o;have:j*2+1<n*2:=(by omega);rw [<- k] at a b;rw [VO (by omega)] at a b;exact ⟨a,b⟩
theorem PG.next {cur:List ZS} (x y:ZS) (s:k<os.length) (h:bW w wr) (a:w.heap.size<=g) (m:an wr g 80 cur) (hl:os.length*2<=cur.length) (l:∀ j (b:j<os.length),k<=j->cur[j*2]?=ZW (Z0 os[j].name)/\cur[j*2+1]?=ZW (Z7 Z9 (os[j].size:Nat))):PG w g os (Z7 Z9 ((k:Int)+1)) ((wr.setCell ⟨g,k*2,ZX⟩ x).setCell ⟨g,k*2+1,ZX⟩ y):=by
 have d:=an.set m (k*2) [x,y] (by simp;omega);have c:bW w ((wr.setCell ⟨g,k*2,ZX⟩ x).setCell ⟨g,k*2+1,ZX⟩ y):=(h.setCell (p:=⟨g,k*2,ZX⟩) a _).setCell (p:=⟨g,k*2+1,ZX⟩) a _;refine ⟨k+1,by omega,rfl,c,_,d,?_,λj b q=>?_⟩
 . simp only [T8,Un,Um,UD,UW];omega
 . obtain ⟨n,o⟩:=l j b (by omega);have e:∀ i,k*2+2<=i->(cur.take (k*2)++[x,y]++cur.drop (k*2+[x,y].length))[i]?=cur[i]?:=λi r=>by
    have f:(cur.take (k*2)++[x,y]).length=k*2+2:=(by rw [T8,Un];simp;omega);rw [U6 (by omega),f,Wd];congr 1;simp;omega
   exact ⟨(e _ (by omega)).trans n,(e _ (by omega)).trans o⟩
section
variable {KW w0 w:ZT} {wb D L G nb t:Nat} {xs:aZ} {Q:List (ByteArray×ZS)} {p r sa ar v:Nat} {Kind:aN->Prop} {ps:aN} {pg ob:ZS} {P:a8} {A:aF} {F:aQ} {out want:ZS} {cache:Int}
theorem za (h:MB w0 w wb D L G nb t xs p r sa ar v Kind ps pg ob P A F out want cache) (hc:Dc KW w r Q xs out want) (o:rH) (dv:ZS) (kc:∃ W m X,dv=.slice W m X) (K:o.kind=4) {C:aF->Prop} (hC:C A) :
 ZR ZN 9 #[Z6 (ZW ⟨wb,0,ZX⟩),.agg #[Z7 Z9 o.kind,Z7 Z9 o.a,Z0 o.s,dv]] w λe w'=>e=Z3 (Z1 ZV)/\MS KW C w0 w' wb D L G nb (t+1):=by
 obtain ⟨W,m,X,rfl⟩:=kc;obtain ⟨w1,hz⟩:=nM (w.alloc (Z4 #[Z7 Z9 o.kind,Z7 Z9 o.a,Z0 o.s,.slice W m X] 41));have d:=Rw h hc o _ hz;have k8:=aaL d.b.box d.b.live;obtain ⟨x0,x1,x2,x3⟩:=d.op.cells;have s1:=d.b.wbA.cells.2.2.2.2.1;have l:∀ w',bW w1 w'->MS KW C w0 w' wb D L G nb (t+1):=λw' hb=>⟨_,_,_,_,_,_,_,_,_,_,_,_,_,_,_,_,_,_,d.b.below hb,d.c.keep (iS.below hb _) lR,by omega,hC⟩;obtain ⟨rb,rv,n⟩:=d.c.ref;obtain ⟨N,f⟩:=nM (xs.os.length);have j:Q.length=N:=by rw [d.c.rel.len,<- f];simp [aZ.os]
 have kb:N<=1000:=by rw [<- f];exact d.b.live.Si.1
 have HS:=a6 d l n f j;clear d h hc l n f j;rw [K] at x0 hz ⊢;clear K;go_enter func9,ntmps9;go_wp2_with fail;clear hz x0 x1 x2 x3;refine k8.mono ?_;rintro e w2 ⟨u,rfl,x,H⟩;clear k8 s1;have H2:=al x H;clear x H;go_wp2_with fail;refine (nZ w2).mono ?_;rintro e w3 ⟨rfl,T⟩;obtain ⟨d,l,n,f,j⟩:=HS.o;obtain ⟨x,H⟩:=H2.o;have B:bW w1 w3:=x.trans (T.mono x.size);have J:=ay H T;rw [f] at J;have hq:jT w3 wb D L G (Z6 (ZW ⟨p,0,ZX⟩)) (Z6 (ZW ⟨sa,0,ZX⟩)) (Z6 (ZW ⟨r,0,ZX⟩)) nb out want cache:=an.keep d.b.wbA (B.block _ (an.lt d.b.wbA));have r3:=hq.cells.2.2.2.2.2.1;have M:rQ w3 r rb rv Q:=vL.ref n (iS.below B _).SJ lR;have t3:=M.cell.1;by_cases R:N=0
 . have hu:∃ U V,u=.slice U 0 V:=by
    obtain ⟨U,V,e⟩:=bE J;exact ⟨U,V,by rw [e,R]⟩
   have kf:∃ y I,rv=.slice y 0 I:=by
    obtain ⟨y,I,e⟩:=bE M.own;exact ⟨y,I,by rw [e,j,R]⟩
   obtain ⟨U,V,rfl⟩:=hu;obtain ⟨y,I,rfl⟩:=kf;have O:=ak (l _ B);clear d l n f j x H T B J hq M R kb;go_wp2;refine VC 1 ?_;rw [U5];go_wp2;go_ret;exact ⟨rfl,O.o⟩
 . obtain ⟨g,cap,rfl,hg,k0⟩:=PG.start J f (by omega) B lR;obtain ⟨y,I,ka⟩:=bE M.own;rw [j] at ka;subst ka;have O:=al k0 hg;clear k0 hg d l n f j x H T B J hq M R;go_wp2_with fail;go_loopw [19] (λi wr=>PG w1 g xs.os i wr) (λi _=>N-(intOf i).toNat)
   case atStart=>exact O.o.1
   case round=>
    clear r3 t3;obtain ⟨k,K,rfl,E,cur,q,Z,S⟩:=hrel;obtain ⟨d,l,n,f,j⟩:=HS.o;rw [f] at K;by_cases ki:k<N
    . have kh:(k:Int)<(N:Int):=(by omega);have hx:k<xs.os.length:=(by omega);have Y:k<xs.length:=by
       have e:xs.os.length=xs.length:=(by simp [aZ.os]);omega
      obtain ⟨q1,q2⟩:=S k hx lR;have e1:=an.cell q q1;have e2:=an.cell q q2;have g1:=an.R3 q (k*2);have g2:=an.R3 q (k*2+1);have k6:jT wr wb D L G (Z6 (ZW ⟨p,0,ZX⟩)) (Z6 (ZW ⟨sa,0,ZX⟩)) (Z6 (ZW ⟨r,0,ZX⟩)) nb out want cache:=an.keep d.b.wbA (E.block _ (an.lt d.b.wbA));have rr:=k6.cells.2.2.2.2.2.1;have hy:rQ wr r rb (.slice y N I) Q:=vL.ref n (iS.below E _).SJ lR;have tr:=hy.cell.1;obtain ⟨qn,qo⟩:=d.c.rel.at k (by omega) Y;obtain ⟨⟨ba,bn,bc,hs,_⟩,hv⟩:=qo.sl;rw [hs] at hv;have k7:bn=xs.os[k].size:=by
       have h1:=(d.b.live.disk.fits _ (TY Y)).len;have h2:xs.os[k]=xs[k].1:=(by simp [aZ.os]);rw [h2,<- h1];exact hv
      have k9:Q[k].1=xs.os[k].name:=(by rw [qn];simp [aZ.os]);obtain ⟨z,kg,d1,d2⟩:∃ z,y=ZW ⟨z,0,ZX⟩/\wr.cell? ⟨z,k*2,ZX⟩=ZW (Z0 xs.os[k].name)/\wr.cell? ⟨z,k*2+1,ZX⟩=ZW (.slice ba bn bc):=by
       rcases hy.shape with ⟨_,e⟩|⟨z,hd,e,_,_,hh⟩
       . rw [e] at j;simp at j;omega
       . simp only [VH] at e;obtain ⟨c1,c2⟩:=hh k (by omega);rw [k9] at c1;rw [hs] at c2;exact ⟨z,e.1,c1,c2⟩
      subst kg;rw [k7] at d2;have k5:∀ m,PG w1 g xs.os (Z7 Z9 ((k:Int)+1)) (((wr.drewN m).setCell ⟨g,k*2,ZX⟩ (.string ⟨#[109,105,110,101]⟩)).setCell ⟨g,k*2+1,ZX⟩ (Z7 Z9 0)):=λm=>PG.next _ _ hx (E.trans ⟨rfl,rfl,rfl,TV _,λ_ _=>rfl⟩) O.o.2 (an.keep q rfl) Z S;obtain ⟨nm,hi⟩:=nM (xs.os[k].name);obtain ⟨sz,hn⟩:=nM (xs.os[k].size);rw [hi] at e1 d1;rw [hn] at e2 d2;have HN:=ak k5;clear k5 E q Z S q1 q2 d l n f j k6 hy qn qo hs hv k7 k9 hi hn hx Y K;go_upto_region 30 with fail;go_quiet (fail);go_wp2;exact ⟨HN.o _,by simp [intOf];omega⟩
    . have ke:k=N:=(by omega);subst ke;have HB:=ak (l _ E);clear E q Z S d l n f j;go_wp2;go_ret;exact ⟨rfl,HB.o⟩
end
end
def nH (cf:FuncId) (cp:Array ZS):ZS:=.func (.func cf) #[] cp
def Cho (cf:FuncId) (cp:Array ZS) (sg:Nat->Nat) (X:ZT):Prop:=∀ bd:Nat,ZR ZN cf (#[Z7 Z8 bd]++cp) X λe X'=>e=Z3 (Z7 Z8 (sg bd:Nat))/\X'=X
def Ent (cf:FuncId):Prop:=∀ (args:Array ZS) (w:ZT),(callFunc cf args).run ZN w=.ok (.enter cf args) w
theorem Ng {f:Nat->bw} (h:A.at b f) {ds:a8} (a:∀ i∈ds,i<A.n):(A.putAt ds b f).rc=A.rc:=funext λi=>funext λm=>by
 show (if m=b/\i∈ds then f i else A.rc i m)=_;split
 . rename_i q
   rw [q.1];exact (h i (a i q.2)).symm
 . rfl
theorem vN {L' G':Nat} {r:bw} (ho:mS w ar v p ps D L G A F) (a:bf w ar v D' L' G' t f nn pg ob ZU) (Z:Ent cf) (h:∀ X,aa F.S w X->Cho cf cp sg X) (hm:∀ x,x<2^A.n->sg x<2^A.n) (O:b<A.nb) (l:r.ok) (k:Mw r) (d:A.at b λ_=>r) :
 ZR ZN 89 #[Z6 (ZW ⟨ar,0,ZX⟩),Z7 Z9 b,cZ r,nH cf cp] w λe w'=>e=Z3 (Z7 Z8 (0:Nat))/\(∃ B,dZ A B/\B.rc=A.rc/\aA w' p B F)/\aa F.S w w':=by
 have Y:A.n<=16:=by rw [ho.vol.n];exact ho.vol.par.s
 have h2:2^A.n<=65536:=jJ Y;have V:=mL a;have T:=iL ho.vol b O;obtain ⟨tr,rv,E⟩:=iK r;have C:=a7 ho a h l k d;unfold Ent at Z;clear ho a h l k d;unfold nH;rw [E];go_enter func89,ntmps89;go_wp2_with fail;refine T.mono ?_;rintro e w1 ⟨g,rfl,hg,M,m,c⟩;obtain ⟨ho,a,h,l,k,d⟩:=C.o;have y:=uY (w:=w1) (R:=λi=>A.R9 i b) (r:=r) (by omega) k (λi u=>AK d u) M;rw [E] at y;have W:=mL (a.keep (c.block _ a.lt ho.nar));have q:=ho.vol.turn c m rfl;obtain ⟨N,j⟩:=nM (A.n);rw [j] at y;rw [j];have I:=a5 q c m j;clear ho a h l k d q c m j M T V;go_wp2_with fail;refine y.mono ?_;rintro e w2 ⟨x,rfl,hx,rfl⟩;clear y;obtain ⟨ho,a,h,l,k,d⟩:=C.o;obtain ⟨q,c,m,j⟩:=I.o;have Q:=h w2.drew (c.trans (aa.drew _)) x;have U:=hm x (by rw [j];exact hx);have H:=eX (q.below ((TW _ w2).drew) lR) b (sg x) O (by omega) (λi u=>vJ U u) r l;rw [E] at H;have z:=aE Q H U;clear ho a h l k d q c m j Q H;go_upto_region 2 with fail;go_region_with (first
  | (go_at_call 120;refine z.o.2.1.mono ?_;rintro e w3 ⟨rfl,K,P⟩;have J:=al K P;clear K P)
  | (refine z.o.1.mono ?_;rintro e w3 ⟨rfl,rfl⟩))
 all_goals (
  go_wp2;go_ret;obtain ⟨ho,a,h,l,k,d⟩:=C.o;obtain ⟨q,c,m,j⟩:=I.o;exact ⟨rfl,⟨_,dZ.put _ _ _ _,Ng d λi u=>vJ z.o.2.2 u,J.o.1⟩,c.trans ((aa.drew _).trans J.o.2)⟩)
def FK (h:bf w ar v D L G t f nn pg ob off):(Instr.loadAt 130 (Z6 (ZW ⟨ar,1,ZX⟩))).run ZN w=.ok (.agg (aj D L G t f nn)) w:=by
 have b:w.heap[ar]?=ZW (Z4 (lH v D L G t f nn pg ob off) 135 (0,0)):=h;have c:w.rangeAt ar 1 (aj D L G t f nn).toList:=λj u a=>by
  unfold aj at a;match j with
  | 0|1|2|3|4|5=>simp at a;subst a;simp [World.cell?,b,lH]
  | j+6=>simp at a
 exact run_loadAt_mid (P:=ZN) w ar 1 130 (aj D L G t f nn).toList _ c XD rfl (by kernel_rfl)
section
def RwK (w w':ZT) (l:a8) (x:ZS):Prop:=∃ bl c,x=Z5 (ZW ⟨bl,0,ZX⟩) 44 c/\w.heap.size<=bl/\bl<w'.heap.size/\w'.rangeAt bl 0 (aH l)
structure Pc (w:ZT) (r v b g N p D L G:Nat) (Kind:aN->Prop) (ps:aN) (A:aF) (F:aQ) (dl:a8) (e:ZQ) (w':ZT):Prop where
 rd:∃ gone sp,ew w' r v b g N gone sp
 row:∃ f gn,w'.rowIs g 39 N f/\e=Z3 (ZZ #[Z5 (ZW ⟨g,0,ZX⟩) N N,Z7 Z8 (gn:Nat),.nilIface])/\gn<2^N/\∀ i,i<N->RwK w w' (vR D L G dl i) (f i)
 kit:∃ (ps1:aN) (hl:Nat),Kind ps1/\ps1.ps=ps.ps/\ps1.S w'/\bt w' v p D L G ps.ps hl/\hl<2^N/\∀ k,ps1.bl k->ps.bl k\/w.heap.size<=k
 arr:aA w' p A F
 out:aa (λk=>k=g\/k=r\/k=v\/F.S k\/ps.bl k) w w'
def C6 (r v ps D L G gn:Nat) (w:ZT):Prop:=w.cell? ⟨r,0,ZX⟩=ZW (Z6 (ZW ⟨v,0,ZX⟩))/\w.cell? ⟨v,1,ZX⟩=ZW (Z7 Z9 (D:Int))/\w.cell? ⟨v,2,ZX⟩=ZW (Z7 Z9 (L:Int))/\w.cell? ⟨v,3,ZX⟩=ZW (Z7 Z9 (G:Int))/\w.cell? ⟨v,4,ZX⟩=ZW (Z6 (ZW ⟨ps,0,ZX⟩))/\w.cell? ⟨r,3,ZX⟩=ZW (Z7 Z8 gn)
def Nh {ps:Nat} (a:ew w r v b g N gone sp) (hv:bt w v p D L G ps ho):C6 r v ps D L G gone w:=by
 obtain ⟨_,c,d,e,f,_⟩:=hv.cells;exact ⟨a.cells.1,c,d,e,f,a.cells.2.2.2.1⟩
section
variable {w:ZT} {r v b g N p D L G:Nat} {Kind:aN->Prop} {ps:aN} {A:aF} {F:aQ} {dl:a8} (hs:qK w r v b g N p D L G Kind ps A F dl) (hSh:pd D L G Kind)
include hs hSh
theorem JM {b0:Nat} {f0:Nat->ZS} (hr:ew w r v b0 g N gone sp) (hp:w.rowIs g 39 N f0) :
 ZR ZN 87 #[Z6 (ZW ⟨r,0,ZX⟩),Z7 Z9 b] w λe w'=>Pc w r v b g N p D L G Kind ps A F dl e w':=by
 have qd:=hs.vol;have k7:N<=16:=by rw [hs.nN];exact hs.vol.par.s
 have qv:2^N<=65536:=jJ k7;have k6:ab (2^N-1)=YE N:=vF k7;have hS:2^N-1<65536:=by have:=Vz N;omega
 obtain ⟨S,q7⟩:=nM (2^N-1);rw [q7] at k6 hS;have qh:∀ i,i∈ab S->i<N:=λi Q=>by rw [k6,Uu] at Q;exact Q
 have qc:=Gm hr qd.vol hp (by have:=hs.nN;have:=hs.vol.par.d1;omega) (λe=>hs.rg e.symm) hs.vg b;have h:=bZ hs.kit hr qJ;have f:¬ ps.bl g:=by obtain ⟨cs,h1,_⟩:=hp;exact bZ hs.kit h1 oY
 have Y:=a7 hs (And.intro hSh.2 hs.fine) h f hr.lt hp.lt;clear hr hp hs hSh h f qd;go_enter func87,ntmps87;go_wp2_with fail;refine qc.mono ?_;rintro e w1 ⟨rfl,k9,hj,J⟩;obtain ⟨hs,hSh,h,f,T,X⟩:=Y.o;have d:=hs.turn h f J;have kv:qM w1 r v b g N p D L G A F Kind ps ps dl ps.ho 0 ps.ho [] wC w1:=⟨k9,d.vol,hj,Kn.nil _ _ _ _,d.kit,d.kind,rfl,λk q=>.inl q,aa.refl _ _,λi q=>(by cases q),YD (by decide),d.hol,d.hol,λi q=>by rw [Xu] at q;cases q⟩;have H:=k9.lt;have E:=hj.lt;have u:=kv.Sz d H E h f;obtain ⟨d0,d1,d2,d3,d4⟩:=k9.cells;have f4:=k9.free 4;obtain ⟨w2,qf⟩:=nM (w1.setCell ⟨r,4,ZX⟩ (Z7 Z8 0));rw [qf] at u;have qe:=u.vol;have kh:=kJ qe.vol hs.vol.par;rw [<- hs.nN,q7] at kh;obtain ⟨q0,_⟩:=u.rd.cells;have H1:=a6 u d H E J;clear qc hs hSh h f T X d kv u k9 hj J qe H E;go_wp2_with fail;clear qf d0 d1 d2 d3 d4 f4;refine kh.mono ?_;rintro e M ⟨rfl,ki⟩;obtain ⟨u,d,H,E,J⟩:=H1.o;obtain ⟨hs,hSh,h,f,T,X⟩:=Y.o;have kx:=u.SC (u.apart d H E h f) (aa.RN ki _) (ps.keep _ _ u.kit λk K=>ki.block k (ps.lt _ u.kit k K)) u.kind rfl (λk q=>.inl q);have km:=nF kx d H E h f S hS qh;obtain ⟨nw,ko⟩:=nM (RK S 0 0 []);rw [ko] at km;have HN:=ak ko;clear u d H E J hs hSh h f T X kx ki kh q0 ko;go_wp2_with fail;refine km.mono ?_;rintro e B ⟨rfl,f4,a,_⟩;clear km;rw [Nat.zero_or,Uo] at a;obtain ⟨ds,kk⟩:=nM (CU A b nw);obtain ⟨n,q9⟩:=nM (zC (gnB A b) nw);obtain ⟨h1,qa⟩:=nM (ps.ho);rw [kk,q9,qa] at a;have O:∀ i,i<N->n.testBit i=ZU->i∈ds:=λi Q V=>by
  have O:i∈nw:=by rw [<- HN.o];exact (sI (by omega) (by omega)).2 ⟨by rw [k6];exact Uu.2 Q,Xu _,Xu _,by simp⟩
  rw [<- kk];refine mF.2 ⟨O,?_⟩;cases hq:gnB A b i
  . rfl
  . rw [<- q9,(sq _ i nw).2 ⟨O,hq⟩] at V;cases V
 have k5:=a.gol;obtain ⟨e0,_,e2,e3,_⟩:=a.rd.cells;have R:=al a O;clear a O kk qa;by_cases hz:n=0
 . have x6:B.cell? ⟨r,3,ZX⟩=ZW (Z7 Z8 0):=(by rw [e3,hz];rfl);clear e3 e0;go_wp2;refine Ur (v:=ZZ #[Z5 (ZW ⟨g,0,ZX⟩) N N,Z7 Z8 0,.nilIface]) (by simp [results,results87,go_sem]) rfl ?_;obtain ⟨a,O⟩:=R.o;obtain ⟨hs,hSh,h,f,T,X⟩:=Y.o;have hv:=a.vol;obtain ⟨u,d,H,E,J⟩:=H1.o;have kc:=J.size;refine ⟨⟨_,_,a.rd⟩,⟨f4,0,a.row,rfl,Vz _,λi Q=>?_⟩,⟨ps,h1,a.kind,a.psE,a.kit,hv.vol,a.hll,λk q=>.inl q⟩,hv.arr,(J.mono λk _ q=>q.elim (λe=>.inr (.inl e)) .inl).trans a.out⟩;have Z:=O i Q (by rw [hz];exact Xu _);obtain ⟨bl,q1,q2,P,U⟩:=a.kn.2 i Z;exact ⟨bl,44,q1,by omega,P,jg U⟩
 have qz:((n:Int)==0)=ZU:=by simp;omega
 have qb:∀ w',bW B w'->ZR ZN 125 #[Z6 (ZW ⟨ps.ps,0,ZX⟩),.agg #[Z7 Z9 D,Z7 Z9 L,Z7 Z9 G],Z7 Z8 n] w' λe qr=>PnA D L G Kind ps n w' e qr:=λw' V=>by
  obtain ⟨a,_⟩:=R.o;obtain ⟨hs,hSh,_⟩:=Y.o;have hv:=a.vol;exact hSh.1 ps a.kind w' (ps.keep _ _ a.kit λk K=>V.block k (ps.lt _ a.kit k K)) (hv.tab.keep (V.block _ hv.tab.lt)) (TU hv.room V.size) n (by rw [<- hs.nN];exact k5)
 have HB:=al qb (λk (K:ps.bl k)=>ps.lt _ R.o.1.kit k K);have ke:=R.o.1.vol;obtain ⟨_,y1,y2,y3,y4,_⟩:=ke.vol.cells;have kj:bW B (B.alloc (Z4 #[Z7 Z9 0,Z5 ZX 0 0] 214)):=bA B _;obtain ⟨_,x1,x2,x3,x4,_⟩:=(ke.vol.keep (kj.block _ ke.vol.lt)).cells;obtain ⟨x0,_,_,x5,_⟩:=(R.o.1.rd.keep (kj.block _ R.o.1.rd.lt)).cells;clear kj qb ke;have HY:cA (∀ (w' M:ZT),bW B w'->aa ps.bl w' M->C6 r v ps.ps D L G n M/\(∀ o:Obj,C6 r v ps.ps D L G n (M.alloc o))/\(∀ k x y,B.heap.size<=k->C6 r v ps.ps D L G n ((M.setCell ⟨k,0,ZX⟩ x).setCell ⟨k,1,ZX⟩ y))):=ak λw' M V hO=>by
  have ky:=aa.after V hO;have hM:=R.o.1;obtain ⟨u,d,H,E,J⟩:=H1.o;obtain ⟨hs,hSh,h,f,T,X⟩:=Y.o;have ha:=hM.apart d H E h f;have hv:=hM.vol;have ka:=hM.rd.keep (ky.block _ hM.rd.lt λq=>(ha _ q).2.2.1 rfl);have hv3:=hv.vol.keep (ky.block _ hv.vol.lt λq=>(ha _ q).2.1 rfl);have T:=hM.rd.lt;have qx:=hv.vol.lt;exact ⟨Nh ka hv3,λo=>Nh (ka.keep (UC _ _ _ ka.lt)) (hv3.keep (UC _ _ _ hv3.lt)),λk x y K=>Nh (ka.keep ((fH M k 0 1 x y).block _ ka.lt (by omega))) (hv3.keep ((fH M k 0 1 x y).block _ hv3.lt (by omega)))⟩
 go_upto_region 6 with fail;go_cut [6,7] from 30 to 51 (λv6 v7 wx=>OP D L G Kind ps n B v7 v6 wx)
 case first=>
  go_region_held3 (λw'=>w'.cell? ⟨r,0,ZX⟩=ZW (Z6 (ZW ⟨v,0,ZX⟩))/\w'.cell? ⟨v,1,ZX⟩=ZW (Z7 Z9 (D:Int))/\w'.cell? ⟨v,2,ZX⟩=ZW (Z7 Z9 (L:Int))/\w'.cell? ⟨v,3,ZX⟩=ZW (Z7 Z9 (G:Int))/\w'.cell? ⟨v,4,ZX⟩=ZW (Z6 (ZW ⟨ps.ps,0,ZX⟩))/\w'.cell? ⟨r,3,ZX⟩=ZW (Z7 Z8 (n:Int))) (first|exact ⟨e0,y1,y2,y3,y4,e3⟩|exact ⟨x0,x1,x2,x3,x4,x5⟩|exact Y0.out|exact Y1.out _|exact Y2.out _ _ _ lR|go_keep)
   (first|(go_at_call 125;refine (HB.o.1 _ ?_).mono ?_;(first|exact (TW _ _).drew|exact ((TW _ _).drew).alloc lR _);rintro e M k8;obtain ⟨z,ao,m,c,er,he,kg,H3⟩:=vq k8;subst he;clear k8;(try (have P:M.heap[B.heap.size]?=ZW (Z4 #[Z7 Z9 0,Z5 ZX 0 0] 214 (0,0)):=(kg.block B.heap.size (by simp) (λq=>by have:=HB.o.2 _ q;omega)).trans (Ug B.drew _);obtain ⟨r0,r1,x7,g0⟩:=aw P;clear P));obtain ⟨Y0,Y1,Y2⟩:cA (C6 r v ps.ps D L G n M)/\cA (∀ o:Obj,C6 r v ps.ps D L G n (M.alloc o))/\cA (∀ k x y,B.heap.size<=k->C6 r v ps.ps D L G n ((M.setCell ⟨k,0,ZX⟩ x).setCell ⟨k,1,ZX⟩ y)):=HY.o _ M (by first|exact (TW _ B).drew|exact ((TW _ B).drew).alloc lR _) kg;clear kg))
  all_goals (go_wp2_with fail;go_meet;case rel=>first|(refine yT (w':=B.drew) H3.o ?_ rfl;exact (TW _ _).drew)|(refine vt (w2:=B.drew) H3.o HB.o.2 rfl ?_;exact (TW _ _).drew))
 case rest=>
  clear e0 e2 e3 y1 y2 y3 y4 x0 x1 x2 x3 x4 x5 HY HB;rename ZT=>w5;obtain ⟨a,O⟩:=R.o;obtain ⟨u,d,H,E,J⟩:=H1.o;obtain ⟨hs,hSh,h,f,T,X⟩:=Y.o;have hm:aa (λk=>k=g\/k=r\/k=v\/F.S k\/ps.bl k) w w1:=J.mono λk _ q=>q.elim (λe=>.inr (.inl e)) .inl;have kc:=J.size;rcases hcut with ⟨_,qp,_⟩|hcut
  . exact absurd hSh.2 (Cb qp λi q=>MN (a.gb i q))
  . obtain ⟨rfl,gb,hd,s,C,ao,m,c,rfl,qn,kr,W,kz⟩:=hcut;have I:=a.SC (a.apart d H E h f) kz W.kit W.kind W.psE W.bl;obtain ⟨z,ks⟩:∃ z:Int,1+((ab (aq (D+L+G) s)).length:Int)=z:=⟨_,rfl⟩;rw [ks] at kr;have q8:=Di d I W hz k5 (λi Q=>by
     obtain ⟨t,ht,h0,qs⟩:=(oE _ _).1 Q;obtain ⟨j,q1,q2,P⟩:=jN hs.vol.par.s ht h0;have e:j=i:=(by rw [<- qs,q1];rfl);subst e;have U:j<N:=(by rw [hs.nN];exact q2);exact ⟨U,O j U (uO λe=>by rw [W.Tj j e] at P;cases P)⟩) ks
    obtain ⟨k0,k1,_,_⟩:=aw kr;have H5:=a5 I q8 hm kc;have HP:=ak W.Tj;clear a O u d H E J hs hSh h f T X hm I q8 W kz ks kr kc;go_wp2_with fail;refine H5.o.2.1.mono ?_;rintro e w6 ⟨rfl,hF⟩;clear k0 k1;obtain ⟨_,_,d2,d3,_⟩:=hF.rd.cells;have H6:=ak hF;clear hF;go_wp2;go_region;go_wp2;refine Ur (v:=ZZ #[Z5 (ZW ⟨g,0,ZX⟩) N N,Z7 Z8 (n:Int),.nilIface]) (by simp [results,results87,go_sem]) rfl ?_;obtain ⟨qq,⟨f6,kb,qk,qm⟩,qg⟩:=H6.o;obtain ⟨I,_,hm,kc⟩:=H5.o;obtain ⟨a,O⟩:=R.o;obtain ⟨u,d,H,E,J⟩:=H1.o;obtain ⟨hs,hSh,h,f,T,X⟩:=Y.o;have hg:aa (λk=>k=g) w5 w6.drew:=qg.trans (aa.drew _);have qi:=I.apart d H E h f;have qy:=I.out.size;have kf:=I.vol;refine ⟨⟨_,_,show ew w6.drew r v b g N n 0 from qq⟩,⟨f6,n,kb,rfl,k5,λi Q=>?_⟩,⟨hd,h1,I.kind,I.psE,hd.keep _ _ I.kit (λk K=>hg.block k (hd.lt _ I.kit k K) (λq=>(qi k K).2.2.2.1 q)),kf.vol.keep (hg.block _ kf.vol.lt hs.vg),I.hll,λk K=>(I.bl k K).imp id λq=>TU kc q⟩,kf.arr.keep (λk K=>hg.block k (kf.arr.RO K) λq=>hs.gF (q▸K)),(hm.trans I.out).trans (hg.mono λk _ q=>.inl q)⟩;by_cases kp:s.testBit i=ZV
    . obtain ⟨bl,mm,l,q1,q2,P,U,q5,q6⟩:=qm i ((bO hs.vol.par.s).2 ⟨by have:=hs.nN;omega,kp⟩);obtain ⟨h1,h2⟩:=yJ U P q5;rw [(pU hs.vol.par dl (by have:=hs.nN;omega)).1] at h2;subst h2;exact ⟨bl,l.length,q1,by omega,aI.lt U,h1⟩
    . have qo:i∉ab (aq (D+L+G) s):=λq=>kp ((bO hs.vol.par.s).1 q).2;have Z:i∈ds:=O i Q (uO λe=>kp (HP.o i e));obtain ⟨bl,q1,q2,P,U⟩:=I.kn.2 i Z;have qj:bl≠g:=(by omega);exact ⟨bl,44,by rw [qk i qo];exact q1,by omega,TZ P hg.size,jg ((hg.block bl P qj).trans U)⟩
end
end
section
attribute [local go_sem] Oper.semAt_some
def JN {fn:Func} {c u:Nat} {ty tz:ZP} {x y:ZS} {a:Act} (h:fn.results=#[.cell t ty,.cell u tz]) (d:a.defers=[{ target:=.collected D',args:=#[] }]) (h8:a.tmps.getD t ZY=Z6 (ZW ⟨b,0,ZX⟩)) (h9:a.tmps.getD u ZY=Z6 (ZW ⟨c,0,ZX⟩))
 (hl:∀ w,w.heap[b]?=Z.heap[b]?->(loadVar ty ⟨b,0,ZX⟩).run ZN w=.ok x w) (hm:∀ w,w.heap[c]?=Z.heap[c]?->(loadVar tz ⟨c,0,ZX⟩).run ZN w=.ok y w) (hK:Z.heap[D']?=ZW (.deferred (ZW []))) (hD:b≠D') (hE:c≠D')
 (hR:R (Z3 (ZZ #[x,y])) (Z.putObj D' (.deferred ZX))):bodyPostM Fence.wide n ZN fn R .ret a Z:=by
 obtain ⟨e,i⟩:=a;simp only at d h8 h9;subst d;refine ⟨by simp,.inl ⟨_,_,rfl,Wu hK,?_⟩⟩;have c0:=hl (Z.putObj D' (.deferred ZX)) (US hD);have c1:=hm (Z.putObj D' (.deferred ZX)) (US hE);refine ⟨ZZ #[x,y],?_,hR⟩;have f:e[t]?.getD ZY=Z6 (ZW ⟨b,0,ZX⟩):=by simpa using h8
 have g:e[u]?.getD ZY=Z6 (ZW ⟨c,0,ZX⟩):=by simpa using h9
 simp [results,h,asAddr,f,g,c0,c1]
def ErL (x:ZS):Prop:=x=.nilIface
theorem Ni {x:ZS} (h:ZO Z b 63 x) (w:ZT) (e:w.heap[b]?=Z.heap[b]?):(loadVar 63 ⟨b,0,ZX⟩).run ZN w=.ok x w:=by
 have a:w.cell? ⟨b,0,ZX⟩=ZW x:=(show ZO w b 63 x from e.trans h).cell;simp [go_sem,a]
def MJ (w:ZT) (ar v p D L G:Nat) (Kind:aN->Prop) (ps:aN) (A:aF) (F:aQ) (X:ZT):Prop:=∃ ps' B,(Kind ps'/\ps'.ps=ps.ps/\∀ k,ps'.bl k->ps.bl k\/w.heap.size<=k)/\(dZ A B/\B.rc=A.rc)/\mS X ar v p ps' D L G B F
def mS.gotR {ps':aN} (h:mS w ar v p ps D L G A F) {Kind:aN->Prop} (b:w.heap.size<=w'.heap.size) (a:∀ k,k<3->¬ F.S k->k<w.heap.size->w'.heap[k]?=w.heap[k]?) (f:aA w' p A F) (hK:mR w v p D L G Kind ps A ps' w'):mS w' ar v p ps' D L G A F:=by
 have c:2<3:=by decide
 have d:1<3:=by decide
 have:=h.vlt;exact { h with
  vol:={ h.vol with vol:=by rw [hK.psE];exact hK.vol,arr:=f,laid:=h.vol.laid.keep (a _ c h.vol.g h.vol.laid.lt),tab:=h.vol.tab.keep (a _ d h.vol.t h.vol.tab.lt),room:=TU h.vol.room b }
  arl:=TZ h.arl b
  kit:=hK.kit
  apt:=λk i=>by
   rcases hK.bl k i with q|q
   . exact h.apt k q
   . have:=h.arl;exact ⟨by omega,by omega,by omega,λe=>by have:=h.vol.arr.RO e;omega⟩
  hl:=hK.hol }
def Mv (v:Nat) (ps:aN) (F:aQ) (j:Nat):Prop:=F.S j\/j=v\/ps.bl j
section
variable {w X Y:ZT} {ar v p D L G:Nat} {Kind:aN->Prop} {ps:aN} {A:aF} {F:aQ}
def MJ.own (h:MJ w ar v p D L G Kind ps A F X) (g:mS w ar v p ps D L G A F) (u:ps.ps<w.heap.size) {T:Nat->Prop} (b:aa T X Y) (i:∀ k,T k->w.heap.size<=k/\∀ cs d z,X.heap[k]?=ZW (Z4 cs d z)->¬ jS d):MJ w ar v p D L G Kind ps A F Y:=by
 obtain ⟨ps',B,⟨l,m,n⟩,o,a⟩:=h;have:=g.vol.room;have c:∀ k,k<w.heap.size->k<X.heap.size->Y.heap[k]?=X.heap[k]?:=λk x r=>b.block k r (λq=>by have:=(i k q).1;omega);have hv:=g.vol.vol.lt;refine ⟨ps',B,⟨l,m,n⟩,o,{ a with vol:={ a.vol with vol:=a.vol.vol.keep (c _ hv a.vol.vol.lt),arr:=a.vol.arr.keep λk q=>c k (g.vol.arr.RO q) (a.vol.arr.RO q),laid:=a.vol.laid.keep (c _ (by omega) a.vol.laid.lt),tab:=a.vol.tab.keep (c _ (by omega) a.vol.tab.lt),room:=TU a.vol.room b.size },arl:=TZ a.arl b.size,kit:=ps'.keep _ _ a.kit λk q=>b.block k (ps'.lt _ a.kit k q) (λe=>?_) }⟩;obtain ⟨s,j⟩:=i k e;rcases ps'.cl _ a.kit k q with f|⟨cs,d,z,f⟩
 . omega
 . exact j _ _ _ f (ps'.kd _ a.kit k q _ _ _ f)
def MJ.below (h:MJ w ar v p D L G Kind ps A F X) (d:bW X Y):MJ w ar v p D L G Kind ps A F Y:=by
 obtain ⟨ps',B,a,b,c⟩:=h;exact ⟨ps',B,a,b,c.below d⟩
def mS.put {B C:aF} (h:mS X ar v p ps D L G B F) (c:aA Y p C F) (b:dZ B C) (a:aa F.S X Y):mS Y ar v p ps D L G C F:=
 { h with fine:=b.fine h.fine,vol:=h.vol.turn a c b.n,arl:=TZ h.arl a.size,kit:=ps.keep _ _ h.kit λk q=>a.block k (ps.lt _ h.kit k q) (h.apt k q).2.2.2 }
end
def cM.data {xs:aZ} (h:cM A D L G t P xs) (e:1<=D) {b:Nat} (a:b∈P++af xs.os):∃ dl,A.at b (Pu D L G dl)/\dl.length<=D*44/\∀ x∈dl,x<256:=by
 rcases Uj.1 a with a|a
 . obtain ⟨k,c,rfl⟩:=UT a;have:=h.page k c;rw [je c] at this;exact ⟨_,this,pV e _ _ _,tU (pr _) _ _⟩
 . obtain ⟨o,ho,f⟩:=XR.1 a;obtain ⟨x,d,rfl⟩:=T7.1 ho;obtain ⟨k,c,rfl⟩:=UT f;have:=h.held x d k c;rw [je c] at this;exact ⟨_,this,by unfold dA;exact List.length_take_le _ _,λy g=>(h.fits x d).byt y (U0 (UY g))⟩
structure PH (w:ZT) (ar:Nat) (cf:FuncId) (cp:Array ZS) (D1:Nat) (M:Nat->Prop) (J:ZT->Prop) (X:ZT):Prop where
 b2:ZO X w.heap.size 106 (Z6 (ZW ⟨ar,0,ZX⟩))
 b3:ZO X (w.heap.size+1) 172 (nH cf cp)
 b4:ZO X (w.heap.size+1+1) 138 (Z7 Z8 (0:Nat))
 b5:∃ er,ErL er/\ZO X (w.heap.size+1+1+1) 63 er
 arr:J X
 out:aa M w X
 dk:X.heap[D1]?=ZW (.deferred (ZW []))
def AL:¬ jS 138:=by unfold jS;decide
def Dz:¬ jS 63:=by unfold jS;decide
def PH.next {X:ZT} {M:Nat->Prop} (h:PH w ar cf cp D1 M J X) (m:∀ k,M k->k<w.heap.size) (r:∀ X Y (T:Nat->Prop),J X->aa T X Y->(∀ k,T k->w.heap.size<=k/\∀ cs c z,X.heap[k]?=ZW (Z4 cs c z)->¬ jS c)->J Y) (x:w.heap.size+4<=D1)
 (s:J Z) (t:aa M X.drew Z):PH w ar cf cp D1 M J (Z.setCell ⟨w.heap.size+1+1,0,ZX⟩ (Z7 Z8 ((0:Nat):Int))):=by
 have d:aa M X Z:=(aa.drew X).trans t;obtain ⟨W,b⟩:=nM (Z.setCell ⟨w.heap.size+1+1,0,ZX⟩ (Z7 Z8 ((0:Nat):Int)));have j:∀ k,k≠w.heap.size+1+1->W.heap[k]?=Z.heap[k]?:=λk a=>by rw [<- b];exact Ud _ _ _ _ a
 have:Z.heap.size=W.heap.size:=by rw [<- b];simp [World.setCell]
 have i:aa (λk=>k=w.heap.size+1+1) Z W:=⟨by rw [<- b];rfl,by rw [<- b];rfl,by rw [<- b];rfl,by omega,λk _ a=>j k a⟩;have a:∀ k,w.heap.size<=k->k<X.heap.size->k≠w.heap.size+1+1->W.heap[k]?=X.heap[k]?:=λk o e p=>(j k p).trans (d.block k e (λq=>by have:=m k q;omega));have f:ZO Z (w.heap.size+1+1) 138 (Z7 Z8 (0:Nat)):=(d.block _ h.b4.lt (λq=>by have:=m _ q;omega)).trans h.b4;have l:=f.set (Z7 Z8 ((0:Nat):Int));obtain ⟨n,u,g⟩:=h.b5;rw [b] at l ⊢;exact ⟨(a _ (by omega) h.b2.lt (by omega)).trans h.b2,(a _ (by omega) h.b3.lt (by omega)).trans h.b3,l,⟨n,u,(a _ (by omega) g.lt (by omega)).trans g⟩,r _ _ _ s i (λk a=>⟨by omega,λcs c z q=>by rw [a,show Z.heap[w.heap.size+1+1]?=ZW (Z4 _ 138 (0,0)) from f] at q;simp only [UF,U1] at q;rw [<- q.2.1];exact AL⟩),(h.out.trans d).later i (λk o e=>by omega),(a _ (by omega) (TX.1 h.dk).1 (by omega)).trans h.dk⟩
def Rz {W3:ZT} {M:Nat->Prop} {er:ZS} {a:Act} (h:PH w ar cf cp D1 M J W3) (_:∀ k,M k->k<w.heap.size) (x:∀ X Y (T:Nat->Prop),J X->aa T X Y->(∀ k,T k->w.heap.size<=k/\∀ cs j z,X.heap[k]?=ZW (Z4 cs j z)->¬ jS j)->J Y) (_:ErL er) (o:ZO W3 (w.heap.size+1+1+1) 63 er) (E:w.heap.size+4<=D1)
 (y:a.defers=[{ target:=.collected D1,args:=#[] }]) (h8:a.tmps.getD 4 ZY=Z6 (ZW ⟨w.heap.size+1+1,0,ZX⟩)) (h9:a.tmps.getD 5 ZY=Z6 (ZW ⟨w.heap.size+1+1+1,0,ZX⟩)) (hR:∀ Y,J Y->aa M w Y->R (Z3 (ZZ #[Z7 Z8 ((0:Nat):Int),er])) Y) :
 bodyPostM Fence.wide n ZN Tryz.f63 R .ret a ((W3.setCell ⟨w.heap.size+1+1,0,ZX⟩ (Z7 Z8 ((0:Nat):Int))).setCell ⟨w.heap.size+1+1+1,0,ZX⟩ er).drew:=by
 obtain ⟨i,e⟩:=nM (W3.setCell ⟨w.heap.size+1+1,0,ZX⟩ (Z7 Z8 ((0:Nat):Int)));obtain ⟨d,f⟩:=nM (i.setCell ⟨w.heap.size+1+1+1,0,ZX⟩ er);have l:∀ k,k≠w.heap.size+1+1->i.heap[k]?=W3.heap[k]?:=λk g=>by rw [<- e];exact Ud _ _ _ _ g
 have m:∀ k,k≠w.heap.size+1+1+1->d.heap[k]?=i.heap[k]?:=λk g=>by rw [<- f];exact Ud _ _ _ _ g
 have r:ZO d (w.heap.size+1+1) 138 (Z7 Z8 (0:Nat)):=by
  have:=h.b4.set (Z7 Z8 ((0:Nat):Int));rw [e] at this;exact (m _ (by omega)).trans this
 have v:ZO d (w.heap.size+1+1+1) 63 er:=by
  have:=(show ZO i (w.heap.size+1+1+1) 63 er from (l _ (by omega)).trans o).set er;rwa [f] at this
 have F:W3.heap.size=d.heap.size:=by rw [<- f,<- e];simp [World.setCell]
 have B:aa (λk=>k=w.heap.size+1+1\/k=w.heap.size+1+1+1) W3 d:=⟨by rw [<- f,<- e];rfl,by rw [<- f,<- e];rfl,by rw [<- f,<- e];rfl,by omega,λk _ g=>(m k (by omega)).trans (l k (by omega))⟩;have A:d.heap[D1]?=ZW (.deferred (ZW [])):=((m _ (by omega)).trans (l _ (by omega))).trans h.dk;rw [e,f];have p:aa (λk=>k=w.heap.size+1+1\/k=w.heap.size+1+1+1\/k=D1) W3 (d.drew.putObj D1 (.deferred ZX)):=((B.trans (aa.drew d)).mono λk _ q=>by omega).trans ⟨rfl,rfl,rfl,by simp [World.putObj],λk _ g=>US (by omega)⟩;refine JN (b:=w.heap.size+1+1) (c:=w.heap.size+1+1+1) (t:=4) (u:=5) (Z:=d.drew) results63 y h8 h9 (Bq (s:=0) (Z:=d.drew) r) (Ni (Z:=d.drew) v) A (by omega) (by omega) (hR _ ?_ ?_)
 . refine x _ _ _ h.arr p λk g=>⟨by omega,λcs j z q=>?_⟩;rcases g with rfl|rfl|rfl
   . rw [show W3.heap[w.heap.size+1+1]?=ZW (Z4 _ 138 (0,0)) from h.b4] at q;simp only [UF,U1] at q;rw [<- q.2.1];exact AL
   . rw [show W3.heap[w.heap.size+1+1+1]?=ZW (Z4 _ 63 (0,0)) from o] at q;simp only [UF,U1] at q;rw [<- q.2.1];exact Dz
   . rw [h.dk] at q;cases q
 . exact h.out.later p (λk C D=>by omega)
structure MdI (w:ZT) (ar v:Nat) (cf:FuncId) (cp:Array ZS) (N b6 b7 r g B:Nat) (M:Nat->Prop) (J:ZT->Prop) (X0:a8) (_pre:List (Sn X0)) (X:ZT):Prop where
 b2:ZO X w.heap.size 106 (Z6 (ZW ⟨ar,0,ZX⟩))
 b3:ZO X (w.heap.size+1) 172 (nH cf cp)
 b4:ZO X (w.heap.size+1+1) 138 (Z7 Z8 (0:Nat))
 b5:∃ er,ErL er/\ZO X (w.heap.size+1+1+1) 63 er
 b6:ZO X b6 151 (Z6 (ZW ⟨r,0,ZX⟩))
 b7:ZO X b7 106 (Z6 (ZW ⟨ar,0,ZX⟩))
 rd:∃ b0 gone sp,ew X r v b0 g N gone sp
 row:∃ f0,X.rowIs g 39 N f0
 arr:J X
 out:aa M w X
 size:B<=X.heap.size
def MdI.own {b6 b7:Nat} {M:Nat->Prop} {X0:a8} (A:∀ X Y (T:Nat->Prop),J X->aa T X Y->(∀ k,T k->w.heap.size<=k/\∀ cs c z,X.heap[k]?=ZW (Z4 cs c z)->¬ jS c)->J Y) (Q:w.heap.size+4<=B) (t:b6<B) (u:b7<B) (O:r<B) (E:g<B):OwnFrom B (MdI w ar v cf cp N b6 b7 r g B M J X0):=by
 rintro pre X Y row ⟨d,n,p,⟨l,C,s⟩,G,H,⟨b0,gone,sp,I⟩,⟨m,x⟩,y,D,F⟩ b f;have a:∀ k,k<B->Y.heap[k]?=X.heap[k]?:=λk a=>b.block k (by omega) (λe=>by have:=(f k e.symm).1;omega);have h:aa (λk=>row=ZW k) X Y:=⟨b.os,b.tape,b.output,b.size,λk K L=>b.block k K (λe=>L e.symm)⟩;refine ⟨(a _ (by omega)).trans d,(a _ (by omega)).trans n,(a _ (by omega)).trans p,⟨l,C,(a _ (by omega)).trans s⟩,(a _ t).trans G,(a _ u).trans H,⟨b0,gone,sp,I.keep (a _ O)⟩,⟨m,x.of_block (a _ E)⟩,A _ _ _ y h (λk e=>?_),D.later h (λk P d=>by have:=(f k d).1;omega),TU F b.size⟩;obtain ⟨R,o,i,j⟩:=f k e;refine ⟨by omega,λcs c z q=>?_⟩;rw [q] at i;have:=UJ i;rw [<- this] at j;cases j
theorem Nj {xs:aZ} (hl:aT w ar v p ps D L G t pg ob P xs A F) (hv:vG D L G Kind ps) (y7:ps.ps<w.heap.size) (z3:2<=A.nb) (hE:Ent cf) (qd:∀ X,aa (Mv v ps F) w X->Cho cf cp sg X) (ya:∀ x,x<2^A.n->sg x<2^A.n) :
 ZR ZN 63 #[Z6 (ZW ⟨ar,0,ZX⟩),nH cf cp] w λe Y=>e=Z3 (ZZ #[Z7 Z8 (0:Nat),.nilIface])/\MJ w ar v p D L G Kind ps A F Y/\aa (Mv v ps F) w Y:=by
 obtain ⟨m,HN⟩:∃ m:Nat,cA (9<=m):=⟨9,TV _⟩;have f:mS w ar v p ps D L G A F:=⟨hl.vol,hl.nar,hl.vlt,hl.arc.lt,hl.kit,hl.apt,hl.hl,hl.fine⟩;have ha:=hl.arc;have hJ:MJ w ar v p D L G Kind ps A F w:=⟨ps,A,⟨hv.kind,rfl,λ_ q=>.inl q⟩,⟨dZ.refl A,rfl⟩,f⟩;have hs:∀ k,Mv v ps F k->k<w.heap.size:=λk q=>by
  rcases q with q|q|q
  . exact hl.vol.arr.RO q
  . rw [q];exact hl.vol.vol.lt
  . exact ps.lt _ hl.kit k q
 have y2:¬ Mv v ps F ar:=λq=>by
  rcases q with q|q|q
  . exact hl.nar q
  . have:=hl.vlt;omega
  . exact (hl.apt _ q).2.1 rfl
 have qz:∀ k,(ar<k/\¬ F.S k/\¬ ps.bl k)->k<w.heap.size->(k<w.heap.size/\¬ Mv v ps F k):=λk q I=>⟨I,λe=>by
  rcases e with e|e|e
  . exact q.2.1 e
  . have:=hl.vlt;omega
  . exact q.2.2 e⟩
 have hP:=hl.pgs.wk qz;have hC:=hl.cat.wk qz;have qg:∀ X Y (T:Nat->Prop),MJ w ar v p D L G Kind ps A F X->aa T X Y->(∀ k,T k->w.heap.size<=k/\∀ cs Ty z,X.heap[k]?=ZW (Z4 cs Ty z)->¬ jS Ty)->MJ w ar v p D L G Kind ps A F Y:=λX Y T I M h3=>I.own f y7 M h3;have ks:=hl.disk.Ti;have xa:(bw.root D L G t (P.getD 0 0) (ai xs.os).length).ok:=by
  have I:=hl.packL_le;have M:=hl.turn;have h3:=hl.vol.par.d;have h4:=hl.vol.par.l4;have U:=hl.vol.par.g;have h6:P.getD 0 0<4294967296:=by
   have xi:0<P.length:=(by rw [hl.disk.pl];unfold pgs;omega);have:=(hl.disk.Ti (P.getD 0 0) (UL _ (by rw [je xi];exact TY xi))).2;have:=hl.nb;omega
  exact ⟨by omega,by omega,by omega,by omega,h6,by omega⟩
 obtain ⟨os,y6⟩:=nM (xs.os);rw [y6] at hC ks;have c0:=ha.cells.1;have qb:=ha.lt;obtain ⟨N,km⟩:=nM (A.n);have x9:A.n<=16:=by rw [f.vol.n];exact f.vol.par.s
 have O:=a7 f hJ ha qd hP hC;have kr:=λb hb=>hl.disk.data hl.vol.par.d1 (b:=b) hb;rw [y6] at kr;have y9:=hl.disk.root;have xy:=hl.disk.fill;have HD:=aE kr y9 xy;have E:=hide7 hs y2 qg ks hv ya y7;clear kr y9 xy;clear f hJ ha qd hP hC hs y2 qg ks qz hl ya;unfold nH;refine (Vc (n:=m)).1 ?_;refine Wf func63 rfl trivial ?_ rfl;simp only [ntmps63,UH,UD,UW,Nat.reduceAdd,Nat.reduceSub,Vj,Vk,Vl,Vm,Uo,UU];have c1:((((w.alloc (Z4 #[Z6 (ZW ⟨ar,0,ZX⟩)] 106)).alloc (Z4 #[.func (.func cf) #[] cp] 172)).alloc (Z4 #[Z7 Z8 0] 138)).alloc (Z4 #[.nilIface] 63)).cell? ⟨ar,0,ZX⟩=ZW (Z6 (ZW ⟨v,0,ZX⟩)):=(Uk (((((bA w _).alloc (by simp) _).alloc (by simp;omega) _).alloc (by simp;omega) _).block _ qb)).trans c0;gi_wp2;clear c1;obtain ⟨w4,kk⟩:=nM ((((w.alloc (Z4 #[Z6 (ZW ⟨ar,0,ZX⟩)] 106)).alloc (Z4 #[nH cf cp] 172)).alloc (Z4 #[Z7 Z8 0] 138)).alloc (Z4 #[.nilIface] 63));have k9:bW w w4:=by rw [<- kk];exact (((bA w _).alloc (by simp) _).alloc (by simp;omega) _).alloc (by simp;omega) _
 have xc:w4.heap.size=w.heap.size+4:=by rw [<- kk];simp
 have xb:ZO w4 w.heap.size 106 (Z6 (ZW ⟨ar,0,ZX⟩)):=by rw [<- kk];exact (((Ut w _ _).alloc _).alloc _).alloc _
 have ye:ZO w4 (w.heap.size+1) 172 (nH cf cp):=by
  rw [<- kk];have:=Ut (w.alloc (Z4 #[Z6 (ZW ⟨ar,0,ZX⟩)] 106)) 172 (nH cf cp);rw [Uq] at this;exact (this.alloc _).alloc _
 have yf:ZO w4 (w.heap.size+1+1) 138 (Z7 Z8 (0:Nat)):=by
  rw [<- kk];have:=Ut ((w.alloc (Z4 #[Z6 (ZW ⟨ar,0,ZX⟩)] 106)).alloc (Z4 #[nH cf cp] 172)) 138 (Z7 Z8 (0:Nat));rw [Uq,Uq] at this;exact this.alloc _
 have yg:ZO w4 (w.heap.size+1+1+1) 63 .nilIface:=by
  rw [<- kk];have:=Ut (((w.alloc (Z4 #[Z6 (ZW ⟨ar,0,ZX⟩)] 106)).alloc (Z4 #[nH cf cp] 172)).alloc (Z4 #[Z7 Z8 0] 138)) 63 .nilIface;rw [Uq,Uq,Uq] at this;exact this
 have zp:=xb.cell;have qk:=O.o.2.1.below k9;have qh:=qO (O.o.1.vol.vol.keep (k9.block _ O.o.1.vol.vol.lt)) O.o.1.vol.par.d O.o.1.vol.par.l4 O.o.1.vol.par.g (km.symm.trans O.o.1.vol.n);unfold nH at kk;rw [kk];have H4:=hide7 xb ye yf yg k9 qk qh;clear kk xb ye yf yg k9 qk qh;refine cj H4.o.2.2.2.2.2.2 ?_;rintro e w5 ⟨rfl,ka,hm,x0⟩;obtain ⟨r,hr⟩:=nM (w4.heap.size+2);obtain ⟨g,hg⟩:=nM (w4.heap.size+1);rw [hr] at ka ⊢;rw [hg] at ka hm;have yh:=x0.size;have y0:=ka.lt;have y1:=hm.lt;obtain ⟨u,qs⟩:=nM (w5.alloc (Z4 #[Z6 (ZW ⟨r,0,ZX⟩)] 151));have kh:bW w5 u:=by rw [<- qs];exact bA w5 _
 have hc:=x0.trans (kh.mono yh);have qv:ZO u w5.heap.size 151 (Z6 (ZW ⟨r,0,ZX⟩)):=by rw [<- qs];exact Ut w5 _ _
 have ki:=ka.keep (kh.block _ y0);have hn:=hm.of_block (kh.block _ y1);have z1:u.heap.size=w5.heap.size+1:=by rw [<- qs];simp
 have zs:u.cell? ⟨w.heap.size,0,ZX⟩=ZW (Z6 (ZW ⟨ar,0,ZX⟩)):=(Uk (hc.block w.heap.size (by omega))).trans zp;have qf:w.heap.size+4<=g/\w.heap.size+4<=r/\r≠g/\g<u.heap.size/\r<u.heap.size/\w.heap.size+4<=w5.heap.size/\w5.heap.size<u.heap.size/\r<w5.heap.size/\g<w5.heap.size:=by omega
 have H5:=a7 ki hn hc qv qf xc;clear ka hm x0 c0 zp ki hn hc kh qv z1 yh y0 y1 hr hg xc qf;gi_wp2;clear zs qs;refine cj (lK ar u) ?_;rintro e w' ⟨rfl,rfl⟩;have h7:ZO (u.alloc (Z4 #[Z6 (ZW ⟨ar,0,ZX⟩)] 106)) u.heap.size 106 (Z6 (ZW ⟨ar,0,ZX⟩)):=Ut u _ _;have xd:(u.alloc (Z4 #[Z6 (ZW ⟨ar,0,ZX⟩)] 106)).heap.size=u.heap.size+1:=by simp
 have kp:bW u (u.alloc (Z4 #[Z6 (ZW ⟨ar,0,ZX⟩)] 106)):=bA u _;obtain ⟨w7,yb⟩:=nM (u.alloc (Z4 #[Z6 (ZW ⟨ar,0,ZX⟩)] 106));have H7:=aE h7 xd kp;clear h7 xd kp;gi_wp2;rw [yb] at H7;clear yb;obtain ⟨s1,s2,s3,s4,s5,s6,s7,s8,s9⟩:=H5.o.2.2.2.2.1;have xd:=H7.o.2.1;have xz:MdI w ar v cf cp N w5.heap.size u.heap.size r g w7.heap.size (Mv v ps F) (MJ w ar v p D L G Kind ps A F) (P++af os) [] w7:=by
  obtain ⟨x2,x3,x4,x5,k9,qk,_⟩:=H4.o;obtain ⟨ki,hn,hc,qv,_,xc⟩:=H5.o;have kp:=H7.o.2.2;have ko:=hc.trans (kp.mono hc.size);have H:∀ k,k<w4.heap.size->w7.heap[k]?=w4.heap[k]?:=λk H=>ko.block k H;exact ⟨(H _ (by omega)).trans x2,(H _ (by omega)).trans x3,(H _ (by omega)).trans x4,⟨_,rfl,(H _ (by omega)).trans x5⟩,(kp.block _ s7).trans qv,H7.o.1,⟨_,_,_,ki.keep (kp.block _ s5)⟩,⟨_,hn.of_block (kp.block _ s4)⟩,qk.below ko,(aa.RN k9 _).trans (aa.RN ko _),TV _⟩
 have qy:∀ {x':ZS} {l:a8},bg (λk=>k<w.heap.size/\¬ Mv v ps F k) w x' l->bg (λk=>(k<w.heap.size/\¬ Mv v ps F k)\/k=u.heap.size) w x' l:=λ⟨ao,c,q1,q2,q3⟩=>⟨ao,c,q1,q2,λhl=>by obtain ⟨b,off,r1,r2,r3⟩:=q3 hl;exact ⟨b,off,r1,.inl r2,r3⟩⟩;have xj:=qy O.o.2.2.2.2.1;have xf:eN (λk=>(k<w.heap.size/\¬ Mv v ps F k)\/k=u.heap.size) w ob os:=by
  obtain ⟨ao,c,q1,q2,q3⟩:=O.o.2.2.2.2.2;refine ⟨ao,c,q1,q2,λhl=>?_⟩;obtain ⟨b,off,r1,r2,r3,r4⟩:=q3 hl;refine ⟨b,off,r1,.inl r2,r3,λi a=>?_⟩;obtain ⟨sv,t1,t2,t3,t4⟩:=r4 i a;exact ⟨sv,t1,t2,t3,qy t4⟩
 have qc:bW w w7:=by
  have k9:=H4.o.2.2.2.2.1;have hc:=H5.o.2.2.1;exact (k9.trans (hc.mono k9.size)).trans (H7.o.2.2.mono (by omega))
 have HI:=a5 xz xj xf qc;clear xz qy xj xf qc;refine Wg rfl (by have:=HN.o;omega) (gf:=122) (lb:=#[Z6 (ZW ⟨u.heap.size,0,ZX⟩)]) rfl trivial (Ve func122 (by kernel_rfl) rfl)
  (pN (λk=>(k<w.heap.size/\¬ Mv v ps F k)\/k=u.heap.size) (m-1) u.heap.size ar v D L G t (P.getD 0 0) (ai xs.os).length pg ob ZU P os (.inr rfl) (.inl ⟨qb,E.o.2.1⟩) w7 H7.o.1 (O.o.2.2.1.keep (HI.o.2.2.2.block _ qb)) (HI.o.2.1.keep (eu.RM HI.o.2.2.2)) (HI.o.2.2.1.keep (eu.RM HI.o.2.2.2)))
  (λh k=>h.trans k) (λW l o o' hl _ _ _=>⟨by simp [World.putObj],λk _ H=>US (by rcases H with H|H<;>omega)⟩) (TW _ _) (λ_=>rfl)
  (MdI w ar v cf cp N w5.heap.size u.heap.size r g w7.heap.size (Mv v ps F) (MJ w ar v p D L G Kind ps A F) (P++af os)) (λ_ _ _=>False) (MdI.own E.o.2.2.1 (by omega) (by omega) (by omega) (by omega) (by omega)) (λ_ _ _ _ _ h _ _=>h.elim) HI.o.1
  (λx=>{ tmps:=#[Z6 (ZW ⟨ar,0,ZX⟩),.func (.func cf) #[] cp,Z6 (ZW ⟨w.heap.size,0,ZX⟩),Z6 (ZW ⟨w.heap.size+1,0,ZX⟩),Z6 (ZW ⟨w.heap.size+1+1,0,ZX⟩),Z6 (ZW ⟨w.heap.size+1+1+1,0,ZX⟩),Z6 (ZW ⟨w5.heap.size,0,ZX⟩),Z7 Z9 (x.1:Nat),ZY,ZY,ZY,Z6 (ZW ⟨ar,0,ZX⟩),Z6 (ZW ⟨ar,0,ZX⟩),Z6 (ZW ⟨ar,0,ZX⟩),Z6 (ZW ⟨v,0,ZX⟩),Z6 (ZW ⟨r,0,ZX⟩),Z6 (ZW ⟨ar,0,ZX⟩),.func (.func 122) #[] #[Z6 (ZW ⟨u.heap.size,0,ZX⟩)],Z7 Z9 (x.1:Nat),ZY,ZY,ZY,ZY,ZY,ZY,ZY,ZY,ZY,ZY,ZY,ZY,ZY,ZY,ZY,ZY,ZY,ZY,ZY,ZY,ZY,ZY,ZY,ZY,ZY,ZY,ZY,ZY,ZY,ZY,ZY,ZY,ZY,ZY,ZY,ZY,ZY,ZY,ZY,ZY,ZY,ZY,ZY],defers:=[] }) ?assign ?body ?done ?stop
 case assign=>
  intro l2 x X Kk hK;unfold Pp nu;gi_wp2;exact hK
 case body=>
  rintro l2 pre x X a x6;obtain ⟨er,qn,U⟩:=a.b5;obtain ⟨b0,gone,sp,qh⟩:=a.rd;obtain ⟨f0,qi⟩:=a.row;obtain ⟨hd,B0,hq,J,Q⟩:=id a.arr;have f:=O.o.1;obtain ⟨dl,qm,xq,xv⟩:=HD.o.1 x.1 x.2;have hp:B0.at x.1 (Pu D L G dl):=qm.off J.1.n λi=>by rw [J.2]
  have hs:=E.o.1;have kj:qK X r v x.1 g N p D L G Kind hd B0 F dl:=
   { vol:=Q.vol,nN:=by rw [<- km];exact f.vol.n,hol:=by rw [<- km,f.vol.n];exact Q.hl,kit:=Q.kit,kind:=hq.1,apt:=λj hj=>⟨(Q.apt j hj).1,(Q.apt j hj).2.2.1,(Q.apt j hj).2.2.2⟩,vr:=by have:=f.vol.vol.lt;omega,vg:=by have:=f.vol.vol.lt;omega,rg:=s3,gF:=λe=>by have:=f.vol.arr.RO e;omega,rF:=λe=>by have:=f.vol.arr.RO e;omega,rK:=by have:=f.vol.room;omega,vK:=f.vlt.1,gK:=by have:=f.vol.room;omega,nb:=by rw [J.1.nb];exact (E.o.2.2.2.1 _ x.2).2,cw:=hp,len:=xq,byt:=xv,fine:=Q.fine }
  have yc:=JM kj E.o.2.2.2.2.1.sh qh qi;have c6:=a.b6.cell;have HX:=hide8 a U qn yc hq hp J Q;have z4:=a.size;clear x6 a U qn qh qi yc kj hq qm hp xq xv J Q f hs;gi_wp2;refine eR HX.o.2.2.2.1 ?_;intro e Y kz;obtain ⟨a,U,qn,_,hq,hp,J,Q⟩:=HX.o;have f:=O.o.1;have hs:=E.o.1;have ky:=kz.out;have k8:∀ k,w.heap.size<=k->k<X.heap.size->k≠r->k≠g->(∀ cs Ty z,X.heap[k]?=ZW (Z4 cs Ty z)->¬ jS Ty)->Y.heap[k]?=X.heap[k]?:=λk I M h3 h4 h6=>ky.block k M (λq=>by
   rcases q with q|q|q|q|q
   . exact h4 q
   . exact h3 q
   . have:=f.vol.vol.lt;omega
   . have:=f.vol.arr.RO q;omega
   . rcases hd.cl _ Q.kit k q with e3|⟨cs,Ty,z,e3⟩
     . have:=hq.2.1;omega
     . exact h6 _ _ _ e3 (hd.kd _ Q.kit k q _ _ _ e3))
  have kv:∀ {k:Nat} {T:ZP} {x:ZS},ZO X k T x->¬ jS T->∀ cs Ty z,X.heap[k]?=ZW (Z4 cs Ty z)->¬ jS Ty:=λ{k T x} hb hT cs Ty z q=>by
   rw [show X.heap[k]?=ZW (Z4 #[x] T (0,0)) from hb] at q;simp only [UF,U1] at q;rw [<- q.2.1];exact hT
  have kf:aa (Mv v ps F) w Y:=a.out.later ky (λk I M=>by
   rcases M with q|q|q|q|q
   . omega
   . omega
   . exact .inr (.inl q)
   . exact .inl q
   . rcases hq.2.2 k q with q|q
     . exact .inr (.inr q)
     . omega)
  have d2:ZO Y w.heap.size 106 _:=(k8 _ (by omega) (by omega) (by omega) (by omega) (kv a.b2 (by unfold jS;decide))).trans a.b2;have d3:ZO Y (w.heap.size+1) 172 _:=(k8 _ (by omega) (by omega) (by omega) (by omega) (kv a.b3 (by unfold jS;decide))).trans a.b3;have d4:ZO Y (w.heap.size+1+1) 138 _:=(k8 _ (by omega) (by omega) (by omega) (by omega) (kv a.b4 AL)).trans a.b4;have d5:ZO Y (w.heap.size+1+1+1) 63 _:=(k8 _ (by omega) (by omega) (by omega) (by omega) (kv U Dz)).trans U;have d7:ZO Y u.heap.size 106 _:=(k8 _ (by omega) (by omega) (by omega) (by omega) (kv a.b7 (by unfold jS;decide))).trans a.b7;have d6:ZO Y w5.heap.size 151 _:=(k8 _ (by omega) (by omega) (by omega) (by omega) (kv a.b6 (by unfold jS;decide))).trans a.b6;have xp:=kz.arr;obtain ⟨qr,qo,k1,k2,k3,k4,k5,k6⟩:=kz.kit;have qq:mS Y ar v p (qr.SD qo) D L G B0 F:=Q.gotR ky.size (λk I M h3=>ky.block k h3 (λq=>by
   have:=f.vol.room;rcases q with q|q|q|q|q
   . omega
   . omega
   . have:=f.vlt;omega
   . exact M q
   . have:=(Q.apt k q).1;omega)) xp (⟨E.o.2.2.2.2.1.re _ _ k1,k2,k3,k4,by rw [<- f.vol.n,km];exact k5,k6⟩:mR X v p D L G Kind hd B0 (qr.SD qo) Y)
  have q8:MJ w ar v p D L G Kind ps A F Y:=⟨qr.SD qo,B0,⟨E.o.2.2.2.2.1.re _ _ k1,k2.trans hq.2.1,λk q=>by
   rcases k6 k q with q|q
   . exact hq.2.2 k q
   . exact .inr (by omega)⟩,J,qq⟩
  obtain ⟨zz,ba,hz⟩:=kz.rd;obtain ⟨f1,gn,h0,rfl,yr,y8⟩:=kz.row;have z5:X.heap.size<=Y.heap.size:=ky.size;have qa:=O.o.2.2.1.keep (kf.block _ qb E.o.2.1);have HY:=hide12 a hz h0 q8 kf d2 d3 d4 d5 d6 d7 k8;have q9:((YE N).map (vR D L G dl)).length=N:=by simp
  have xk:Nq Y w.heap.size g ((YE N).map (vR D L G dl)):=by
   refine ⟨by omega,h0.lt,λi a=>?_⟩;rw [q9] at a;obtain ⟨bl,c,q1,q2,q3,q6⟩:=y8 i a;obtain ⟨q4,q5⟩:=pU f.vol.par dl (i:=i) (by have:=f.vol.n;omega);have cg:=h0.cell (i:=i) a;rw [q1] at cg;have e:((YE N).map (vR D L G dl))[i]'(by rw [q9];exact a)=vR D L G dl i:=(by simp);rw [e];exact ⟨bl,0,c,cg,by omega,q3,q6,q4,q5⟩
  have qd:=O.o.2.2.2.1 Y.drew (kf.trans (aa.drew Y)) gn;have yz:=E.o.2.2.2.2.2.1 gn (by rw [km];exact yr);have qe:∀ i,i∈ab (sg gn)->i<B0.n:=λi a=>by rw [J.1.n];exact vJ yz a
  have yd:=kZ (qq.vol.below ((TW _ Y).drew) lR) x.1 (sg gn) (by rw [J.1.nb];exact (E.o.2.2.2.1 _ x.2).2) (by have:=jJ x9;omega) qe (w:=Y.drew) (c:=N) (m:=N) (xk.keep lR λ_ _ _=>rfl) (λi a=>by rw [q9,<- km,<- J.1.n];exact qe i a) (Nat.le_of_eq q9) (λk H=>f.vol.arr.RO H);have qj:ZR ZN 88 #[Z6 (ZW ⟨v,0,ZX⟩),Z7 Z9 x.1,Z5 (ZW ⟨g,0,ZX⟩) N N,Z7 Z8 (sg gn)] Y.drew λe w'=>e=Z3 (Z7 Z8 (0:Nat))/\MJ w ar v p D L G Kind ps A F w'/\aa F.S Y.drew w':=yd.mono λe Z h=>by
   obtain ⟨I,M,h3⟩:=h;have ep:B0.putAt (ab (sg gn)) x.1 (λi=>.shard (((YE N).map (vR D L G dl)).getD i []))=B0.putAt (ab (sg gn)) x.1 (Pu D L G dl):=by
    unfold aF.putAt;congr 1;funext i m;by_cases q:m=x.1/\i∈ab (sg gn)
    . have ys:i<N:=(by rw [<- km,<- J.1.n];exact qe i q.2);simp [q,Pu,T6,ys]
    . rw [TS q,TS q]
   rw [ep] at M;exact ⟨I,⟨qr.SD qo,_,⟨E.o.2.2.2.2.1.re _ _ k1,k2.trans hq.2.1,λk q=>by
    rcases k6 k q with q|q
    . exact hq.2.2 k q
    . exact .inr (by omega)⟩,⟨J.1.trans (dZ.put _ _ _ _),(Ng hp qe).trans J.2⟩,(qq.below ((TW _ Y).drew)).put M (dZ.put _ _ _ _) h3⟩,h3⟩
  have e3:=d3.cell;have e5:=qa.cells.1;unfold nH at e3;have x7:=d4.lt;have HC:=al qd qj;clear a U hq hp J Q hs ky k8 kv kf d2 d3 d4 d5 d6 d7 xp k1 k2 k3 k4 k5 k6 qq q8 hz h0 qa kz y8 q9 xk qd yd qj f qe;gi_wp2;obtain ⟨a,hz,h0,q8,kf,d2,d3,d4,d5,d6,d7,k8⟩:=HY.o;have f:=O.o.1;have K:∀ k,w.heap.size<=k->¬ F.S k:=λk H q=>by have:=f.vol.arr.RO q;omega
  have hf:∀ Z,aa F.S Y Z->Z.cell? ⟨w.heap.size,0,ZX⟩=ZW (Z6 (ZW ⟨ar,0,ZX⟩))/\Z.cell? ⟨w.heap.size+1,0,ZX⟩=ZW (.func (.func cf) #[] cp)/\Z.cell? ⟨w.heap.size+1+1,0,ZX⟩=ZW (Z7 Z8 (0:Nat))/\Z.cell? ⟨ar,0,ZX⟩=ZW (Z6 (ZW ⟨v,0,ZX⟩)):=λZ R=>⟨WG ((R.block _ d2.lt (K _ (by omega))).trans d2),WG ((R.block _ d3.lt (K _ (by omega))).trans d3),WG ((R.block _ d4.lt (K _ (by omega))).trans d4),(Uk (R.block _ (TZ qb kf.size) f.nar)).trans e5⟩;refine dH (iZ _) 12 [(0,ZV),(1,ZV),(2,ZV),(3,ZV),(4,ZV),(5,ZV),(6,ZV),(7,ZV),(8,ZV),(9,ZU),(10,ZU),(11,ZV),(12,ZU)] (λZ=>Z.cell? ⟨w.heap.size,0,ZX⟩=ZW (Z6 (ZW ⟨ar,0,ZX⟩))/\Z.cell? ⟨w.heap.size+1,0,ZX⟩=ZW (.func (.func cf) #[] cp)/\Z.cell? ⟨w.heap.size+1+1,0,ZX⟩=ZW (Z7 Z8 (0:Nat))/\Z.cell? ⟨ar,0,ZX⟩=ZW (Z6 (ZW ⟨v,0,ZX⟩))) (by kernel_rfl) (by kernel_rfl) (hf _ (aa.drew Y)) ?_;iterate 9 (refine a9 rfl rfl ?_;apply YF;refine ⟨λw' V=>?_,?_⟩;(obtain ⟨s1,s2,s3,s4⟩:=V;first|(go_simp;done)|(go_simp;exact rfl));simp only [Act.put,Ue,Uc,Uf])
  have yo:∀ (args:Array ZS) (w:ZT),(callFunc cf args).run ZN w=.ok (.enter cf args) w:=hE;refine gB (iZ _) HC.o.1 rfl rfl nofun (by go_simp) ?_;rintro e Z ⟨rfl,rfl⟩;refine ⟨_,rfl,λ_=>hf _ (aa.drew Y),?_⟩;simp only [Act.put,Ue,Uc,Uf];refine gB (iZ _) HC.o.2 rfl rfl nofun (by go_simp) ?_;rintro e Z ⟨rfl,kb,kx⟩;have xm:=hf _ ((aa.drew Y).trans kx);have y5:bits .or .u64 0 0=0:=by decide
  refine ⟨_,rfl,λ_=>xm,?_⟩;simp only [Act.put,Ue,Uc,Uf];refine a9 rfl rfl ?_;apply YF;refine ⟨λw' V=>?_,?_⟩;(obtain ⟨s1,s2,s3,s4⟩:=V;first|(go_simp;done)|(go_simp;exact rfl));simp only [Act.put,Ue,Uc,Uf];have x1:ZO Z (w.heap.size+1+1) 138 _:=(((aa.drew Y).trans kx).block _ d4.lt (K _ (by omega))).trans d4;have f4:=x1.frozen;have c4:=x1.cell;refine lC (iZ _) (w1:=Z.setCell ⟨w.heap.size+1+1,0,ZX⟩ (Z7 Z8 ((0:Nat):Int))) rfl rfl nofun (by go_simp) (absurd rfl) (gL ?_);have HZ:=aE kb kx K;clear a hz h0 q8 kf d2 d3 d4 d5 d6 d7 k8 f K kb kx e3 e5 hf xm x1 f4 c4 yo y5;simp only [Act.put];gi_wp2;obtain ⟨a,hz,h0,q8,kf,d2,d3,d4,d5,d6,d7,k8⟩:=HY.o;obtain ⟨kb,kx,K⟩:=HZ.o;have ke:aa F.S Y Z:=(aa.drew Y).trans kx;obtain ⟨W,B⟩:=nM (Z.setCell ⟨w.heap.size+1+1,0,ZX⟩ (Z7 Z8 ((0:Nat):Int)));rw [B];have xo:∀ k,k≠w.heap.size+1+1->W.heap[k]?=Z.heap[k]?:=λk H=>by rw [<- B];exact Ud _ _ _ _ H
  have z2:Z.heap.size=W.heap.size:=by rw [<- B];simp [World.setCell]
  have xg:aa (λk=>k=w.heap.size+1+1) Z W:=⟨by rw [<- B];rfl,by rw [<- B];rfl,by rw [<- B];rfl,by omega,λk _ H=>xo k H⟩;have z6:=ke.size;have kg:∀ k,w.heap.size<=k->k<Y.heap.size->k≠w.heap.size+1+1->W.heap[k]?=Y.heap[k]?:=λk I M h3=>(xo k h3).trans (ke.block k M (K k I));have zr:ZO Z (w.heap.size+1+1) 138 _:=(ke.block _ x7 (K _ (by omega))).trans d4;have yn:=E.o.2.2.1 _ _ _ kb xg (λk H=>⟨by omega,λcs Ty z q=>by rw [H,show Z.heap[w.heap.size+1+1]?=ZW (Z4 _ 138 (0,0)) from zr] at q;simp only [UF,U1] at q;rw [<- q.2.1];exact AL⟩);have k9:ZO W (w.heap.size+1+1) 138 (Z7 Z8 (0:Nat)):=by rw [<- B];exact zr.set _
  have hh:aa (Mv v ps F) w Z:=kf.trans (ke.mono λk _ q=>.inl q);have xh:aa (Mv v ps F) w W:=hh.later xg (λk I M=>by omega);refine ⟨⟨by omega,λk o H ho yv=>?_⟩,⟨by omega,λk H hK=>?_⟩,?_⟩
  . exact (kg k (by omega) (by have:=(TX.1 ho).1;omega) (by omega)).trans ((k8 k (by omega) (TX.1 ho).1 (by omega) (by omega) (λcs Ty z q=>by rw [q] at ho;have:=UJ ho;subst this;cases yv)).trans ho)
  . rcases hK with ⟨I,M⟩|I
    . exact (xh.block k I M).trans (a.out.block k I M).symm
    . subst I;exact (kg _ (by omega) (by omega) (by omega)).trans (d7.trans a.b7.symm)
  . exact ⟨(kg _ (by omega) (by omega) (by omega)).trans d2,(kg _ (by omega) (by omega) (by omega)).trans d3,k9,⟨_,qn,(kg _ (by omega) (by omega) (by omega)).trans d5⟩,(kg _ (by omega) (by omega) (by omega)).trans d6,(kg _ (by omega) (by omega) (by omega)).trans d7,⟨_,_,_,hz.keep (kg _ (by omega) (by omega) (by omega))⟩,⟨_,h0.of_block (kg _ (by omega) (by omega) (by omega))⟩,yn,xh,by omega⟩
 case done=>
  rintro D1 bc X ym z0 a hK;have qx:w.heap.size+4<=D1:=by omega
  have k0:PH w ar cf cp D1 (Mv v ps F) (MJ w ar v p D L G Kind ps A F) X:=⟨a.b2,a.b3,a.b4,a.b5,a.arr,a.out,hK⟩;have K:∀ k,w.heap.size<=k->¬ Mv v ps F k:=λk H q=>by have:=E.o.1 k q;omega
  have kc:∀ (W:ZT) (b:Nat) (rc:bw),PH w ar cf cp D1 (Mv v ps F) (MJ w ar v p D L G Kind ps A F) W->b<A.nb->rc.ok->Mw rc->A.at b (λ_=>rc)->ZR ZN 89 #[Z6 (ZW ⟨ar,0,ZX⟩),Z7 Z9 b,cZ rc,nH cf cp] W.drew λe Y=>e=Z3 (Z7 Z8 (0:Nat))/\MJ w ar v p D L G Kind ps A F Y/\aa (Mv v ps F) W.drew Y:=λW b rc B hb yx yp qm=>by
   obtain ⟨hd,B0,hq,J,Q⟩:=B.arr;have ha:=O.o.2.2.1;have y4:=Q.below ((TW _ W).drew);have kc:=vN (w:=W.drew) (cf:=cf) (cp:=cp) (sg:=sg) (b:=b) (r:=rc) y4 (ha.keep (w':=W.drew) (B.out.block _ ha.lt E.o.2.1)) hE (λX' R=>O.o.2.2.2.1 X' ((B.out.trans (aa.drew W)).trans (R.mono λk _ q=>.inl q))) (λy hy=>by rw [J.1.n] at hy ⊢;exact E.o.2.2.2.2.2.1 y hy) (by rw [J.1.nb];exact hb) yx yp (qm.off J.1.n λi=>by rw [J.2]);refine kc.mono λe Y h=>?_;obtain ⟨I,⟨C,hC,yk,yj⟩,R⟩:=h;exact ⟨I,⟨hd,C,hq,⟨J.1.trans hC,yk.trans J.2⟩,y4.put yj hC R⟩,R.mono λk _ q=>.inl q⟩
  have HE:=aE k0 K kc;clear a hK k0 K kc z0;gi_wp2;obtain ⟨k0,K,kc⟩:=HE.o;obtain ⟨f1,xx⟩:=nM (P.getD 0 0);obtain ⟨n1,y3⟩:=nM ((ai xs.os).length);have ha:=O.o.2.2.1;have qp:=kc X 0 _ k0 (by omega) xa trivial HD.o.2.1;rw [xx,y3] at ha qp;have hf:∀ W Z,PH w ar cf cp D1 (Mv v ps F) (MJ w ar v p D L G Kind ps A F) W->aa (Mv v ps F) W Z->Z.cell? ⟨w.heap.size,0,ZX⟩=ZW (Z6 (ZW ⟨ar,0,ZX⟩))/\Z.cell? ⟨w.heap.size+1,0,ZX⟩=ZW (.func (.func cf) #[] cp)/\Z.cell? ⟨w.heap.size+1+1,0,ZX⟩=ZW (Z7 Z8 (0:Nat))/\bf Z ar v D L G t f1 n1 pg ob ZU:=λW Z B R=>⟨WG ((R.block _ B.b2.lt (K _ (by omega))).trans B.b2),WG ((R.block _ B.b3.lt (K _ (by omega))).trans B.b3),WG ((R.block _ B.b4.lt (K _ (by omega))).trans B.b4),ha.keep ((B.out.trans R).block _ ha.lt E.o.2.1)⟩;have kj:∀ W Z,PH w ar cf cp D1 (Mv v ps F) (MJ w ar v p D L G Kind ps A F) W->aa (Mv v ps F) W Z->Z.frozen? ⟨w.heap.size+1+1,0,ZX⟩=ZU:=λW Z B R=>Boxed.frozen ((R.block _ B.b4.lt (K _ (by omega))).trans B.b4);have y5:bits .or .u64 0 0=0:=by decide
  change ZR ZN 89 #[Z6 (ZW ⟨ar,0,ZX⟩),Z7 Z9 (0:Nat),.iface 130 (.agg (aj D L G t f1 n1)),.func (.func cf) #[] cp] _ _ at qp;refine dH qW 10 [(0,ZV),(1,ZV),(2,ZV),(3,ZV),(4,ZV),(5,ZV),(6,ZV),(7,ZV),(8,ZU),(9,ZV),(10,ZU)] (λZ=>Z.cell? ⟨w.heap.size,0,ZX⟩=ZW (Z6 (ZW ⟨ar,0,ZX⟩))/\Z.cell? ⟨w.heap.size+1,0,ZX⟩=ZW (.func (.func cf) #[] cp)/\Z.cell? ⟨w.heap.size+1+1,0,ZX⟩=ZW (Z7 Z8 (0:Nat))/\bf Z ar v D L G t f1 n1 pg ob ZU) (by kernel_rfl) (by kernel_rfl) (hf X _ k0 (aa.drew X)) ?_;iterate 5 (refine a9 rfl rfl ?_;apply YF;refine ⟨λw' V=>?_,?_⟩;(obtain ⟨s1,s2,s3,s4⟩:=V;first|(go_simp;done)|(go_simp;exact rfl));simp only [Act.put,Ue,Uc,Uf])
  refine a9 rfl rfl ⟨.agg (aj D L G t f1 n1),λw' V=>by simp [execOp,Act.eval,FK V.2.2.2],?_⟩;simp only [Act.put,Ue,Uc,Uf];iterate 2 (refine a9 rfl rfl ?_;apply YF;refine ⟨λw' V=>?_,?_⟩;(obtain ⟨s1,s2,s3,s4⟩:=V;first|(go_simp;done)|(go_simp;exact rfl));simp only [Act.put,Ue,Uc,Uf])
  refine gB qW qp rfl rfl nofun (by go_simp) ?_;rintro e Z ⟨rfl,kb,hh⟩;refine ⟨_,rfl,λ_=>hf X _ k0 ((aa.drew X).trans hh),?_⟩;simp only [Act.put,Ue,Uc,Uf];refine a9 rfl rfl ?_;apply YF;refine ⟨λw' V=>?_,?_⟩;(obtain ⟨s1,s2,s3,s4⟩:=V;first|(go_simp;done)|(go_simp;exact rfl));simp only [Act.put,Ue,Uc,Uf];have f4:=kj X Z k0 ((aa.drew X).trans hh);have c4:=(hf X Z k0 ((aa.drew X).trans hh)).2.2.1;refine lC qW (w1:=Z.setCell ⟨w.heap.size+1+1,0,ZX⟩ (Z7 Z8 ((0:Nat):Int))) rfl rfl nofun (by go_simp) (absurd rfl) (gL ?_);simp only [Act.put];clear f4 c4 qp;have HS:=al hf kj;clear hf kj;have k7:=k0.next E.o.1 E.o.2.2.1 qx kb hh;obtain ⟨W,B⟩:=nM (Z.setCell ⟨w.heap.size+1+1,0,ZX⟩ (Z7 Z8 ((0:Nat):Int)));rw [B] at k7 ⊢;obtain ⟨er,yq,U⟩:=id k7.b5;have c5:=U.cell;have yi:=al k7 U;clear k0 K kc ha kb hh k7 B U xx y3;obtain rfl:er=.nilIface:=yq;gi_wp2;clear c5;obtain ⟨k7,U⟩:=yi.out;obtain ⟨k0,K,kc⟩:=HE.o;obtain ⟨hf,kj⟩:=HS.o;have x8:=kc W 1 .filled k7 (by omega) trivial trivial HD.o.2.2;change ZR ZN 89 #[Z6 (ZW ⟨ar,0,ZX⟩),Z7 Z9 (1:Nat),.iface 181 (.agg #[]),.func (.func cf) #[] cp] _ _ at x8;refine dH qW 7 [(0,ZV),(1,ZV),(2,ZV),(3,ZV),(4,ZV),(5,ZU),(6,ZV),(7,ZU)] (λZ=>Z.cell? ⟨w.heap.size,0,ZX⟩=ZW (Z6 (ZW ⟨ar,0,ZX⟩))/\Z.cell? ⟨w.heap.size+1,0,ZX⟩=ZW (.func (.func cf) #[] cp)/\Z.cell? ⟨w.heap.size+1+1,0,ZX⟩=ZW (Z7 Z8 (0:Nat))/\bf Z ar v D L G t f1 n1 pg ob ZU) (by kernel_rfl) (by kernel_rfl) (hf W _ k7 (aa.drew W)) ?_;iterate 5 (refine a9 rfl rfl ?_;apply YF;refine ⟨λw' V=>?_,?_⟩;(obtain ⟨s1,s2,s3,s4⟩:=V;first|(go_simp;done)|(go_simp;exact rfl));simp only [Act.put,Ue,Uc,Uf])
  refine gB qW x8 rfl rfl nofun (by go_simp) ?_;rintro e Z2 ⟨rfl,kb,hh⟩;refine ⟨_,rfl,λ_=>hf W _ k7 ((aa.drew W).trans hh),?_⟩;simp only [Act.put,Ue,Uc,Uf];refine a9 rfl rfl ?_;apply YF;refine ⟨λw' V=>?_,?_⟩;(obtain ⟨s1,s2,s3,s4⟩:=V;first|(go_simp;done)|(go_simp;exact rfl));simp only [Act.put,Ue,Uc,Uf];have f4:=kj W Z2 k7 ((aa.drew W).trans hh);have c4:=(hf W Z2 k7 ((aa.drew W).trans hh)).2.2.1;refine lC qW (w1:=Z2.setCell ⟨w.heap.size+1+1,0,ZX⟩ (Z7 Z8 ((0:Nat):Int))) rfl rfl nofun (by go_simp) (absurd rfl) (gL ?_);simp only [Act.put];clear f4 c4 x8 hf kj;have q7:=k7.next E.o.1 E.o.2.2.1 qx kb hh;have q0:ZO (Z2.setCell ⟨w.heap.size+1+1,0,ZX⟩ (Z7 Z8 ((0:Nat):Int))) (w.heap.size+1+1+1) 63 .nilIface:=(Ud _ _ _ _ (by show w.heap.size+1+1+1≠w.heap.size+1+1;omega)).trans ((((aa.drew W).trans hh).block _ U.lt (K _ (by omega))).trans U);obtain ⟨W3,xn⟩:=nM (Z2.setCell ⟨w.heap.size+1+1,0,ZX⟩ (Z7 Z8 ((0:Nat):Int)));rw [xn] at q7 q0 ⊢;have c4:=q7.b4.cell;have f4:=q7.b4.frozen;have c5:=q0.cell;have f5:=q0.frozen;have xe:=al q7 q0;clear k0 k7 U kc K kb hh q7 xn q0;gi_wp2;gi_region
  gi_wp2;exact Rz xe.out.1 E.o.1 E.o.2.2.1 rfl xe.out.2 qx rfl rfl rfl (λY I M=>⟨rfl,I,M⟩)
 case stop=>
  rintro D1 cc pre X ym yy hx hK;exact hx.elim
end
section
section
variable {w Y:ZT} {ar v p D L G t:Nat} {Kind:aN->Prop} {ps ps':aN} {pg ob:ZS} {P:a8} {xs:aZ} {A B:aF} {F:aQ}
def aT.opn (h:aT w ar v p ps D L G t pg ob P xs A F) (ho:mS Y ar v p ps' D L G B F) (d:dZ A B) (o:B.rc=A.rc) (c:aa (Mv v ps F) w Y) (l:∀ k,ps'.bl k->ps.bl k\/w.heap.size<=k):aT Y ar v p ps' D L G t pg ob P xs B F:=by
 have hv:=h.vlt;have f:eu (λk=>ar<k/\¬ F.S k/\¬ ps.bl k/\¬ ps'.bl k) w Y:=⟨c.size,λk m a=>c.block k m (λq=>by
  rcases q with q|q|q
  . exact a.2.1 q
  . have:=a.1;omega
  . exact a.2.2.1 q)⟩
 have g:∀ k,(ar<k/\¬ F.S k/\¬ ps.bl k)->k<w.heap.size->(ar<k/\¬ F.S k/\¬ ps.bl k/\¬ ps'.bl k):=λk q r=>⟨q.1,q.2.1,q.2.2,λe=>(l k e).elim q.2.2 (by omega)⟩;have j:¬ Mv v ps F ar:=λq=>by
  rcases q with q|q|q
  . exact h.nar q
  . omega
  . exact (h.apt _ q).2.1 rfl
 exact { arc:=h.arc.keep (c.block _ h.arc.lt j),vol:=ho.vol,nar:=ho.nar,vlt:=ho.vlt,disk:=h.disk.off d.n d.nb λb _ i=>by rw [o],pgs:=((h.pgs.wk g).keep f).wk λk q _=>⟨q.1,q.2.1,q.2.2.2⟩,cat:=((h.cat.wk g).keep f).wk λk q _=>⟨q.1,q.2.1,q.2.2.2⟩,nb:=by rw [d.nb];exact h.nb,turn:=h.turn,kit:=ho.kit,apt:=ho.apt,hl:=ho.hl,fine:=ho.fine }
def RA (w:ZT) (ar v p D L G t:Nat) (Kind:aN->Prop) (ps:aN) (pg ob:ZS) (P:a8) (xs:aZ) (A:aF) (F:aQ) (e:ZQ) (Y:ZT):Prop:=e=Z3 .nilIface/\(∃ ps' B,aT Y ar v p ps' D L G t pg ob P xs B F/\(Kind ps'/\∀ k,ps'.bl k->ps.bl k\/w.heap.size<=k)/\dZ A B)/\aa (Mv v ps F) w Y
def Nk:Ent 64:=Ve func64 (by kernel_rfl) rfl
theorem Nl (X:ZT):Cho 64 #[] (λx=>x) X:=λbd=>by
 show ZR ZN 64 #[Z7 Z8 bd] X _;go_enter func64,ntmps64;go_wp2;go_ret;exact ⟨rfl,rfl⟩
def aaS (h:aT w ar v p ps D L G t pg ob P xs A F) {k:Nat} (a:Mv v ps F k):k<w.heap.size:=by
 rcases a with q|q|q
 . exact h.vol.arr.RO q
 . rw [q];exact h.vol.vol.lt
 . exact ps.lt _ h.kit k q
variable (h:aT w ar v p ps D L G t pg ob P xs A F) (hv:vG D L G Kind ps) (hnb:2<=A.nb)
include h hv hnb
theorem FL (g:ZO w q 106 (Z6 (ZW ⟨ar,0,ZX⟩))) (m:¬ Mv v ps F q) :
 ZR ZN 62 #[Z6 (ZW ⟨q,0,ZX⟩)] w (RA w ar v p D L G t Kind ps pg ob P xs A F):=by
 have f:=Nj h hv (hv.pk _ _ hv.kind h.kit) hnb Nk (λX _=>Nl X) (λx n=>n);unfold nH at f;have i:=g.cell;have d:=aE h hv g;clear h hv g;go_enter func62,ntmps62;go_wp2_with fail;refine f.mono ?_;rintro e Y ⟨rfl,⟨ps',B,⟨k1,k2,k3⟩,⟨b,c⟩,ho⟩,a⟩;have l:Y.cell? ⟨q,0,ZX⟩=ZW (Z6 (ZW ⟨ar,0,ZX⟩)):=(Uk (a.block _ d.o.2.2.lt m)).trans i;have hl:=d.o.1.opn ho b c a k3;have c0:=hl.arc.cells.1;obtain ⟨s,r⟩:=GR hl.vol.vol;have H:=a7 k1 k3 b c a ho;clear f k1 k2 k3 b c a ho hl i;go_wp2;go_ret;obtain ⟨k1,k3,b,c,a,ho⟩:=H.o;have j:aa (Mv v ps F) w (Y.setCell ⟨v,5,ZX⟩ (Z7 Z8 (0:Nat))):=a.later (aa.setCell (S:=λk=>k=v) _ _ _ rfl) (λk _ e=>.inr (.inl e));exact ⟨rfl,⟨ps'.SD 0,B,d.o.1.opn ho.SD b c j k3,⟨d.o.2.1.re _ _ k1,k3⟩,b⟩,j⟩
def GS (w:ZT) (ar v p D L G t:Nat) (Kind:aN->Prop) (ps:aN) (xs:aZ) (A:aF) (F:aQ) (e:ZQ) (w':ZT):Prop:=e=Z3 .nilIface/\(∃ pg ob P ps' B,aT w' ar v p ps' D L G t pg ob P xs B F/\(Kind ps'/\∀ k,ps'.bl k->ps.bl k\/w.heap.size<=k)/\dZ A B)/\aa (λj=>j=ar\/F.S j\/j=v\/ps.bl j) w w'
theorem RB:ZR ZN 46 #[Z6 (ZW ⟨ar,0,ZX⟩)] w (GS w ar v p D L G t Kind ps xs A F):=by
 have x:∀ (args:Array ZS) (w:ZT),(callFunc 62 args).run ZN w=.ok (.enter 62 args) w:=Ve func62 (by kernel_rfl) rfl;have a:bW w (w.alloc (Z4 #[Z6 (ZW ⟨ar,0,ZX⟩)] 106)):=bA w _;have d:ZO (w.alloc (Z4 #[Z6 (ZW ⟨ar,0,ZX⟩)] 106)) w.heap.size 106 (Z6 (ZW ⟨ar,0,ZX⟩)):=Ut w _ _;obtain ⟨w1,z⟩:=nM (w.alloc (Z4 #[Z6 (ZW ⟨ar,0,ZX⟩)] 106));rw [z] at a d;have i:=h.below a;have y:¬ Mv v ps F w.heap.size:=λq=>by have:=aaS h q;omega
 have n:=AE i 62 #[] #[Z6 (ZW ⟨w.heap.size,0,ZX⟩)] x (λr s xs' B ps' w2=>r=.nilIface/\s=t/\xs'=xs/\(Kind ps'/\∀ k,ps'.bl k->ps.bl k\/w.heap.size<=k)) (λj=>j=v\/ps.bl j) (λj e=>by
  rcases e with e|e
  . have:=h.vol.vol.lt;have:=a.size;omega
  . have:=ps.lt _ h.kit _ e;have:=a.size;omega) (λ_ _ _ _ _ _ _ _ q=>q)
  (λw2 g I=>by
   rw [show (#[]:Array ZS) ++ #[Z6 (ZW ⟨w.heap.size,0,ZX⟩)]=#[Z6 (ZW ⟨w.heap.size,0,ZX⟩)] by simp];refine (FL (i.below g) hv hnb ((g.block _ d.lt).trans d) y).mono ?_;rintro e K ⟨rfl,⟨ps',B,hl,⟨k1,k4⟩,c⟩,b⟩;exact ⟨.nilIface,t,pg,ob,P,xs,B,ps',rfl,.inl rfl,hl,c,b.mono λj _ C=>.inr C,rfl,rfl,rfl,k1,λk q=>(k4 k q).imp id λq=>TU a.size (TU g.size q)⟩)
 have E:=d.cell;have H:=al n a;clear n a d i h hv;go_enter func46,ntmps46;go_wp2_with fail;refine H.o.1.mono ?_;rintro e w' ⟨r,s,m,l,P',xs',B,ps',rfl,J,hl,c,b,rfl,rfl,rfl,f⟩;have u:=a5 hl c b f;clear hl c b f;go_wp2;go_ret;obtain ⟨hl,c,b,f⟩:=u.o;exact ⟨rfl,⟨m,l,P',ps',B,hl,f,c⟩,(aa.RN H.o.2 _).trans b⟩
theorem RD (hs:ZO w sa 108 (Z6 (ZW ⟨ar,0,ZX⟩))):ZR ZN 32 #[Z6 (ZW ⟨sa,0,ZX⟩)] w (GS w ar v p D L G t Kind ps xs A F):=by
 have cs:=hs.cell;have c:=RB h hv hnb;clear h hv hs;go_enter func32,ntmps32;go_wp2_with fail;refine c.mono ?_;rintro e w' ⟨rfl,a⟩;have b:=ak a;clear a;go_wp2;go_ret;exact ⟨rfl,b.o⟩
end
end
section
section
variable {KW w0 w:ZT} {wb D L G nb t:Nat} {xs:aZ} {Q:List (ByteArray×ZS)} {p r sa ar v:Nat} {Kind:aN->Prop} {ps:aN} {pg ob:ZS} {P:a8} {A:aF} {F:aQ} {out want:ZS} {cache:Int}
theorem FM (h:MB w0 w wb D L G nb t xs p r sa ar v Kind ps pg ob P A F out want cache) (I:Dc KW w r Q xs out want) (o:rH) (q:ZS) (M:∃ g m i,q=.slice g m i) (N:o.kind=6) :
 ZR ZN 9 #[Z6 (ZW ⟨wb,0,ZX⟩),.agg #[Z7 Z9 o.kind,Z7 Z9 o.a,Z0 o.s,q]] w λe w'=>e=Z3 (Z1 ZV)/\MS KW (dZ A) w0 w' wb D L G nb (t+1):=by
 obtain ⟨g,m,i,rfl⟩:=M;obtain ⟨w1,k⟩:=nM (w.alloc (Z4 #[Z7 Z9 o.kind,Z7 Z9 o.a,Z0 o.s,.slice g m i] 41));have d:=Rw h I o _ k;have C:=RD d.b.live d.b.shv (by have:=d.b.live.disk.room;omega) d.b.box;obtain ⟨J,U,V,W⟩:=d.op.cells;have S:=d.b.wbA.cells.2.2.2.2.1;have n:=ak d;clear d h I;rw [N] at J k ⊢;go_enter func9,ntmps9;go_wp2_with fail;clear J U V W k;refine C.mono ?_;rintro e w2 ⟨rfl,⟨R,O,P',ps',B,hl,⟨E,x⟩,l⟩,H⟩;obtain ⟨u,z⟩:=n.o.b.Tu H hl l.nb E x;have y:=n.o.c.keep z lR;have f:=aE u y l;clear C S hl E x l H u z y;go_wp2_with fail;refine (nZ _).mono ?_;rintro e T ⟨rfl,j⟩;have K:=ak (show MS KW (dZ A) w0 T wb D L G nb (t+1) from ⟨_,_,_,_,_,_,_,_,_,_,_,_,_,_,_,_,_,_,f.o.1.below j,f.o.2.1.keep (iS.below j _) lR,by omega,f.o.2.2⟩);clear j;go_wp2;go_ret;exact ⟨rfl,K.o⟩
end
def MS.SB (h:MS KW C w0 w wb D L G nb T):MS w C w0 w wb D L G nb T:=by
 obtain ⟨t,xs,Q,p,r,sa,ar,v,Kind,ps,pg,ob,P,A,F,out,want,cache,b,a,c⟩:=h;exact ⟨t,xs,Q,p,r,sa,ar,v,Kind,ps,pg,ob,P,A,F,out,want,cache,b,⟨a.ref,a.rel,a.ow,λ_ _ _=>rfl⟩,c⟩
def MS.base (h:MS KW C w0 w wb D L G nb T):bW w0 w:=by
 obtain ⟨t,xs,Q,p,r,sa,ar,v,Kind,ps,pg,ob,P,A,F,out,want,cache,a,_⟩:=h;exact a.base
def MS.marks (h:MS KW C w0 w wb D L G nb T) {k:Nat} {cs:Array ZS} (b:KW.heap[k]?=ZW (Z4 cs 61 (0,0))):w.heap[k]?=KW.heap[k]?:=by
 obtain ⟨t,xs,Q,p,r,sa,ar,v,Kind,ps,pg,ob,P,A,F,out,want,cache,_,a,_⟩:=h;exact a.mks k cs b
def HaR (w0:ZT) (C:aF->Prop) (wb D L G nb T:Nat) (i ok:ZS) (wr:ZT):Prop:=∃ k:Nat,k<=1001/\i=Z7 Z9 (k:Nat)/\ok=Z1 ZV/\MS wr C w0 wr wb D L G nb (T+k)
theorem RE (h:MS KW C w0 w wb D L G nb T) (U:∀ A B,dZ A B->C A->C B) :
 ZR ZN 10 #[Z6 (ZW ⟨wb,0,ZX⟩)] w λe w'=>e=Z3 (Z1 ZV)/\bW w0 w':=by
 obtain ⟨t,xs,Q,p,r,sa,ar,v,Kind,ps,pg,ob,P,A,F,out,want,cache,a,b,Z,c⟩:=h;have E:=za a b ⟨4,0,YG,[]⟩ (Z5 ZX 0 0) ⟨_,_,_,rfl⟩ rfl c;clear a b c;go_enter func10,ntmps10;go_wp2_with fail;refine E.mono ?_;rintro e w1 ⟨rfl,H⟩;have n:=ak (show MS w1 C w0 w1 wb D L G nb (T+1) from (H.mono (by omega) λ_ q=>q).SB);clear E H;go_wp2_with fail;go_loopw [3,4] (λok i wx=>HaR w0 C wb D L G nb (T+1) i ok wx) (λ_ i _=>1001-(intOf i).toNat)
 case atStart=>exact ⟨0,T5 _,rfl,rfl,n.o⟩
 case round=>
  clear n;obtain ⟨k,Y,rfl,rfl,t',xs,Q,p,r,sa,ar,v,Kind,ps,pg,ob,P,A,F,out,want,cache,a,b,X,c⟩:=hrel;obtain ⟨rb,rv,j⟩:=b.ref;have O:=a.wbA.cells.2.2.2.2.2.1;have c0:=j.cell.1;have l:=j.shape;obtain ⟨ra,rc,rfl⟩:=bE j.own;have z:=b.rel.len;have y:Q.length<=1000:=by
   have:=a.live.Si.1;have e:xs.os.length=xs.length:=(by simp [aZ.os]);omega
  have N:=ak a.base;by_cases d:k<Q.length
  . obtain ⟨g,V,K⟩:∃ g,ra=ZW ⟨g,0,ZX⟩/\wr.cell? ⟨g,k*2,ZX⟩=ZW (Z0 Q[k].1):=by
     rcases l with ⟨_,e⟩|⟨g,cap,e,_,_,R⟩
     . rw [e] at d;simp at d
     . simp only [VH] at e;exact ⟨g,e.1,(R k d).1⟩
    subst V;obtain ⟨x,J⟩:=nM (Q[k].1);rw [J] at K;have I:=Dx a b ⟨2,0,x,[]⟩ (Z5 ZX 0 0) ⟨_,_,_,rfl⟩ rfl;obtain ⟨m,f⟩:=nM (Q.length);rw [f] at c0 d y;have S:(k:Int)<(m:Int):=(by omega);have s:=al I c;clear I a b j l z J f c;go_wp2_with fail;refine s.o.1.mono ?_;rintro e W ⟨rfl,u⟩;have M:=ak (show HaR w0 C wb D L G nb (T+1) (Z7 Z9 ((k:Int)+1)) (Z1 ZV) W from ⟨k+1,by omega,rfl,rfl,(u.mono (by omega) λB q=>U _ B q s.o.2).SB⟩);clear u O c0 K;go_wp2;exact ⟨M.o,by simp [intOf];omega⟩
  . obtain ⟨m,f⟩:=nM (Q.length);rw [f] at c0 d y;have S:¬ (k:Int)<(m:Int):=(by omega);clear a b j l z f c;go_wp2;go_ret;exact ⟨rfl,N.o⟩
end
section
def Ns (M:List (Nat×Nat)):List ZS:=M.flatMap λm=>[Z7 Z9 (m.1:Nat),Z7 Z9 (m.2:Nat)]
def Mk (w0 w:ZT) (tv:ZS) (M:List (Nat×Nat)):Prop:=w.ownsRow w0.heap.size 61 2 tv M.length (Ns M)
structure zc (S:Nat) (A B:aF):Prop where
 n:B.n=A.n
 nb:B.nb=A.nb
 rc:B.rc=A.rc
 on:A.on S->B.on S
def zc.refl (S:Nat) (A:aF):zc S A A:=⟨rfl,rfl,rfl,id⟩
def zc.trans {B C:aF} (h:zc S A B) (k:zc S B C):zc S A C:=⟨k.n.trans h.n,k.nb.trans h.nb,k.rc.trans h.rc,λc=>k.on (h.on c)⟩
def zc.SF {d:Nat} (A:aF) (b:Nat) (c:S.testBit d=ZV):zc S A (A.SF d b):=⟨rfl,rfl,rfl,λh i m q=>by
 have a:(if i=d/\m=b then ZV else A.bad i m)=ZV:=q;by_cases e:i=d/\m=b
 . rw [e.1];exact c
 . rw [TS e] at a;exact h i m a⟩
def zc.turn {d:Nat} (A:aF) (b:Nat) (a:S.testBit d=ZV):zc S A (A.turn d b):=⟨rfl,rfl,rfl,(zc.SF A b a).on⟩
def mkK (w0 w:ZT) (k:Nat):Prop:=w0.heap.size<=k/\∃ cs,w.heap[k]?=ZW (Z4 cs 61 (0,0))
def mkK.no {cs:Array ZS} {T:ZP} {z:Nat×Nat} (h:w.heap[k]?=ZW (Z4 cs T z)) (a:T≠61):¬ mkK w0 w k:=λ⟨_,cs',e⟩=>by
 rw [h] at e;simp only [UF,U1] at e;exact a e.2.1
def aT.ruin {xs:aZ} {B:aF} (h:aT w ar v p ps D L G t pg ob P xs A F) (r:3<=w0.heap.size) (l:aA w' p B F) (c:aa (λk=>F.S k\/mkK w0 w k) w w') (a:zc S A B) (o:B.fine D L G):aT w' ar v p ps D L G t pg ob P xs B F:=by
 have hK:∀ k,Nm w k->(ar<k/\¬ F.S k/\¬ ps.bl k)->w'.heap[k]?=w.heap[k]?:=λk d hK=>c.block k d.lt λq=>q.elim hK.2.1 λq=>by
  obtain ⟨cs,T,z,e,m⟩:=d;exact mkK.no e m q
 have f:w.heap[ar]?=ZW (Z4 _ 135 (0,0)):=h.arc;have j:w.heap[v]?=ZW (Z4 _ 144 (0,0)):=h.vol.vol;exact { h with fine:=o,arc:=h.arc.keep (c.block _ h.arc.lt λq=>q.elim h.nar (mkK.no f (by decide))),vol:={ h.vol with vol:=h.vol.vol.keep (c.block _ h.vol.vol.lt λq=>q.elim h.vol.v (mkK.no j (by decide))),arr:=l,laid:=h.vol.laid.keep (c.block _ h.vol.laid.lt λq=>q.elim h.vol.g λq=>by have:=q.1;omega),tab:=h.vol.tab.keep (c.block _ h.vol.tab.lt λq=>q.elim h.vol.t λq=>by have:=q.1;omega),room:=TU h.vol.room c.size,n:=a.n.trans h.vol.n },disk:=h.disk.off a.n a.nb λb _ i=>by rw [a.rc],pgs:=h.pgs.Sw hK,cat:=h.cat.Sw hK,nb:=by rw [a.nb];exact h.nb,kit:=ps.keep _ _ h.kit λk a=>c.block k (ps.lt _ h.kit k a) λq=>q.elim (h.apt k a).2.2.2 λ⟨_,cs,e⟩=>bZ h.kit e (by unfold jS;decide) a }
def FS (w0 ws w:ZT) (p S:Nat) (A:aF) (F:aQ) (tv:ZS) (m:Nat):Prop:=∃ B M,aa (λk=>F.S k\/mkK w0 ws k) ws w/\qw w p B F M/\zc S A B/\Mk w0 w tv M/\M.length<=m
def Mk.below {tv:ZS} (h:Mk w0 w tv M) (a:bW w w'):Mk w0 w' tv M:=ay h a
def Mk.apart {tv:ZS} (h:Mk w0 w tv M) (c:aA w p A F) {k:Nat} (f:tv.ownBlock=ZW k):¬ F.S k:=λq=>by
 obtain ⟨cs,T,d,b⟩:=c.kind q;obtain ⟨cur,a⟩:=bz h f;rw [d] at a;simp only [UF,U1] at a;have e:=a.2.1;rcases b with q|q|q|q<;>exact absurd (q.symm.trans e) (by decide)
def Mk.arr {tv:ZS} (h:Mk w0 w tv M) (a:aA w p A F) (b:aa F.S w w'):Mk w0 w' tv M:=bV h b λk c=>h.apart a c
def Mk.mkK {ws:ZT} {tv:ZS} (h:Mk w0 w tv M) (b:aa (λk=>F.S k\/mkK w0 ws k) ws w) {k:Nat} (a:tv.ownBlock=ZW k) (hl:k<ws.heap.size):F.S k\/mkK w0 ws k:=by
 obtain ⟨cur,c⟩:=bz h a;by_cases q:F.S k\/(w0.heap.size<=k/\∃ cs,ws.heap[k]?=ZW (Z4 cs 61 (0,0)))
 . exact q
 . exact .inr ⟨eh h a,_,(b.block k hl q).symm.trans c⟩
def Tryz.Tp:(ZN.info? 61).map (λi=>(i.zero,i.size,i.bytes))=ZW (ZW (.agg #[Z7 Z9 0,Z7 Z9 0]),2,16):=by kernel_rfl
def Nn:∀ (M:List (Nat×Nat)) (k:Nat) (h:k<M.length),(Ns M)[k*2]?=ZW (Z7 Z9 (M[k].1:Nat))/\(Ns M)[k*2+1]?=ZW (Z7 Z9 (M[k].2:Nat))
 | [],k,h=>absurd h (by simp)
 | q::M,0,_=>⟨rfl,rfl⟩
 | q::M,k+1,h=>by
  obtain ⟨a,b⟩:=Nn M k (by simpa using h);have e:Ns (q::M)=[Z7 Z9 (q.1:Nat),Z7 Z9 (q.2:Nat)]++Ns M:=by unfold Ns;rw [VN]
  rw [e];refine ⟨?_,?_⟩
  . rw [U6 (by simp;omega),show (k+1)*2-[Value.int .i64 (q.1:Nat),Z7 Z9 (q.2:Nat)].length=k*2 by simp;omega];exact a
  . rw [U6 (by simp;omega),show (k+1)*2+1-[Value.int .i64 (q.1:Nat),Z7 Z9 (q.2:Nat)].length=k*2+1 by simp;omega];exact b
def Mk.at {ta:Option Addr} {tc ml:Nat} (h:Mk w0 w (.slice ta ml tc) M) {k:Nat} (c:k<M.length):∃ g,ta=ZW ⟨g,0,ZX⟩/\w.cell? ⟨g,k*2,ZX⟩=ZW (Z7 Z9 (M[k].1:Nat))/\w.cell? ⟨g,k*2+1,ZX⟩=ZW (Z7 Z9 (M[k].2:Nat)):=by
 rcases h.2 with ⟨e,i⟩|⟨g,cap,cur,e,_⟩
 . omega
 . simp only [VH] at e;obtain ⟨a,_,_⟩:=e;obtain ⟨d,f⟩:=Nn M k c;have c1:=h.cells (g:=g) (by rw [a];rfl) _ _ d;have b:=h.cells (g:=g) (by rw [a];rfl) _ _ f;rw [jC] at c1 b;exact ⟨g,a,c1,b⟩
theorem wK (a:k<M.length) (x:Nat×Nat):(x∈M.take (k+1))↔(x∈M.take k\/M[k]=x):=by
 rw [Vh,Ua a,Uj];exact or_congr Iff.rfl (by simp only [Option.toList,Vp];exact eq_comm)
section
variable {KW w0 ws w:ZT} {wb D L G nb t m:Nat} {xs:aZ} {Q:List (ByteArray×ZS)} {p r sa ar v:Nat} {Kind:aN->Prop} {ps:aN} {pg ob:ZS} {P:a8} {A0 A:aF} {F:aQ} {out want:ZS} {cache:Int} {tv:ZS} {M:List (Nat×Nat)}
def MB.fault (h:MB w0 w wb D L G nb t xs p r sa ar v Kind ps pg ob P A F out want cache) (e:Dc KW w r Q xs out want) {w':ZT} {B:aF} (m:aA w' p B F) (a:aa (λk=>F.S k\/mkK w0 w k) w w') (b:zc S A B) (n:B.fine D L G):MB w0 w' wb D L G nb t xs p r sa ar v Kind ps pg ob P B F out want cache/\Dc w' w' r Q xs out want:=by
 have d:vL w.heap.size w w':=λT f j cs hl g=>a.block j hl λq=>by
  rcases q with q|q
  . obtain ⟨cs',T',c,l⟩:=h.live.vol.arr.kind q;rw [g] at c;simp only [UF,U1] at c;have i:=c.2.1;rcases f with rfl|rfl|rfl|rfl|rfl<;>(rcases l with k|k|k|k<;>exact absurd (i.trans k) (by decide))
  . refine mkK.no g ?_ q;rcases f with rfl|rfl|rfl|rfl|rfl<;>decide
 have u:w.heap[wb]?=ZW (Z4 _ 56 (0,0)):=h.wbA;obtain ⟨rb,rv,s⟩:=e.ref;exact ⟨h.next d (a.block _ (an.lt h.wbA) λq=>q.elim h.wbF.1 (mkK.no u (by decide))) (h.base.trans (a.below λk b=>⟨TZ b h.base.size,λq=>q.elim (λq=>by have:=h.fB k q;omega) λq=>by have:=q.1;omega⟩)) (h.live.ruin h.hK m a b n) b.nb h.shv.kind (λ_ q=>.inl q),⟨rb,rv,d.ref s lR⟩,e.rel.keep λ_ _ o=>d.ow o lR,e.ow,λ_ _ _=>rfl⟩
theorem JO (hs:MB w0 ws wb D L G nb t xs p r sa ar v Kind ps pg ob P A0 F out want cache) (qb:Dc KW ws r Q xs out want) {S:Nat} (hO:aa (λk=>F.S k\/mkK w0 ws k) ws w) (hR:qw w p A F M) (T:zc S A0 A) (qk:A.fine D L G) (hM:Mk w0 w tv M) (hm:M.length<=m) (x0:m<=100000) (kx:0<nb) {fb:Nat} {kind drive block bit K at_:Int} (hf:an w fb 36 [Z7 Z9 kind,Z7 Z9 drive,Z7 Z9 block,Z7 Z9 bit,Z7 Z9 K]) (qv:1<kind) (hS:S<18446744073709551616) :
 ZR ZN 8 #[Z6 (ZW ⟨wb,0,ZX⟩),Z7 Z8 (S:Nat),Z5 (ZW ⟨fb,0,ZX⟩) 1 1,Z7 Z9 at_,tv] w λe w'=>∃ x3,e=Z3 x3/\FS w0 ws w' p S A0 F x3 (m+1)/\∀ k,k<w.heap.size->¬ F.S k->tv.ownBlock≠ZW k->w'.heap[k]?=w.heap[k]?:=by
 obtain ⟨h,hc⟩:=hs.fault qb hR.1 hO T qk;have k6:∀ k,F.S k->k<ws.heap.size:=λk z=>hs.live.vol.arr.RO z;obtain ⟨N,hN⟩:=nM (D+L+G);have h6:=h.live.vol.par;have qh:0<N/\N<=16:=by have:=h6.d1;have:=h6.s;omega
 obtain ⟨d,hd,ed⟩:=ik drive N qh.1 (by omega);obtain ⟨b,hb,eb⟩:=ik block nb kx (by have:=h.live.nb;have:=h.nb;omega);obtain ⟨kb,qn,qr⟩:=ik bit 512 (by decide) (by decide);have f0:=hf.cell (j:=0) (u:=Z7 Z9 kind) rfl;have f1:=hf.cell (j:=1) (u:=Z7 Z9 drive) rfl;have f2:=hf.cell (j:=2) (u:=Z7 Z9 block) rfl;have f3:=hf.cell (j:=3) (u:=Z7 Z9 bit) rfl;have f4:=hf.cell (j:=4) (u:=Z7 Z9 K) rfl;obtain ⟨ta,tc,rfl⟩:=bE hM;obtain ⟨Z,J⟩:=nM (M.length);obtain ⟨w1,kj⟩:=nM (w.alloc (Z4 #[Z7 Z9 kind,Z7 Z9 drive,Z7 Z9 block,Z7 Z9 bit,Z7 Z9 K] 36));have hz:an w1 w.heap.size 36 [Z7 Z9 kind,Z7 Z9 drive,Z7 Z9 block,Z7 Z9 bit,Z7 Z9 K]:=by rw [<- kj];exact UE w _
 have f:bW w w1:=by rw [<- kj];exact bA w _
 obtain ⟨q,hq⟩:=nM (w.heap.size);have E:=h.below f;have hy:=hc.keep (iS.below f _) lR;have V:qw w1 p A F M:=hR.keep λk z=>f.block k (hR.1.RO z);have O:=hM.below f;have hr:∀ k,F.S k->k<w.heap.size:=λk z=>hR.1.RO z;rw [hq] at hz hr;rw [J] at O hm ⊢;have qd:∀ X,ZR ZN 12 #[.agg #[Z7 Z9 (D:Nat),Z7 Z9 (L:Nat),Z7 Z9 (G:Nat)]] X λe w'=>e=Z3 (Z7 Z9 (N:Nat))/\bW X w':=λX=>by
  rw [<- hN,show ((D+L+G:Nat):Int)=(D:Int)+L+G by omega];have:=h6.d;have:=h6.l4;have:=h6.g;exact dL (D:Int) (L:Int) (G:Int) X ⟨by omega,by omega⟩ ⟨by omega,by omega⟩ ⟨by omega,by omega⟩
 have l:=hide12 E hy V O hz hr J hN qd (hO.trans (aa.RN f _)) T k6;have hp:∀ x:Int,IntKind.i64.wrap x=wrap64 x:=λx=>by rw [UB];unfold wrap64;omega
 have HE:=ak (show IntKind.i64.wrap ((IntKind.u64.wrap drive).tmod (N:Int))=(d:Nat) from (hp _).trans ed);have x4:IntKind.i64.wrap ((IntKind.u64.wrap block).tmod (nb:Int))=(b:Nat):=(hp _).trans eb;have x6:IntKind.i64.wrap ((IntKind.u64.wrap bit).tmod 512)=(kb:Nat):=(hp _).trans qr;have ky:IntKind.u64.wrap (nb:Int)=(nb:Int):=by rw [Vd];have:=h.live.nb;have:=h.nb;omega
 have HQ:=a5 hq hS kj f;have qi:IntKind.u64.wrap (N:Int)=(N:Int):=by rw [Vd];omega
 have qg:=ak (show FS w0 ws w1 p S A0 F (.slice ta Z tc) (m+1)/\∀ k,k<w.heap.size->¬ F.S k->(Value.slice ta Z tc).ownBlock≠ZW k->w1.heap[k]?=w.heap[k]? from ⟨⟨A,M,hO.trans (aa.RN f _),V,T,O,by omega⟩,λk z _ _=>f.block k z⟩);have n0:¬ kind=0:=by omega
 have n1:¬ kind=1:=by omega
 clear h hc hR hM hf ed eb qr E hy V O hz hr J f hN qd hS h6 hq kj hp hO T hs qb k6;go_enter func8,ntmps8;go_wp2_with fail;refine VC 2 ?_;rw [U5];by_cases qj:K=at_;rotate_left
 . go_wp2;rw [U5];go_wp2;go_ret;rw [HQ.o.2.2.1];exact ⟨_,rfl,qg.out⟩
 subst qj;go_upto_region 6 with fail;clear f0 f1 f2 f3 f4;have hq:=HQ.o.1;rw [HQ.o.2.2.1,hq];have q1:=l.o.2.2.2.2.1.cell (j:=1) (u:=Z7 Z9 drive) rfl;obtain ⟨c0,c1,c2,_⟩:=l.o.1.wbA.cells;clear hq;go_cut [13] from 33 to 43 (λx5 wx=>x5=Z7 Z9 (d:Nat)/\bW w1 wx)
 case first=>
  go_region_with (go_at_call 12;refine (l.o.2.2.2.2.2.2.2.2.1 _).mono ?_;rintro e w2 ⟨rfl,hx⟩;have H2:=ak ((TW _ w1).drew.trans hx);have k0:an w2 q 36 _:=l.o.2.2.2.2.1.keep (H2.o.block _ l.o.2.2.2.2.1.lt);have y1:=k0.cell (j:=1) (u:=Z7 Z9 drive) rfl;clear hx k0);all_goals (go_wp2_with fail;go_meet;case rel=>exact ⟨by rw [HE.o],H2.o⟩)
 case rest=>
  obtain ⟨rfl,hx⟩:=hcut;clear q1 c0 c1 c2 qi;obtain ⟨E,hy,V,O,hz,hr,J,hN,_⟩:=l.o;have k0:an wc q 36 _:=hz.keep (hx.block _ hz.lt);have y0:=k0.cell (j:=0) (u:=Z7 Z9 kind) rfl;have y2:=k0.cell (j:=2) (u:=Z7 Z9 block) rfl;have y3:=k0.cell (j:=3) (u:=Z7 Z9 bit) rfl;have h2:=E.below hx;obtain ⟨_,_,_,c3,_,_,c6,_⟩:=h2.wbA.cells;clear E hy V O hz hr J hN h2 k0;have H2:=ak hx;clear hx;go_upto_region 7 with fail;go_quiet (fail);have ko:bW w1 (wc.drewN nq):=H2.o.trans ⟨rfl,rfl,rfl,TV _,λ_ _=>rfl⟩;obtain ⟨I,kf⟩:=nM (wc.drewN nq);have d0:I.cell? ⟨q,0,ZX⟩=ZW (Z7 Z9 kind):=by rw [<- kf];exact y0
  have d3:I.cell? ⟨q,3,ZX⟩=ZW (Z7 Z9 bit):=by rw [<- kf];exact y3
  have e3:I.cell? ⟨wb,3,ZX⟩=ZW (Z6 (ZW ⟨p,0,ZX⟩)):=by rw [<- kf];exact c3
  rw [kf] at ko ⊢;have C:=ak ko;clear kf y0 y2 y3 c3 c6 ko H2 x4 ky;have h5:ZR ZN 16 #[Z7 Z8 (S:Nat),Z7 Z9 (d:Nat)] I λe w'=>e=Z3 (Z1 (S.testBit d))/\w'=I:=(zN S d HQ.o.2.1 (by omega) I).mono λe w' h=>⟨by rw [h.1,WV];rcases VS (S/2^d) with e|e<;>rw [e]<;>rfl,h.2⟩;have kc:∀ a B,qw a p B F M->aa F.S I a->zc S A B->FS w0 ws a p S A0 F (.slice ta Z tc) (m+1)/\∀ k,k<w.heap.size->¬ F.S k->(Value.slice ta Z tc).ownBlock≠ZW k->a.heap[k]?=w.heap[k]?:=λa B R c z=>by
   have f:=HQ.o.2.2.2;obtain ⟨E,hy,V,O,_,hr,J,_,_,kh,T,_⟩:=l.o;have ki:qw I p A F M:=V.keep λk z=>C.o.block k (V.1.RO z);exact ⟨⟨B,M,(kh.trans (aa.RN C.o _)).trans (c.mono λ_ _=>.inl),R,T.trans z,(O.below C.o).arr ki.1 c,by omega⟩,λk E h2 _=>(c.block k (by have:=f.size;have:=C.o.size;omega) h2).trans ((C.o.block k (by have:=f.size;omega)).trans (f.block k E))⟩
  have ki:qw I p A F M:=l.o.2.2.1.keep λk z=>C.o.block k (l.o.2.2.1.1.RO z);have q7:d<A.n:=by rw [l.o.1.live.vol.n,l.o.2.2.2.2.2.2.2.1];exact hd
  have q6:b<A.nb:=by rw [l.o.1.nb];exact hb
  have U:=a5 kc ki q7 q6;clear kc ki q7 q6;have HS:=ak (U.o.1 I A U.o.2.1 (aa.refl _ _) (zc.refl S A));by_cases hi:S.testBit d=ZV;rotate_left
  . rw [Yj.2 hi] at h5;go_wp2_with fail;refine h5.mono ?_;rintro e w4 ⟨rfl,kg⟩;obtain rfl:I=w4:=kg.symm;clear kg h5;go_wp2;rw [U5];go_wp2;go_ret;exact ⟨_,rfl,HS.o⟩
  rw [hi] at h5;have q4:=ak hi;clear hi;go_wp2_with fail;refine h5.mono ?_;rintro e w4 ⟨rfl,kg⟩;obtain rfl:I=w4:=kg.symm;clear kg h5;by_cases k2:kind=2
  . subst k2;have qe:=Iu U.o.2.1 d b U.o.2.2.1 U.o.2.2.2;go_wp2_with fail;refine qe.mono ?_;rintro e a ⟨rfl,R,c⟩;have HF:=ak (U.o.1 a _ R c (zc.SF A b q4.out));clear R c qe;go_wp2;rw [U5];go_wp2;go_ret;exact ⟨_,rfl,HF.o⟩
  by_cases k3:kind=3;rotate_left
  . go_wp2;rw [U5];go_wp2;go_ret;exact ⟨_,rfl,HS.o⟩
  subst k3;go_wp2_with fail;go_loopw [16,17] (λdn i wr=>∃ k:Nat,k<=Z/\i=Z7 Z9 (k:Nat)/\dn=Z1 (decide ((d,b)∈M.take k))/\wr=I) (λ_ i _=>Z-(intOf i).toNat)
  case atStart=>exact ⟨0,T5 _,rfl,by simp,rfl⟩
  case round=>
   obtain ⟨k,z,rfl,rfl,rfl⟩:=hrel;by_cases qp:k<Z
   . have qc:k<M.length:=(by rw [l.o.2.2.2.2.2.2.1];exact qp);have q8:Mk w0 wr (.slice ta Z tc) M:=l.o.2.2.2.1.below C.o;obtain ⟨g,rfl,g1,g2⟩:=q8.at qc;have W:=wK qc (d,b);obtain ⟨x1,kz⟩:=nM (M[k].1);obtain ⟨x2,q3⟩:=nM (M[k].2);have q9:M[k]=(x1,x2):=(by rw [<- kz,<- q3]);rw [q9] at W;simp only [Xd] at W;rw [kz] at g1;rw [q3] at g2;have qz:IntKind.i64.wrap ((k:Int)+1)=(k:Int)+1:=(by rw [UB];omega);have qy:(k:Int)<(Z:Int):=(by omega);clear q8 kz q3 q9;by_cases H:(d,b)∈M.take k
     . rw [UZ H];have y:=ak (W.2 (.inl H));clear W H;go_wp2;go_roundw
       case rel=>exact ⟨k+1,by omega,by go_num,by rw [UZ y.o],by first|rfl|exact trivial⟩
       case measure=>simp only [intOf];omega
     . rw [Vu H];by_cases q1:x1=d
       . subst q1;by_cases q2:x2=b
         . subst q2;have y:=ak (W.2 (.inr ⟨rfl,rfl⟩));clear W H;go_wp2;go_roundw
           case rel=>exact ⟨k+1,by omega,by go_num,by rw [UZ y.o],by first|rfl|exact trivial⟩
           case measure=>simp only [intOf];omega
         . have y:=ak (λe=>(W.1 e).elim H λe=>q2 e.2);have x8:¬ (x2:Int)=(b:Int):=(by omega);clear W H;go_wp2;go_roundw
           case rel=>exact ⟨k+1,by omega,by go_num,by first|(rw [Vu y.o];done)|(rw [Vu y.o];simp_all),by first|rfl|exact trivial⟩
           case measure=>simp only [intOf];omega
       . have y:=ak (λe=>(W.1 e).elim H λe=>q1 e.1);have x7:¬ (x1:Int)=(d:Int):=(by omega);clear W H;go_wp2;go_roundw
         case rel=>exact ⟨k+1,by omega,by go_num,by first|(rw [Vu y.o];done)|(rw [Vu y.o];simp_all),by first|rfl|exact trivial⟩
         case measure=>simp only [intOf];omega
   . have qo:k=Z:=(by omega);subst qo;have qq:M.take k=M:=UI (by rw [l.o.2.2.2.2.2.2.1];exact TV _);rw [qq];by_cases H:(d,b)∈M
     . rw [UZ H];go_wp2;rw [U5];go_wp2;go_ret;exact ⟨_,rfl,HS.o⟩
     . rw [Vu H];have qf:=Lt U.o.2.1 d b kb U.o.2.2.1 U.o.2.2.2 qn H;obtain ⟨im,qm,kp,kr,ks⟩:=Us Tryz.Tp;have HT:=ak qf;clear qf;go_wp2_with fail;refine HT.o.mono ?_;rintro e a ⟨rfl,R,c⟩;obtain ⟨E,hy,V,O,_,hr,J,_,_,kh,T,k6⟩:=l.o;have k7:Mk w0 a (.slice ta k tc) M:=(O.below C.o).arr U.o.2.1.1 c;have k9:aa (λk=>F.S k\/mkK w0 ws k) ws a:=(kh.trans (aa.RN C.o _)).trans (c.mono λ_ _=>.inl);have qa:an (a.alloc (Z4 #[Z7 Z9 (d:Nat),Z7 Z9 (b:Nat)] 61)) a.heap.size 61 [Z7 Z9 (d:Nat),Z7 Z9 (b:Nat)]:=UE a _;have ka:bW a (a.alloc (Z4 #[Z7 Z9 (d:Nat),Z7 Z9 (b:Nat)] 61)):=bA a _;have k5:Src ZN 2 34 (Z5 (ZW ⟨a.heap.size,0,ZX⟩) 1 1) 1 [Z7 Z9 (d:Nat),Z7 Z9 (b:Nat)] (a.alloc (Z4 #[Z7 Z9 (d:Nat),Z7 Z9 (b:Nat)] 61)):=
        Vn _ underlying34 ⟨a.heap.size,0,ZX⟩ 1 1 [Z7 Z9 (d:Nat),Z7 Z9 (b:Nat)] rfl (λj u Y=>by rw [Vr,Ui];exact qa.cell Y) (λu hu=>by
         simp only [Uw,W5,or_false] at hu;rcases hu with rfl|rfl<;>rfl)
       have kk:=k7.below ka;have q5:=al k7 (TU E.base.size (TU C.o.size c.size));have y:=hide9 k9 T R k6 k5 kk ka J c;have qx:k<=100000:=(by omega);clear E hy V O hr J k7 R c k9 kh T k6 qa k5 kk ka;go_wp2_with (at_builtin;refine ae _ rfl (.tmp 128) (.tmp 132) 34 34 rfl w0.heap.size 61 im _ 2 16 underlying34 qm kp kr ks rfl (.slice ta k tc) k (Ns M) (by rfl) (by have h9:=y.o.2.2.2.2.2.1;unfold Mk at h9;rw [y.o.2.2.2.2.2.2.2.1] at h9;exact h9) _ (by rfl) 1 [Z7 Z9 (d:Nat),Z7 Z9 (b:Nat)] (by exact y.o.2.2.2.2.1) (by unfold maxLen;omega) (by omega) (by have h9:=q5.out.2;simp;omega) ?_;intro v7 w7 ke hv km;obtain ⟨va,vc,rfl⟩:=bE ke;have H7:=al ke hv;clear ke hv km);rw [U5];go_wp2;go_ret;obtain ⟨c,T,R,k6,k5,kk,ka,J,k8⟩:=y.o;have f:=HQ.o.2.2.2;obtain ⟨ke,hv⟩:=H7.o;have qs:a.heap.size<=w7.heap.size:=(by have:=hv.size;simp at this;omega);have k7:Mk w0 a (.slice ta k tc) M:=q5.out.1;have kv:∀ j,j<a.heap.size->(Value.slice ta k tc).ownBlock≠ZW j->w7.heap[j]?=a.heap[j]?:=λj Y hn=>(hv.block j (by simp;omega) (λe=>hn e.symm)).trans (ka.block j Y);refine ⟨_,rfl,⟨A.turn d b,M++[(d,b)],⟨hv.os.trans c.os,hv.tape.trans c.tape,hv.output.trans c.output,TU c.size qs,λj Y hn=>(kv j (TZ Y c.size) λe=>hn (k7.mkK c e Y)).trans (c.block j Y hn)⟩,R.keep λj Y=>kv j (R.1.RO Y) λe=>k7.apart R.1 e Y,T.trans (zc.turn A b q4.out),?_,by rw [T8,J];simp;omega⟩,λi E h2 h3=>(kv i (by have:=f.size;have:=C.o.size;have:=k8.size;omega) h3).trans ((k8.block i (by have:=f.size;have:=C.o.size;omega) h2).trans ((C.o.block i (by have:=f.size;omega)).trans (f.block i E)))⟩;have e:Ns (M++[(d,b)])=Ns M++[Z7 Z9 (d:Nat),Z7 Z9 (b:Nat)]:=(by unfold Ns;rw [WD];rfl);unfold Mk;rw [e,T8,J];exact ke
end
end
section
open Go.ChangeShapes Go.WideShapes Go.Joins
def Tryz.SI:laidOutB ZN=ZV:=by kernel_rfl
def Tryz.S5:ZN.cellsOf 41=4:=by kernel_rfl
def Tryz.Su:ZN.cellsOf 3=1:=by kernel_rfl
def Tryz.Tf:ZN.cellsOf 9=1:=by kernel_rfl
def Tryz.SG:ZN.cellsOf 39=1:=by kernel_rfl
def Tryz.SW:ZN.cellsOf 5=1:=by kernel_rfl
def Tryz.SX:ZN.bytesOf 5=1:=by kernel_rfl
instance:Inhabited rH:=⟨⟨0,0,YG,[]⟩⟩
def zd:reachBytes=140737488351232:=rfl
def RF {l:List ZS} (h:l.length=4):∃ a b c d,l=[a,b,c,d]:=by
 match l,h with
 | [a,b,c,d],_=>exact ⟨a,b,c,d,rfl⟩
def lj {P:Program} {e:ZP}:∀ {ds:List (DataW H)} {d:DataW H},d∈ds->∀ n∈d.weights P e,n∈DataW.weightsAll P e ds
 | c::ds,d,a,n,b=>by
  simp only [DataW.weightsAll,Uj];rcases Uw.1 a with rfl|a
  . exact .inl b
  . exact .inr (lj a n b)
def FN {enc:ZP×ZS->H} {v:ZS} {x:DataW H×List MemPlace} (h:DataW.trod enc ZN W 0 (λ_=>ZV) ZV n 39 [v]=ZW x) (t:∀ k∈x.1.weights ZN 39,k<=reachBytes):∃ l:a8,Bs W v l:=by
 rcases open_ints Ul Xn Tryz.SW h with ⟨c,_⟩|⟨a,len,cap,d,c,_,hl,F,C,A,g,m⟩
 . simp at c;exact ⟨[],ZX,0,c,by simp,by simp,by simp,λh=>absurd rfl h⟩
 . simp at c;simp only [if_true] at C;subst A;have w:=t (d.length*1) (by
    simp only [DataW.weights,Ul,lits,Tryz.SX];refine Uw.2 (.inl ?_);simp only [T9,Un,Um];omega)
   rw [zd] at w;have hll:((d.take len).map Int.toNat).length=len:=(by simp;omega);refine ⟨(d.take len).map Int.toNat,ZW a,cap,by rw [hll];exact c,by rw [hll];exact hl,by rw [hll];omega,λy B=>?_,λr=>?_⟩
   . obtain ⟨z,u,rfl⟩:=T7.1 B;have:=bounds_u8 (m z (UY u));omega
   . have:0<len:=by
      rcases WQ len with e|e
      . subst e;exact absurd rfl r
      . exact e
     obtain ⟨b,o,sp⟩:=a;have p:=g 0 (by omega);have s:sp=ZX:=(by simpa [Addr.add] using ab7 p);subst s;refine ⟨b,o,rfl,λk j=>?_⟩;have q:k<len:=(by rw [hll] at j;exact j);have f:k<d.length:=(by omega);have i:=g k f;rw [WH] at i;rw [i];have:=bounds_u8 (m _ (TY f));simp [f,q];omega
def FO {enc:ZP×ZS->H} {cs:List ZS} {x:DataW H×List MemPlace} (h:DataW.trod enc ZN W 0 (λ_=>ZV) ZV n 41 cs=ZW x) (i:∀ k∈x.1.weights ZN 41,k<=reachBytes) :
 ∃ o:rH×ZS,cs=[Z7 Z9 o.1.kind,Z7 Z9 o.1.a,Z0 o.1.s,o.2]/\Bs W o.2 o.1.d/\o.1.s.size<=140737488355328:=by
 obtain ⟨l,p,q,r,m,rfl,hl,t,u,w,j⟩:=trod_struct4 underlying41 h;rw [Tryz.S5] at hl;obtain ⟨a,b,c,d,rfl⟩:=RF hl;obtain ⟨B,e,_,w0⟩:=Xv WE t;obtain ⟨C,f,_,w1⟩:=Xv WE u;obtain ⟨s,g,y,_⟩:=DataW.trod_string abB w;rw [show ZN.cellsOf 3=1 from Tryz.Su] at e f;rw [show ZN.cellsOf 9=1 from Tryz.Tf] at g;rw [show ZN.cellsOf 39=1 from Tryz.SG] at j;simp at e f g;subst e f g;simp only [DataW.weights,underlying41] at i;obtain ⟨dl,z⟩:=FN (v:=d) (by simpa using j) (λk A=>i k (by
  show k∈l.1.weights ZN _++(p.1.weights ZN _++(q.1.weights ZN _++(r.1.weights ZN 39++[])));simp only [Uj];exact .inr (.inr (.inr (.inl A)))))
 refine ⟨(⟨B,C,s,dl⟩,d),rfl,z,?_⟩;have:=i s.size (by
  show s.size∈l.1.weights ZN _++(p.1.weights ZN _++(q.1.weights ZN 9++(r.1.weights ZN _++[])));simp only [Uj];refine .inr (.inr (.inl ?_));rw [y];simp only [DataW.weights,Uw];exact .inl (show s.data.size=s.data.toList.length from Ww.symm))
 rw [zd] at this;show s.size<=_;omega
def vP {enc:ZP×ZS->H} {d:DataW H} {ps:List MemPlace} (h:DataW.Trod enc ZN W 0 (λ_=>ZV) ZV 22 (.slice ao len0 cap0) d ps) (A:∀ n∈d.weights ZN 22,n<=reachBytes) :
 ∃ l:List rH,Scr W (.slice ao len0 cap0) l/\∀ x∈l,x.s.size<=140737488355328/\x.d.length<=140737488355328:=by
 obtain ⟨fuel,g⟩:=h;rcases open_slice underlying22 g with ⟨r,_⟩|⟨a,len,cap,m,S,D,Q,r,_,hl,R,z,q,y⟩
 . simp [Value.cells] at r;obtain ⟨rfl,rfl,rfl⟩:=r;exact ⟨[],⟨ZX,0,rfl,λh=>absurd rfl h⟩,λx q=>(by cases q)⟩
 . simp [Value.cells] at r;obtain ⟨rfl,rfl,rfl⟩:=r;simp only [Xd] at q;obtain ⟨rfl,_⟩:=q;simp only [DataW.weights,underlying22] at A;simp only [if_true] at z;have J:=z.symm;subst J;rw [Tryz.S5] at y;obtain ⟨f,g⟩:=choose_lt (α:=rH×ZS) (n:=len0) (p:=λi s=>(∀ j,j<4->W.cell? ((a.add (i*4)).add j)=([Z7 Z9 s.1.kind,Z7 Z9 s.1.a,Z0 s.1.s,s.2]:List ZS)[j]?)/\Bs W s.2 s.1.d/\s.1.s.size<=140737488355328) (λi t=>by
    obtain ⟨cs',G,I⟩:=y i (by omega);obtain ⟨s,rfl,hs⟩:=FO I (λk P=>A k (UP _ (UL _ (lj (d:=D i) (T7.2 ⟨i,Uu.2 t,rfl⟩) k P))));obtain ⟨_,_,c⟩:=World.cells?_some G;exact ⟨s,c,hs⟩)
   obtain ⟨b,o,sp⟩:=a;refine ⟨(YE len0).map λi=>(f i).1,⟨ZW ⟨b,o,sp⟩,cap0,by simp,λN=>?_⟩,λx q=>?_⟩
   . have v:0<len0:=by
      rcases WQ len0 with e|e
      . subst e;exact absurd rfl N
      . exact e
     have K:=(g 0 v).1 0 (by decide);have O:sp=ZX:=by
      have:W.cell? (((⟨b,o,sp⟩:Addr).add (0*4)).add 0)=ZW (Z7 Z9 (f 0).1.kind):=K;simpa [Addr.add] using ab7 this
     subst O;have w:=(g 0 v).1 0 (by decide);rw [WH,WH] at w;refine ⟨b,o,rfl,Ub (show W.cell? _=ZW _ from w),λi t=>?_⟩;have L:i<len0:=(by simpa using t);obtain ⟨c,u,_⟩:=g i L;have B:=c 0 (by decide);have C:=c 1 (by decide);have E:=c 2 (by decide);have F:=c 3 (by decide);rw [WH,WH] at B C E F;simp only [UQ,YH];exact ⟨(f i).2,B,C,E,F,u⟩
   . obtain ⟨i,t,rfl⟩:=T7.1 q;obtain ⟨_,u,hs⟩:=g i (by simpa using t);obtain ⟨_,_,_,_,M,_⟩:=u;exact ⟨hs,M⟩
end
section
open Go.ChangeShapes Go.WideShapes Go.Joins
structure PI where
 kind:Int
 drive:Int
 block:Int
 bit:Int
 at_:Int
def PI.cs (f:PI):List ZS:=[Z7 Z9 f.kind,Z7 Z9 f.drive,Z7 Z9 f.block,Z7 Z9 f.bit,Z7 Z9 f.at_]
def Fts (w:ZT) (v:ZS) (l:List PI):Prop:=
 ∃ ao c,v=.slice ao l.length c/\(l≠[]->∃ b off,ao=ZW ⟨b,off,ZX⟩/\b<w.heap.size/\∀ i (hi:i<l.length),w.cell? ⟨b,off+i*5,ZX⟩=ZW (Z7 Z9 l[i].kind)/\w.cell? ⟨b,off+i*5+1,ZX⟩=ZW (Z7 Z9 l[i].drive)/\w.cell? ⟨b,off+i*5+2,ZX⟩=ZW (Z7 Z9 l[i].block)/\w.cell? ⟨b,off+i*5+3,ZX⟩=ZW (Z7 Z9 l[i].bit)/\w.cell? ⟨b,off+i*5+4,ZX⟩=ZW (Z7 Z9 l[i].at_))
def Tryz.So:ZN.cellsOf 36=5:=by kernel_rfl
instance:Inhabited PI:=⟨⟨0,0,0,0,0⟩⟩
def No {α:Type} {l:List α} (h:l.length=5):∃ a b c d e,l=[a,b,c,d,e]:=by
 match l,h with
 | [a,b,c,d,e],_=>exact ⟨a,b,c,d,e,rfl⟩
def wL {enc:ZP×ZS->H} {cs:List ZS} {x:DataW H×List MemPlace} (h:DataW.trod enc ZN W 0 (λ_=>ZV) ZV n 36 cs=ZW x):∃ o:PI,cs=o.cs:=by
 obtain ⟨xs,m,_,_,hl,p,f⟩:=DataW.trod_struct underlying36 h;rw [Tryz.So] at hl;obtain ⟨a,b,c,d,e,rfl⟩:=No hl;obtain ⟨q,r,s,t,u,rfl⟩:=No (show xs.length=5 from p);obtain ⟨v,g,_⟩:=Xv (x:=q) WE (f 0 _ rfl);obtain ⟨w,i,_⟩:=Xv (x:=r) WE (f 1 _ rfl);obtain ⟨y,j,_⟩:=Xv (x:=s) WE (f 2 _ rfl);obtain ⟨z,k,_⟩:=Xv (x:=t) WE (f 3 _ rfl);obtain ⟨A,l,_⟩:=Xv (x:=u) WE (f 4 _ rfl);simp [Tryz.Su] at g i j k l;subst g i j k l;exact ⟨⟨v,w,y,z,A⟩,rfl⟩
def vQ {enc:ZP×ZS->H} {d:DataW H} {ps:List MemPlace} (h:DataW.Trod enc ZN W 0 (λ_=>ZV) ZV 24 (.slice ao len0 cap0) d ps) :
 ∃ l:List PI,Fts W (.slice ao len0 cap0) l:=by
 obtain ⟨fuel,k⟩:=h;rcases open_slice underlying24 k with ⟨g,_⟩|⟨a,len,cap,m,L,D,I,g,_,hl,J,t,K,r⟩
 . simp [Value.cells] at g;obtain ⟨rfl,rfl,rfl⟩:=g;exact ⟨[],ZX,0,rfl,λh=>absurd rfl h⟩
 . simp [Value.cells] at g;obtain ⟨rfl,rfl,rfl⟩:=g;simp only [if_true] at t;have C:=t.symm;subst C;rw [Tryz.So] at r;obtain ⟨f,k⟩:=choose_lt (α:=PI) (n:=len0) (p:=λi s=>∀ j,j<5->W.cell? ((a.add (i*5)).add j)=s.cs[j]?) (λi u=>by
    obtain ⟨cs',A,B⟩:=r i (by omega);obtain ⟨s,rfl⟩:=wL B;obtain ⟨_,_,c⟩:=World.cells?_some A;exact ⟨s,c⟩)
   obtain ⟨b,o,sp⟩:=a;refine ⟨(YE len0).map f,ZW ⟨b,o,sp⟩,cap0,by simp,λF=>?_⟩;have E:0<len0:=by
    rcases WQ len0 with e|e
    . subst e;exact absurd rfl F
    . exact e
   have q:=k 0 E 0 (by decide);have G:sp=ZX:=by
    have:W.cell? (((⟨b,o,sp⟩:Addr).add (0*5)).add 0)=ZW (Z7 Z9 (f 0).kind):=q;simpa [Addr.add] using ab7 this
   subst G;rw [WH,WH] at q;refine ⟨b,o,rfl,Ub (show W.cell? _=ZW _ from q),λi u=>?_⟩;have c:=k i (by simpa using u);have v:=c 0 (by decide);have w:=c 1 (by decide);have x:=c 2 (by decide);have y:=c 3 (by decide);have z:=c 4 (by decide);rw [WH,WH] at v w x y z;simp only [UQ,YH];exact ⟨v,w,x,y,z⟩
end
def abk (w5:ZT) (N:Nat) (sv iv:ZS) (wr:ZT):Prop:=∃ S k:Nat,sv=Z7 Z8 (S:Nat)/\S<18446744073709551616/\k<=N/\iv=Z7 Z9 (k:Nat)/\bW w5 wr
def Pd (D L G:Nat) (w:ZT) (e:ZQ) (w':ZT):Prop:=∃ S:Nat,e=Z3 (Z7 Z8 (S:Nat))/\S<18446744073709551616/\iT D L G S/\bW w w'
theorem FP (a:zB D L G) (f:Nat) (T:f<18446744073709551616) (w:ZT) :
 ZR ZN 6 #[.agg #[Z7 Z9 (D:Nat),Z7 Z9 (L:Nat),Z7 Z9 (G:Nat)],Z7 Z8 (f:Nat)] w (Pd D L G w):=by
 have H:bW w (w.alloc (Z4 #[Z7 Z9 (D:Nat),Z7 Z9 (L:Nat),Z7 Z9 (G:Nat)] 27)):=bA w _;have b:an (w.alloc (Z4 #[Z7 Z9 (D:Nat),Z7 Z9 (L:Nat),Z7 Z9 (G:Nat)] 27)) w.heap.size 27 [Z7 Z9 (D:Nat),Z7 Z9 (L:Nat),Z7 Z9 (G:Nat)]:=UE w _;obtain ⟨w1,k5⟩:=nM (w.alloc (Z4 #[Z7 Z9 (D:Nat),Z7 Z9 (L:Nat),Z7 Z9 (G:Nat)] 27));rw [k5] at H b;obtain ⟨q,hq⟩:=nM (w.heap.size);have M:=ak H;rw [hq] at b;have p0:=b.cell (j:=0) (u:=Z7 Z9 (D:Nat)) rfl;have p1:=b.cell (j:=1) (u:=Z7 Z9 (L:Nat)) rfl;have p2:=b.cell (j:=2) (u:=Z7 Z9 (G:Nat)) rfl;have k0:=Ef (D:Int) (L:Int) (G:Int) w1;have O:=ak b;clear b H;go_enter func6,ntmps6;go_wp2_with fail;clear p0 p1 p2;refine k0.mono ?_;rintro e w2 ⟨rfl,p⟩;clear k0 k5;have I:=O.o.keep (p.block _ O.o.lt);have t:bW w2 (w2.alloc (Z4 #[Z7 Z9 (D:Int),Z7 Z9 (L:Int),Z7 Z9 (G:Int)] 44)):=bA w2 _;have x:an (w2.alloc (Z4 #[Z7 Z9 (D:Int),Z7 Z9 (L:Int),Z7 Z9 (G:Int)] 44)) w2.heap.size 44 [Z7 Z9 (D:Int),Z7 Z9 (L:Int),Z7 Z9 (G:Int)]:=UE w2 _;obtain ⟨K,k6⟩:=nM (w2.alloc (Z4 #[Z7 Z9 (D:Int),Z7 Z9 (L:Int),Z7 Z9 (G:Int)] 44));rw [k6] at t x;obtain ⟨q2,ke⟩:=nM (w2.heap.size);rw [ke] at x;have v:=I.keep (t.block _ I.lt);have c0:=v.cell (j:=0) (u:=Z7 Z9 (D:Nat)) rfl;have c1:=v.cell (j:=1) (u:=Z7 Z9 (L:Nat)) rfl;have c2:=v.cell (j:=2) (u:=Z7 Z9 (G:Nat)) rfl;have R:=ak (M.o.trans ((p.trans (t.mono p.size)).mono M.o.size));have C:=ak x;obtain ⟨N,hN⟩:=nM (D+L+G);have P:N<=16:=by have:=a.s;omega
 have hz:ZR ZN 12 #[.agg #[Z7 Z9 (D:Nat),Z7 Z9 (L:Nat),Z7 Z9 (G:Nat)]] K λe w'=>e=Z3 (Z7 Z9 (N:Nat))/\bW K w':=by
  rw [<- hN,show ((D+L+G:Nat):Int)=(D:Int)+L+G by omega];have:=a.d;have:=a.l4;have:=a.g;exact dL (D:Int) (L:Int) (G:Int) K ⟨by omega,by omega⟩ ⟨by omega,by omega⟩ ⟨by omega,by omega⟩
 clear I v p t x;go_wp2_with fail;clear k6 c0 c1 c2;refine hz.mono ?_;rintro e w4 ⟨rfl,W⟩;have l:=ak W;clear hz W;have hy:2^N<=2^16:=U8 (by decide) P;obtain ⟨X,F⟩:=nM (2^N);rw [F] at hy;have k7:(2:Int)^N=(X:Nat):=by rw [<- F,XJ];rfl
 have ka:0<X:=by rw [<- F];exact Vz N
 have k8:IntKind.u64.wrap ((X:Int)-1)=((X-1:Nat):Int):=by rw [Vd];omega
 have k9:IntKind.u64.wrap (X:Int)=(X:Int):=by rw [Vd];omega
 have V:=fC f (X-1) T (by omega);have E:f &&& (X-1)<18446744073709551616:=Xf WW T;obtain ⟨S1,U⟩:=nM (f &&& (X-1));rw [U] at V E;clear U;go_wp2_with fail;go_loopw [1,7] (λsv J wr=>abk w4 N sv J wr) (λ_ J _=>N-(intOf J).toNat)
 case atStart=>exact ⟨S1,0,rfl,E,T5 _,rfl,TW _ _⟩
 case round=>
  clear V k7 k8 k9 hy ka E;obtain ⟨S,k,rfl,A,hk,rfl,h⟩:=hrel;have m:bW w wr:=R.out.trans ((l.out.trans (h.mono l.out.size)).mono R.out.size);by_cases kc:k<N
  . have y:=C.o.keep ((h.block _ (TZ C.o.lt l.out.size)).trans (l.out.block _ C.o.lt));have t0:=y.cell (j:=0) (u:=Z7 Z9 (D:Int)) rfl;have t1:=y.cell (j:=1) (u:=Z7 Z9 (L:Int)) rfl;have t2:=y.cell (j:=2) (u:=Z7 Z9 (G:Int)) rfl;have hs:=pT D L G S a.r a.d a.l1 a.l4 a.g a.div A wr;have c:=al h m;have he:(k:Int)<(N:Int):=(by omega);clear h m y;go_wp2_with fail;clear t0 t1 t2;refine hs.mono ?_;rintro e w5 ⟨bb,rfl,hr,Z⟩;have B:=al hr Z;clear hr Z hs;cases bb
    . have kb:2^k<65536:=TZ (V8 (by decide) kc) (U8 (n:=2) (i:=N) (j:=16) (by decide) P);obtain ⟨Y,Q⟩:=nM (2^k);rw [Q] at kb;have kf:(2:Int)^k=(Y:Nat):=(by rw [<- Q,XJ];rfl);have kg:IntKind.u64.wrap (Y:Int)=(Y:Int):=(by rw [Vd];omega);have hv:=YC S Y A (by omega);have hx:DC S Y<18446744073709551616:=Xf (WW:DC S Y<=S) A;have hc:bits .andNot .u64 (S:Int) (Y:Int)=((DC S Y:Nat):Int):=hv;clear hv;generalize DC S Y=z at hc hx;go_wp2;go_roundw
      case rel=>exact ⟨z,k+1,rfl,hx,by omega,by go_num,c.o.1.trans (B.o.2.mono c.o.1.size)⟩
      case measure=>simp [intOf];omega
    . go_wp2;go_ret;exact ⟨S,rfl,A,B.o.1.1 (by trivial),c.o.2.trans (B.o.2.mono c.o.2.size)⟩
  . have he:¬ (k:Int)<(N:Int):=(by omega);have c:=ak m;clear h m;go_wp2;go_ret;exact ⟨0,rfl,by decide,qP a.d a.g λi _=>by rw [Nat.zero_div],c.o⟩
def Np {xs:aZ} (c:MB w0 w wb D L G nb t xs p r sa ar v Kind ps pg ob P A F out want cache) (f:Dc KW w r Q xs out want) (o:rH) (b:ZS) (k:Bs w0 b o.d) (u:o.d.length<=100000) (B:t<=T) (z:T<1000000) (n:D<=6) (l:8<=nb) :
 ZR ZN 9 #[Z6 (ZW ⟨wb,0,ZX⟩),.agg #[Z7 Z9 o.kind,Z7 Z9 o.a,Z0 o.s,b]] w λe w'=>e=Z3 (Z1 ZV)/\MS KW (dZ A) w0 w' wb D L G nb (T+1):=by
 have h:∃ i m j,b=.slice i m j:=by obtain ⟨i,j,e,_⟩:=k;exact ⟨i,_,j,e⟩
 have g:∀ (e:ZQ) (w':ZT),e=Z3 (Z1 ZV)/\MS KW (dZ A) w0 w' wb D L G nb (t+1)->e=Z3 (Z1 ZV)/\MS KW (dZ A) w0 w' wb D L G nb (T+1):=λe w' q=>⟨q.1,q.2.mono (by omega) λ_ q=>q⟩;by_cases x:o.kind<1\/6<o.kind
 . exact (JJ c f o b h x (dZ.refl A)).mono g
 by_cases k1:o.kind=1
 . exact (Nf c f o b k u (by omega) n k1).mono g
 by_cases k2:o.kind=2
 . exact (Dx c f o b h k2).mono g
 by_cases k3:o.kind=3
 . exact (Nb c f o b h (by omega) k3).mono g
 by_cases k4:o.kind=4
 . exact (za c f o b h k4 (dZ.refl A)).mono g
 by_cases y:o.kind=5
 . exact (JK c f (by rw [c.nb];exact l) o b h y).mono g
 . exact (FM c f o b h (by omega)).mono g
def Pe (l:List rH) (k:Nat) (a:k<l.length):l[k].d.length<=gh l:=by
 have:=rI l k a;have:=Dr l (k+1);omega
def AlC (S:Nat) (M:List (Nat×Nat)) (A:aF):Prop:=A.on S/\∀ i b,A.tn i b=ZV->(i,b)∈M
def AlC.alk {B:aF} (h:AlC S M A) (k:dZ A B):AlC S M B:=⟨k.on h.1,λi b q=>h.2 i b (by rw [<- k.tn];exact q)⟩
def AlR (w0:ZT) (wb D L G nb S n:Nat) (ok tv i:ZS) (wr:ZT):Prop:=∃ (k:Nat) (M:List (Nat×Nat)),k<=n/\i=Z7 Z9 (k:Nat)/\ok=Z1 ZV/\Mk w0 wr tv M/\M.length<=200*k/\MS wr (AlC S M) w0 wr wb D L G nb (1+k)
def RG (w:ZT) (e:ZQ) (w':ZT):Prop:=e=Z3 (Z1 ZV)/\bW w w'
theorem Pf {sv fv:ZS} {l:List rH} {fl:List PI} (h:Scr w sv l) (hs:∀ x∈l,x.s.size<=140737488355328/\x.d.length<=140737488355328) (a b c bk:Int) (S0:Nat) (qi:S0<18446744073709551616) (hf:Fts w fv fl) (ch:Int) (hg:bN w) (hv:bh w) (W:aG w) (hK:3<=w.heap.size) :
 ZR ZN 3 #[sv,Z7 Z9 a,Z7 Z9 b,Z7 Z9 c,Z7 Z9 bk,Z7 Z8 (S0:Nat),fv,Z7 Z9 ch] w (RG w):=by
 have qg:=JF h hs;obtain ⟨ao,cp,rfl,hi⟩:=h;obtain ⟨fo,fp,rfl,qc⟩:=hf;obtain ⟨Y,qv,hd⟩:=ik bk 300 (by decide) (by decide);have ka:∀ x:Int,IntKind.i64.wrap x=wrap64 x:=λx=>by rw [UB];unfold wrap64;omega
 have hb:wrap64 ((IntKind.u64.wrap bk).tmod 300)=(Y:Int):=by simpa using hd
 have qr:IntKind.i64.wrap ((IntKind.u64.wrap bk).tmod 300)=(Y:Int):=(ka _).trans hb;have H:=a6 hi qc hg hv W;clear hi qc hg hv W hs hd ka;go_enter func3,ntmps3;go_wp2_with fail;refine qg.mono ?_;rintro e w1 ⟨bb,rfl,kh,q6⟩;have H1:=ak q6;clear qg q6;by_cases ko:bb=ZV/\fl.length<=200;rotate_left
 . clear kh;cases bb with
   | false=>
    go_wp2;go_ret;exact ⟨rfl,H1.o⟩
   | true=>
    have hx:(200:Int)<(fl.length:Int):=by
     have:¬ fl.length<=200:=λq=>ko ⟨rfl,q⟩;omega
    clear ko;go_wp2;go_ret;exact ⟨rfl,H1.o⟩
 obtain ⟨rfl,qq⟩:=ko;obtain ⟨qe,ks⟩:=kh rfl;clear kh;go_wp2_with fail;refine (O2 a b c w1).mono ?_;rintro e w2 ⟨D,L,G,rfl,hP,qh,q7⟩;have H2:=al hP (H1.o.trans (q7.mono H1.o.size));have qb:=λw'=>FP hP S0 qi w';clear hP q7;obtain ⟨w3,kv⟩:=nM (w2.alloc (Z4 #[Z7 Z9 (D:Nat),Z7 Z9 (L:Nat),Z7 Z9 (G:Nat)] 27));have q8:bW w w3:=by rw [<- kv];exact H2.o.2.alloc H2.o.2.size _
 have hz:an w3 w2.heap.size 27 [Z7 Z9 (D:Nat),Z7 Z9 (L:Nat),Z7 Z9 (G:Nat)]:=by rw [<- kv];exact UE w2 _
 have p0:=hz.cell (j:=0) (u:=Z7 Z9 (D:Nat)) rfl;have p1:=hz.cell (j:=1) (u:=Z7 Z9 (L:Nat)) rfl;have p2:=hz.cell (j:=2) (u:=Z7 Z9 (G:Nat)) rfl;go_wp2_with fail;clear p0 p1 p2;obtain ⟨pb,qf⟩:=nM (w2.heap.size);rw [qf] at hz ⊢;have H3:=al q8 hz;clear q8 kv hz qf;refine (qb w3).mono ?_;rintro e C ⟨S,rfl,hS,kz,kg⟩;clear qb;have h0:bW w C:=H3.o.1.trans (kg.mono H3.o.1.size);have ke:=H3.o.2.keep (kg.block _ H3.o.2.lt);have p0:=ke.cell (j:=0) (u:=Z7 Z9 (D:Nat)) rfl;have p1:=ke.cell (j:=1) (u:=Z7 Z9 (L:Nat)) rfl;have p2:=ke.cell (j:=2) (u:=Z7 Z9 (G:Nat)) rfl;have ki:=JL (w:=C) (nb:=8+Y) H2.o.1 (by omega) (by omega) ch (H.o.2.2.1.below h0) (H.o.2.2.2.1.below h0 H.o.2.2.2.1.lt) (H.o.2.2.2.2.keep (h0.block _ H.o.2.2.2.2.lt)) (TU hK h0.size);have k9:((8+Y:Nat):Int)=8+(Y:Int):=by omega
 rw [k9] at ki;have H4:=aE h0 kz ki;clear kg h0 ke ki kz;go_wp2_with fail;refine H4.o.2.2.mono ?_;rintro e wc ⟨wb,rfl,hq⟩;clear p0 p1 p2 k9 hb qr;have HM:=ak (show MS wc (AlC S []) C wc wb D L G (8+Y) 1 from (hq.mono lR λB hB=>⟨λi m q=>absurd (hB.bd i m q) (by intro e;cases e),λi m q=>by rw [hB.tn] at q;cases q⟩).SB);have K:=al H4.o.1 H4.o.2.1;clear hq H4;go_wp2_with fail;go_loopw [20,21,22] (λok tv i wr=>AlR C wb D L G (8+Y) S l.length ok tv i wr) (λ_ _ i _=>l.length-(intOf i).toNat)
 case atStart=>exact ⟨0,[],T5 _,rfl,rfl,UN _ _ _ _,TV _,HM.o⟩
 case round=>
  clear HM;obtain ⟨k,M,z,rfl,rfl,I,V,hq⟩:=hrel;by_cases kc:k<l.length
  . obtain ⟨sb,off,rfl,hy,k6⟩:=H.o.1 (λe=>by rw [e] at kc;simp at kc);obtain ⟨t,xs,Q,p,r,sa,ar,v,Kind,ps,pg,ob,P,A,F,out,want,cache,hM,hC,W,k0⟩:=hq;have n:=a7 hM hC W k0 k6 hy;have HK:=al I V;have km:(k:Int)<(l.length:Int):=(by omega);clear hM hC W k0 k6 I V;go_wp2_with fail;go_loopw [21,23] (λtv i wx=>∃ j:Nat,j<=fl.length/\i=Z7 Z9 (j:Nat)/\FS C wr wx p S A F tv (200*k+j)) (λ_ i _=>fl.length-(intOf i).toNat)
    case atStart=>exact ⟨0,T5 _,rfl,A,M,aa.refl _ _,⟨n.o.1.live.vol.arr,n.o.2.2.2.1.2⟩,zc.refl S A,HK.o.1,HK.o.2⟩
    case round=>
     rename ZT=>wy;obtain ⟨j,hj,rfl,kf⟩:=hrel;by_cases kk:j<fl.length
     . obtain ⟨E,g,qm,h5,k8⟩:=H.o.2.1 (λe=>by rw [e] at kk;simp at kk);obtain ⟨r0,r1,r2,r3,r4⟩:=k8 j kk;obtain ⟨f,qd⟩:=nM (fl[j]);rw [qd] at r0 r1 r2 r3 r4;subst qm;obtain ⟨B,M',U,O,N,I,V⟩:=id kf;have k7:bW C wy:=n.o.1.base.trans (U.below λk z=>⟨TZ z n.o.1.base.size,λq=>q.elim (λq=>by have:=n.o.1.fB k q;omega) λq=>by have:=q.1;omega⟩);have y:bW w wy:=K.o.1.trans (k7.mono K.o.1.size);have q0:=(y.cell (p:=⟨E,g+j*5,ZX⟩) h5).trans r0;have q1:=(y.cell (p:=⟨E,g+j*5+1,ZX⟩) h5).trans r1;have q2:=(y.cell (p:=⟨E,g+j*5+2,ZX⟩) h5).trans r2;have q3:=(y.cell (p:=⟨E,g+j*5+3,ZX⟩) h5).trans r3;have q4:=(y.cell (p:=⟨E,g+j*5+4,ZX⟩) h5).trans r4;have qn:(j:Int)<(fl.length:Int):=(by omega);have R:bW wy (wy.alloc (Z4 #[Z7 Z9 f.kind,Z7 Z9 f.drive,Z7 Z9 f.block,Z7 Z9 f.bit,Z7 Z9 f.at_] 36)):=bA wy _;have kp:an (wy.alloc (Z4 #[Z7 Z9 f.kind,Z7 Z9 f.drive,Z7 Z9 f.block,Z7 Z9 f.bit,Z7 Z9 f.at_] 36)) wy.heap.size 36 [Z7 Z9 f.kind,Z7 Z9 f.drive,Z7 Z9 f.block,Z7 Z9 f.bit,Z7 Z9 f.at_]:=UE wy _;obtain ⟨Z,kx⟩:=nM (wy.alloc (Z4 #[Z7 Z9 f.kind,Z7 Z9 f.drive,Z7 Z9 f.block,Z7 Z9 f.bit,Z7 Z9 f.at_] 36));rw [kx] at R kp;have hn:FS C wr Z p S A F u21 (200*k+(j+1)):=⟨B,M',U.trans (aa.RN R _),O.keep λk z=>R.block k (O.1.RO z),N,I.below R,by omega⟩;have q5:1<f.kind->∀ X fb,bW Z X->Z.heap.size<=fb->an X fb 36 [Z7 Z9 f.kind,Z7 Z9 f.drive,Z7 Z9 f.block,Z7 Z9 f.bit,Z7 Z9 f.at_]->ZR ZN 8 #[Z6 (ZW ⟨wb,0,ZX⟩),Z7 Z8 (S:Nat),Z5 (ZW ⟨fb,0,ZX⟩) 1 1,Z7 Z9 (k:Nat),u21] X λe w'=>∃ T,e=Z3 T/\FS C wr w' p S A F T (200*k+(j+1))/\∀ k,Z.heap.size<=k->k<X.heap.size->w'.heap[k]?=X.heap[k]?:=λz X fb qj _ kr=>by
        have hp:bW wy X:=R.trans (qj.mono R.size);refine (JO n.o.1 n.o.2.1 (U.trans (aa.RN hp _)) (O.keep λk z=>hp.block k (O.1.RO z)) N ⟨S,K.o.2,N.on n.o.2.2.2.1.1⟩ (I.below hp) V (by omega) (by omega) kr z hS).mono ?_;rintro e w' ⟨T,he,hF,qp⟩;exact ⟨T,he,hF,λk h1 h2=>qp k h2 (λq=>by have:=n.o.1.live.vol.arr.RO q;have:=U.size;have:=R.size;omega) λq=>by have:=(I.lt k q).2;have:=R.size;omega⟩
       have J:=a5 q5 kp kx hn;clear kf U O N I V y k7 r0 r1 r2 r3 r4 k8 qd q5 R kp kx hn;by_cases qo:1<f.kind;rotate_left
       . have HN:=ak (show ∃ i:Nat,i<=fl.length/\Value.int .i64 ((j:Int)+1)=Z7 Z9 (i:Nat)/\FS C wr (wy.alloc (Z4 #[Z7 Z9 f.kind,Z7 Z9 f.drive,Z7 Z9 f.block,Z7 Z9 f.bit,Z7 Z9 f.at_] 36)) p S A F u21 (200*k+i) from ⟨j+1,by omega,rfl,by rw [J.o.2.2.1];exact J.o.2.2.2⟩);go_wp2;exact ⟨HN.o,by simp [intOf];omega⟩
       . go_upto_region 16 with fail;rw [J.o.2.2.1];clear q0 q1 q2 q3 q4;have g0:=J.o.2.1.cell (j:=0) (u:=Z7 Z9 f.kind) rfl;have g1:=J.o.2.1.cell (j:=1) (u:=Z7 Z9 f.drive) rfl;have g2:=J.o.2.1.cell (j:=2) (u:=Z7 Z9 f.block) rfl;have g3:=J.o.2.1.cell (j:=3) (u:=Z7 Z9 f.bit) rfl;have g4:=J.o.2.1.cell (j:=4) (u:=Z7 Z9 f.at_) rfl;have HA:=ak (J.o.1 qo (Z.alloc (Z4 #[Z7 Z9 f.kind,Z7 Z9 f.drive,Z7 Z9 f.block,Z7 Z9 f.bit,Z7 Z9 f.at_] 36)) Z.heap.size (bA Z _) lR (UE Z _));clear J;go_wp2_with fail;refine HA.o.mono ?_;rintro e w8 ⟨qx,rfl,h8,_⟩;have HN:=ak (show ∃ i:Nat,i<=fl.length/\Value.int .i64 ((j:Int)+1)=Z7 Z9 (i:Nat)/\FS C wr w8 p S A F qx (200*k+i) from ⟨j+1,by omega,rfl,h8⟩);clear h8 HA g0 g1 g2 g3 g4;go_wp2;exact ⟨HN.o,by simp [intOf];omega⟩
     . have qs:¬ (j:Int)<(fl.length:Int):=(by omega);obtain ⟨B,M',U,O,N,I,V⟩:=kf;obtain ⟨hB,qa⟩:=n.o.1.fault n.o.2.1 O.1 U N ⟨S,K.o.2,N.on n.o.2.2.2.1.1⟩;obtain ⟨_,_,W,k0,k6,hy⟩:=n.o;have ky:AlC S M' B:=⟨N.on k0.1,O.2⟩;obtain ⟨dv,r1,r2,r3,r4,r5⟩:=k6 k kc;have kj:l[k].d.length<=100000:=TU (Pe l k kc) ks;obtain ⟨o,ho⟩:=nM (l[k]);rw [ho] at r1 r2 r3 r5 kj;have y:bW w wy:=K.o.1.trans (hB.base.mono K.o.1.size);have q1:=(y.cell (p:=⟨sb,off+k*4,ZX⟩) hy).trans r1;have q2:=(y.cell (p:=⟨sb,off+k*4+1,ZX⟩) hy).trans r2;have q3:=(y.cell (p:=⟨sb,off+k*4+2,ZX⟩) hy).trans r3;have q4:=(y.cell (p:=⟨sb,off+k*4+3,ZX⟩) hy).trans r4;obtain ⟨da,dc,qk,_⟩:=id r5;subst qk;have h6:=Np hB qa o _ (r5.mono K.o.1) kj W (by omega) qh (by omega);obtain ⟨m,hm⟩:=nM (o.d.length);rw [hm] at q4 h6;have HS:=a5 h6 ky I (show M'.length<=200*(k+1) by omega);clear U O N I V hB qa n W k0 k6 ky r1 r2 r3 r4 r5 kj y h6 hm ho HK;go_wp2_with fail;clear q1 q2 q3 q4;refine HS.o.1.mono ?_;rintro e w6 ⟨rfl,hr⟩;have k5:Mk C w6 u21 M':=xY HS.o.2.2.1 λk z=>by
        obtain ⟨cur,hc⟩:=bz HS.o.2.2.1 z;exact hr.marks hc
       have H6:=ak (show AlR C wb D L G (8+Y) S l.length (Z1 ZV) u21 (Z7 Z9 ((k:Int)+1)) w6 from ⟨k+1,M',by omega,rfl,rfl,k5,HS.o.2.2.2,(hr.mono (by omega) λ_ q=>HS.o.2.1.alk q).SB⟩);clear hr k5 HS;go_wp2;exact ⟨H6.o,by simp [intOf];omega⟩
  . have km:¬ (k:Int)<(l.length:Int):=(by omega);have HB:=al (RE hq λA B z hA=>hA.alk z) hq.base;clear hq I V;go_wp2_with fail;refine HB.o.1.mono ?_;rintro e w6 ⟨rfl,q9⟩;have H6:=ak q9;clear q9;go_wp2;go_ret;exact ⟨rfl,K.o.1.trans (H6.o.mono K.o.1.size)⟩
