import Derived.Test.YtlmpfffdmicbfaaGreatDoorM02
import Derived.ChangeKeysEq
import Derived.Laws.StructEq
import Derived.LaidEql
import Derived.Stop.Asserts
import Derived.RowKitTokens
import Derived.Deep.CutRange
import Derived.Defers
import Derived.Recover
import Derived.ChangeSame
import Derived.ChangeVars
import Derived.JoinedOf
import Derived.RowKit
import Derived.LaidLaws
import Derived.LaidHandle
import Derived.Stop.Joined
import Derived.Lib.SmallJoins
import Derived.Deep.AppendSrc
import Derived.Deep.RegionHeld3
import Derived.Lib.LaidTab
import Derived.Carry
set_option maxRecDepth 100000
set_option linter.all false
set_option maxHeartbeats 8000000
open Go.IntKind renaming i64 -> O, u64 -> Z8
open Go.Value renaming int -> I, pointer -> Z6, slice -> Z5, bool -> Z1, tuple -> ZZ
open Go.Obj renaming cells -> Z4
open Go.Ending renaming returned -> Z3
open Go.Operand renaming tmp -> Z0
open Go renaming undef -> ZY, World -> ZT, Value -> ZS, Calls -> ZQ, Addr -> ZP, Ending -> ZO, TypeId -> ZN, Boxed -> ZM
open Option renaming none -> U, some -> J
open Bool renaming true -> ZV, false -> ZU
open Go.RowKit renaming Below -> ZR
open List renaming replicate -> YE, range -> YF, take -> YJ, drop -> YM
open Go renaming method -> YG
open Array renaming getElem?_eq_none -> YH, foldl -> YI, ext_getElem? -> YN
open Eq renaming trans -> YK
open And renaming intro -> YL
open Exists renaming intro -> YO
open Go.Proofs.Tryz renaming prog -> ZL
open Go.Proofs.Tryz
namespace Go.Proofs.YtlmpfffdmicbfaaGreatDoor
def WL:=@List.map_take
def acP:=@List.getElem?_take
def WM:=@List.map_drop
def Wm:=@List.getElem?_drop
def Wn:=@Nat.min_eq_left
def Un:=@List.length_drop
def adm:=@Go.World.rangeAt_alloc
def XI:=@Go.Proofs.Tryz.underlying132
def UP:=@Go.run_underlying
def adn:=@Go.Proofs.Tryz.underlying215
def WN:=@List.take_zero
def acQ:=@List.map_toArray
def Xq:=@Go.Proofs.Tryz.underlying5
def W0:=@Go.World.cell?_alloc_lt
def acR:=@Go.World.frozen?_alloc_old
def Xr:=@Go.RowKit.Below.setCell
def acS:=@Go.Proofs.Tryz.underlying51
def Xs:=@Go.run_typeAssert_lacksB
def ado:=@Go.Proofs.Tryz.underlying248
def adp:=@Go.Proofs.Tryz.underlying175
def adq:=@Go.run_storeAt_mid
def XJ:=@Bool.or_eq_false_iff
def Wo:=@Go.run_takeDeferred
def V5:=@Nat.or_lt_two_pow
def Us:=@Go.Boxed.new
def V6:=@Go.KeepsOthers.setCell
def U9:=@Go.Proofs.enters_of
def acT:=@Go.run_loadAt_mid
def We:=@Go.Boxed.cell
def Xt:=@Nat.add_mul
def acU:=@Go.heap_alloc_new
def Ye:=@List.take_left
def XK:=@Int.tdiv_eq_ediv_of_nonneg
def adF:=@List.sublist_append_right
end Go.Proofs.YtlmpfffdmicbfaaGreatDoor
namespace Go.Proofs.YtlmpfffdmicbfaaGreatDoor
open Go.RowKit Go.Deep Go.Shelf Gf
variable {a:Act}{vals:Array ZS}{C:Ck}{e:ZO}{R:ZO->ZT->Prop}{F:aC}{fn:Func}{room:Int}{M:List a7}{T:List (Nat×Nat×a7)}{l src:a7}{base v n b c t q cap r B f D L G d p ps ho sb ar D' L' G' t' f' n' N m g:Nat}{P:Program}{ty:ZN}{pg ob:ZS}{w w0 w' Z X w2 W:ZT}
def aq(D L G t f n:Nat):Array ZS:=#[I O D,I O L,I O G,I Z8 t,I O f,I O n]
def Bs.Se{v:ZS}(h:w.ownsRow base 5 1 v n (aL l))(c:∀x∈l,x<256)(hl:l.length<=1000000):Bs w v l:=by
 have b:l.length=n:=by have:=h.1;rw[aY]at this;omega
 rcases h.2 with⟨rfl,d⟩|⟨g,cap,cur,rfl,e,f,i,j,m,o⟩;.subst d;have:l=[]:=U2 b;subst this;exact⟨U,0,rfl,ej,ej,c,λh=>absurd rfl h⟩
 .refine⟨J ⟨g,0,U⟩,cap,by rw[b],V,V,c,λ_=>⟨g,0,rfl,λk a=>?_⟩⟩;have:=h.cells (g:=g) rfl k (I .u8 ((l.getD k 0:Nat):Int)) Zi;rw[kl]at this;rw[Uj];exact this
def Jn(w:ZT)(a b c d:Nat):(w.alloc (Z4 #[I .u8 (a:Int),I .u8 (b:Int),I .u8 (c:Int),I .u8 (d:Int)] 5)).ownsRow w.heap.size 5 1 (Z5 (J ⟨w.heap.size,0,U⟩) 4 4) 4 (aL [a,b,c,d]):=⟨rfl,.inr ⟨w.heap.size,4,_,rfl,TV _,Ug _ _,TV _,eD,rfl,rfl⟩⟩
theorem FK(w:ZT):ZQ ZL 270 #[.agg #[]] w λe w'=>e=Z3 (Z5 U 0 0)/\bW w w':=by go_enter func270,ntmps270;go_wp2;go_ret;exact⟨rfl,bA w _⟩
theorem Jo(D L G t f n:Nat)(w:ZT)(S:(bF.root D L G t f n).ok):ZQ ZL 253 #[.agg (aq D L G t f n)] w λe w'=>∃v,e=Z3 v/\Bs w' v (bF.root D L G t f n).body/\bW w w':=by
 obtain⟨i,j,l,u,x,y⟩:=S;have P:(w.alloc (Z4 (aq D L G t f n) 132)).heap[w.heap.size]?=J (Z4 (aq D L G t f n) 132 (0,0)):=Ug _ _;have V':(w.alloc (Z4 (aq D L G t f n) 132)).heap.size=w.heap.size+1:=ej;have E:=Jn (w.alloc (Z4 (aq D L G t f n) 132)) 1 D L G;have q:((w.alloc (Z4 (aq D L G t f n) 132)).alloc (Z4 #[I .u8 1,I .u8 (D:Int),I .u8 (L:Int),I .u8 (G:Int)] 5)).heap[w.heap.size]?=J (Z4 (aq D L G t f n) 132 (0,0)):=(UE _ _ _ ej).trans P;have C:bW w ((w.alloc (Z4 (aq D L G t f n) 132)).alloc (Z4 #[I .u8 1,I .u8 (D:Int),I .u8 (L:Int),I .u8 (G:Int)] 5)):=(bA w _).alloc ej _;have H:((w.alloc (Z4 (aq D L G t f n) 132)).alloc (Z4 #[I .u8 1,I .u8 (D:Int),I .u8 (L:Int),I .u8 (G:Int)] 5)).heap.size=w.heap.size+2:=ej;rw[V']at E;unfold aq at*;obtain⟨w1,F⟩:=nM ((w.alloc (Z4 #[I O D,I O L,I O G,I Z8 t,I O f,I O n] 132)).alloc (Z4 #[I .u8 1,I .u8 (D:Int),I .u8 (L:Int),I .u8 (G:Int)] 5));have N:w1.ownsRow (w.heap.size+1) 5 1 (Z5 (J ⟨w.heap.size+1,0,U⟩) 4 4) 4 (aL [1,D,L,G]):=by rw[<-F];exact E
 rw[F]at q C H;have c1:w1.cell? ⟨w.heap.size,3,U⟩=J (I Z8 t):=by simp[World.cell?,q]
 have a:=aE N q C H;go_enter func253,ntmps253;go_wp2_with fail;refine(gD (w.heap.size+1) _ 4 (aL [1,D,L,G]) t 8 w1 a.o.1 (ia a.o.2.2.2) ec ec).mono ?_;rintro e w2⟨W,rfl,Q,m,J'⟩;have z:w2.heap[w.heap.size]?=J (Z4 #[I O D,I O L,I O G,I Z8 t,I O f,I O n] 132 (0,0)):=(m.block _ (ia a.o.2.2.2) (λe=>by simp[Value.ownBlock]at e)).trans a.o.2.1;have K:bW w w2:=a.o.2.2.1.trans (m.below λk s=>⟨ia a.o.2.2.2,λe=>by simp[Value.ownBlock]at e;omega⟩);have T:=m.size;have Z:w2.cell? ⟨w.heap.size,4,U⟩=J (I O f):=Zz;have b:=a5 Q z K T J';go_wp2_with fail;refine(gD (w.heap.size+1) _ (4+8) (aL [1,D,L,G]++aL (be t 8)) f 4 w2 b.o.1 W7 ec ec).mono ?_;rintro e g⟨v3,rfl,R,p,hs⟩;have B:∀k,k<=w.heap.size->¬W.ownBlock=J k:=λk s e=>ia ((b.o.1.lt k e).1);have A:g.heap[w.heap.size]?=J (Z4 #[I O D,I O L,I O G,I Z8 t,I O f,I O n] 132 (0,0)):=(p.block _ W7 (B _ lR)).trans b.o.2.1;have M:bW w g:=b.o.2.2.1.trans (p.below λk s=>⟨W7,B k V⟩);have U':=TU b.o.2.2.2.1 p.size;have c3:g.cell? ⟨w.heap.size,5,U⟩=J (I O n):=by simp[World.cell?,A]
 have c:=aE R A M U';go_wp2_with fail;refine(gD (w.heap.size+1) _ (4+8+4) (aL [1,D,L,G]++aL (be t 8)++aL (be f 4)) n 4 g c.o.1 (by have:=a.o.2.2.2;have:=c.o.2.2.2;omega) ec ec).mono ?_;rintro e Y⟨X,rfl,d,O',hv⟩;have h:bW w Y:=c.o.2.2.1.trans (O'.below λk s=>⟨by have:=a.o.2.2.2;have:=c.o.2.2.2;omega,λe=>ia ((c.o.1.lt k e).1)⟩);have o:=al d h;go_wp2;go_ret;obtain⟨d,h⟩:=o.o;refine⟨X,rfl,?_,h⟩;have hl:aL [1,D,L,G]++aL (be t 8)++aL (be f 4)++aL (be n 4)=aL (bF.root D L G t f n).body:=by rw[<-bT,<-bT,<-bT];simp only[bF.body,VW i,VW j,VW l,UA]
 rw[hl]at d;exact Bs.Se d (tF (r:=.root D L G t f n) ⟨i,j,l,u,x,y⟩) (TU (oY (r:=.root D L G t f n) ⟨i,j,l,u,x,y⟩) ec)
def Bs.mid{off:Nat}(d:l.length<=c)(hl:l.length<=1000000)(e:∀x∈l,x<256)(h:w.rangeAt b off (aL l)):Bs w (Z5 (J ⟨b,off,U⟩) l.length c) l:=⟨_,c,rfl,d,V,e,λ_=>⟨b,off,rfl,λk a=>h k _ Zi⟩⟩
theorem oE{off:Nat}(s:Nat)(h:w.rangeAt b off (aL l)):w.rangeAt b off (aL (l.take s)):=λj v a=>by
 unfold aL at a;rw[WL,acP]at a;split at a;.exact h j v a
 .cases a
def gH{off:Nat}(s:Nat)(h:w.rangeAt b off (aL l)):w.rangeAt b (off+s) (aL (l.drop s)):=λj v a=>by unfold aL at a;rw[WM,Wm]at a;rw[Vt];exact h (s+j) v a
theorem kC(q b off c s:Nat)(l:a7)(w:ZT)(d:w.heap[q]?=J (Z4 #[Z5 (J ⟨b,off,U⟩) l.length c] 36 (0,0)))(k:c<=1000)(i:∀x∈l,x<256)(f:w.rangeAt b off (aL l))(g:s<=l.length)(n:s<c):ZQ ZL 221 #[I O s,Z6 (J ⟨q,0,U⟩)] w λe w'=>e=Z3 (I Z8 (gx (l.take s):Nat))/\w'=w.setCell ⟨q,0,U⟩ (Z5 (J ⟨b,off+s,U⟩) (l.length-s) (c-s)):=by have a:Bs w (Z5 (J ⟨b,off,U⟩) (l.take s).length c) (l.take s):=Bs.mid K0 K0 (λx h=>i x (US h)) (oE s f);rw[Uq,Wn g]at a;have c0:w.cell? ⟨q,0,U⟩=J (Z5 (J ⟨b,off,U⟩) l.length c):=B8;have j:w.frozen? ⟨q,0,U⟩=ZU:=adN;go_enter func221,ntmps221;go_wp2_with fail;refine(AO _ (l.take s) w a).mono ?_;rintro e w'⟨rfl,rfl⟩;have m:¬c=s:=V;go_wp2;go_ret;exact⟨rfl,rfl⟩
structure Jq(w0 w:ZT)(q b off c:Nat)(l:a7)(vals:Array ZS):Prop where
 box:w.heap[q]?=J (Z4 #[Z5 (J ⟨b,off,U⟩) l.length c] 36 (0,0))res:w.heap[q+1]?=J (Z4 #[I O 0,I O 0,I O 0,I Z8 0,I O 0,I O 0] 132 (0,0))rv:w.heap[q+1+1]?=J (Z4 vals 132 (0,0))below:ZR q w0 w
 rng:w.rangeAt b off (aL l)lt:b<q
def ai{j:Nat}{cs:Array ZS}{t:ZN}(h:w.heap[b]?=J (Z4 cs t (0,0)))(v:ZS):(w.setCell ⟨b,j,U⟩ v).heap[b]?=J (Z4 (cs.setIfInBounds j v) t (0,0)):=by simp[World.setCell,Vb,h]
def zt{off:Nat}{l:List ZS}(h:w.rangeAt b off l){a:ZP}(c:b≠a.block)(v:ZS):(w.setCell a v).rangeAt b off l:=λj u d=>by have:=h j u d;rw[<-this];exact Uk (Uc _ _ _ _ c)
def Jq.step{off:Nat}(h:Jq w0 w q b off c l vals)(s j:Nat)(v:ZS):Jq w0 ((w.setCell ⟨q,0,U⟩ (Z5 (J ⟨b,off+s,U⟩) (l.length-s) (c-s))).setCell ⟨q+1+1,j,U⟩ v) q b (off+s) (c-s) (l.drop s) (vals.setIfInBounds j v):=by
 obtain⟨a,d,e,f,g,i⟩:=h;refine⟨?_,?_,?_,?_,?_,i⟩;.rw[Uc _ _ _ _ (by show q≠q+1+1;omega),ai a,Un];rfl
 .rw[Uc _ _ _ _ (by show q+1≠q+1+1;omega),Uc _ _ _ _ (by show q+1≠q;omega)];exact d
 .exact ai ((Uc _ _ _ _ (by show q+1+1≠q;omega)).trans e) v
 .exact(f.setCell (p:=⟨q,0,U⟩) lR _).setCell (p:=⟨q+1+1,j,U⟩) (by show q<=q+1+1;omega) _
 .exact zt (zt (gH s g) (by show b≠q;omega) _) (by show b≠q+1+1;omega) _
def Jq.cells{off:Nat}(h:Jq w0 w q b off c l vals)(s j:Nat)(u:ZS)(a:vals[j]?=J u):(w.setCell ⟨q,0,U⟩ (Z5 (J ⟨b,off+s,U⟩) (l.length-s) (c-s))).cell? ⟨q+1+1,j,U⟩=J u/\(w.setCell ⟨q,0,U⟩ (Z5 (J ⟨b,off+s,U⟩) (l.length-s) (c-s))).frozen? ⟨q+1+1,j,U⟩=ZU:=by have e:(w.setCell ⟨q,0,U⟩ (Z5 (J ⟨b,off+s,U⟩) (l.length-s) (c-s))).heap[q+1+1]?=_:=(Uc _ _ _ _ (by show q+1+1≠q;omega)).trans h.rv;exact⟨by simp[World.cell?,e,a],by simp[World.frozen?,e]⟩
def zu:∀(l:a7),l.length<=7->(∀x∈l,x<256)->gx l<256^l.length:=by intro l hl a;induction hn:l.length generalizing l with|zero=>have:l=[]:=U2 hn;subst this;decide|succ n ih=>
  rcases List.eq_nil_or_concat l with rfl|⟨b,x,rfl⟩;.simp at hn
  .rw[List.concat_eq_append]at*;simp at hn;have c:b.length<=7:=(by simp at hl;omega);have e:=ih b c (λy d=>a y (by simp[d])) hn;have f:=a x ej;rw[uA,XV];exact WV (Nat.mod_le _ _) V
theorem FL(b off:Nat)(l:a7)(w:ZT)(hl:l.length=59)(hx:∀x∈l,x<256)(hr:w.rangeAt b off (aL l))(hb:b<w.heap.size):ZQ ZL 212 #[Z5 (J ⟨b,off,U⟩) l.length 59] w λe w'=>e=Z3 (.agg (aq (gx (l.take 1)) (gx ((l.drop 1).take 1)) (gx ((l.drop 2).take 1)) (gx ((l.drop 3).take 8)) (gx ((l.drop 11).take 4)) (gx ((l.drop 15).take 4))))/\bW w w':=by
 have W:∀s,∀x∈l.drop s,x<256:=λs x h=>hx x (UW h);have k5:∀s k,k<=7->gx ((l.drop s).take k)<256^k:=λs k hk=>by have hf:((l.drop s).take k).length<=k:=K0;exact TY (zu _ V (λx h=>W s x (US h))) (UY ec hf)
 have V':Jq w (((w.alloc (Z4 #[Z5 (J ⟨b,off,U⟩) l.length 59] 36)).alloc (Z4 #[I O 0,I O 0,I O 0,I Z8 0,I O 0,I O 0] 132)).alloc (Z4 #[I O 0,I O 0,I O 0,I Z8 0,I O 0,I O 0] 132)) w.heap.size b off 59 l #[I O 0,I O 0,I O 0,I Z8 0,I O 0,I O 0]:=by
  refine⟨?_,?_,?_,((bA w _).alloc ej _).alloc ek _,adm (adm (adm hr _) _) _,hb⟩;.rw[UE _ _ _ ek,UE _ _ _ ej];exact Ug _ _
  .rw[UE _ _ _ ej];have:=Ug (w.alloc (Z4 #[Z5 (J ⟨b,off,U⟩) l.length 59] 36)) (Z4 #[I O 0,I O 0,I O 0,I Z8 0,I O 0,I O 0] 132);simpa using this
  .have:=Ug ((w.alloc (Z4 #[Z5 (J ⟨b,off,U⟩) l.length 59] 36)).alloc (Z4 #[I O 0,I O 0,I O 0,I Z8 0,I O 0,I O 0] 132)) (Z4 #[I O 0,I O 0,I O 0,I Z8 0,I O 0,I O 0] 132);simpa using this
 obtain⟨w1,k6⟩:=nM (((w.alloc (Z4 #[Z5 (J ⟨b,off,U⟩) l.length 59] 36)).alloc (Z4 #[I O 0,I O 0,I O 0,I Z8 0,I O 0,I O 0] 132)).alloc (Z4 #[I O 0,I O 0,I O 0,I Z8 0,I O 0,I O 0] 132));rw[k6]at V';have a:=au W k5 hl;have H0:cL (Jq w w1 w.heap.size b (off+0) 59 (l.drop 0) #[I O 0,I O 0,I O 0,I Z8 0,I O 0,I O 0]):=V';clear V' hr hx W k5 hl hb;go_enter func212,ntmps212;go_wp2_with fail;obtain⟨f,X⟩:∃x,gx ((l.drop 0).take 1)=x:=⟨_,rfl⟩;have b0:f<4294967296:=TY (X▸a.o.2.1 0 1 ec) ec;have N:=H0.o;refine(kC w.heap.size b (off+0) 59 1 (l.drop 0) w1 N.box ec (a.o.1 0) N.rng T1 ec).mono ?_;rintro e y0⟨rfl,ke⟩;rw[X];have H:=N.step 1 0 (I O (f:Nat));obtain⟨t,C⟩:=N.cells 1 0 _ rfl;rw[<-ke]at H t C;clear ke;obtain⟨w2,k7⟩:∃z,y0.setCell ⟨w.heap.size+1+1,0,U⟩ (I O (f:Nat))=z:=⟨_,rfl⟩;rw[k7]at H;have hq:Jq w w2 w.heap.size b (off+1) 58 (l.drop 1) #[I O (f:Nat),I O 0,I O 0,I Z8 0,I O 0,I O 0]:=by rw[VH,Vt off]at H;exact H
 have H1:=ak hq;clear N H hq;go_wp2_with fail;obtain⟨g,Y⟩:∃x,gx ((l.drop 1).take 1)=x:=⟨_,rfl⟩;have b1:g<4294967296:=TY (Y▸a.o.2.1 1 1 ec) ec;have O':=H1.o;refine(kC w.heap.size b (off+1) 58 1 (l.drop 1) w2 O'.box ec (a.o.1 1) O'.rng T1 ec).mono ?_;rintro e y1⟨rfl,kf⟩;rw[Y];have o:=O'.step 1 1 (I O (g:Nat));obtain⟨u,D⟩:=O'.cells 1 1 _ rfl;rw[<-kf]at o u D;clear kf;obtain⟨w3,k8⟩:∃z,y1.setCell ⟨w.heap.size+1+1,1,U⟩ (I O (g:Nat))=z:=⟨_,rfl⟩;rw[k8]at o;have hs:Jq w w3 w.heap.size b (off+2) 57 (l.drop 2) #[I O (f:Nat),I O (g:Nat),I O 0,I Z8 0,I O 0,I O 0]:=by rw[VH,Vt off]at o;exact o
 have H2:=ak hs;clear O' o hs;go_wp2_with fail;obtain⟨i,Z⟩:∃x,gx ((l.drop 2).take 1)=x:=⟨_,rfl⟩;have b2:i<4294967296:=TY (Z▸a.o.2.1 2 1 ec) ec;have P:=H2.o;refine(kC w.heap.size b (off+2) 57 1 (l.drop 2) w3 P.box ec (a.o.1 2) P.rng T1 ec).mono ?_;rintro e y2⟨rfl,kg⟩;rw[Z];have J':=P.step 1 2 (I O (i:Nat));obtain⟨y,E⟩:=P.cells 1 2 _ rfl;rw[<-kg]at J' y E;clear kg;obtain⟨w4,k9⟩:∃z,y2.setCell ⟨w.heap.size+1+1,2,U⟩ (I O (i:Nat))=z:=⟨_,rfl⟩;rw[k9]at J';have hv:Jq w w4 w.heap.size b (off+3) 56 (l.drop 3) #[I O (f:Nat),I O (g:Nat),I O (i:Nat),I Z8 0,I O 0,I O 0]:=by rw[VH,Vt off]at J';exact J'
 have H3:=ak hv;clear P J' hv;go_wp2_with fail;obtain⟨m,kc⟩:∃x,gx ((l.drop 3).take 8)=x:=⟨_,rfl⟩;have Q:=H3.o;refine(kC w.heap.size b (off+3) 56 8 (l.drop 3) w4 Q.box ec (a.o.1 3) Q.rng T1 ec).mono ?_;rintro e y3⟨rfl,kh⟩;rw[kc];have K:=Q.step 8 3 (I Z8 (m:Nat));obtain⟨A,F⟩:=Q.cells 8 3 _ rfl;rw[<-kh]at K A F;clear kh;obtain⟨w5,ka⟩:∃z,y3.setCell ⟨w.heap.size+1+1,3,U⟩ (I Z8 (m:Nat))=z:=⟨_,rfl⟩;rw[ka]at K;have hy:Jq w w5 w.heap.size b (off+11) 48 (l.drop 11) #[I O (f:Nat),I O (g:Nat),I O (i:Nat),I Z8 (m:Nat),I O 0,I O 0]:=by rw[VH,Vt off]at K;exact K
 have H4:=ak hy;clear Q K hy;go_wp2_with fail;obtain⟨n,hn⟩:∃x,gx ((l.drop 11).take 4)=x:=⟨_,rfl⟩;have b4:n<4294967296:=TY (hn▸a.o.2.1 11 4 ec) ec;have R:=H4.o;refine(kC w.heap.size b (off+11) 48 4 (l.drop 11) w5 R.box ec (a.o.1 11) R.rng T1 ec).mono ?_;rintro e y4⟨rfl,ki⟩;rw[hn];have L:=R.step 4 4 (I O (n:Nat));obtain⟨B,G⟩:=R.cells 4 4 _ rfl;rw[<-ki]at L B G;clear ki;obtain⟨w6,kb⟩:∃z,y4.setCell ⟨w.heap.size+1+1,4,U⟩ (I O (n:Nat))=z:=⟨_,rfl⟩;rw[kb]at L;have hz:Jq w w6 w.heap.size b (off+15) 44 (l.drop 15) #[I O (f:Nat),I O (g:Nat),I O (i:Nat),I Z8 (m:Nat),I O (n:Nat),I O 0]:=by rw[VH,Vt off]at L;exact L
 have H5:=ak hz;clear R L hz;go_wp2_with fail;obtain⟨q,hp⟩:∃x,gx ((l.drop 15).take 4)=x:=⟨_,rfl⟩;have b5:q<4294967296:=TY (hp▸a.o.2.1 15 4 ec) ec;have S:=H5.o;refine(kC w.heap.size b (off+15) 44 4 (l.drop 15) w6 S.box ec (a.o.1 15) S.rng T1 ec).mono ?_;rintro e y5⟨rfl,kj⟩;rw[hp];have M:=S.step 4 5 (I O (q:Nat));obtain⟨T,U'⟩:=S.cells 4 5 _ rfl;rw[<-kj]at M T U';clear kj;obtain⟨d,km⟩:∃z,y5.setCell ⟨w.heap.size+1+1,5,U⟩ (I O (q:Nat))=z:=⟨_,rfl⟩;rw[km]at M;have k0:Jq w d w.heap.size b (off+19) 40 (l.drop 19) #[I O (f:Nat),I O (g:Nat),I O (i:Nat),I Z8 (m:Nat),I O (n:Nat),I O (q:Nat)]:=by rw[VH,Vt off]at M;exact M
 have c:=ak k0;clear S M k0;have g0:d.cell? ⟨w.heap.size+1+1,0,U⟩=J (I O (f:Nat)):=P6;have g1:d.cell? ⟨w.heap.size+1+1,1,U⟩=J (I O (g:Nat)):=P6;have g2:d.cell? ⟨w.heap.size+1+1,2,U⟩=J (I O (i:Nat)):=P6;have g3:d.cell? ⟨w.heap.size+1+1,3,U⟩=J (I Z8 (m:Nat)):=P6;have g4:d.cell? ⟨w.heap.size+1+1,4,U⟩=J (I O (n:Nat)):=P6;have g5:d.cell? ⟨w.heap.size+1+1,5,U⟩=J (I O (q:Nat)):=P6;have r0:d.cell? ⟨w.heap.size+1,0,U⟩=J (I O 0):=Pl;have r1:d.cell? ⟨w.heap.size+1,1,U⟩=J (I O 0):=Pl;have r2:d.cell? ⟨w.heap.size+1,2,U⟩=J (I O 0):=Pl;have r3:d.cell? ⟨w.heap.size+1,3,U⟩=J (I Z8 0):=Pl;have r4:d.cell? ⟨w.heap.size+1,4,U⟩=J (I O 0):=Pl;have r5:d.cell? ⟨w.heap.size+1,5,U⟩=J (I O 0):=Pl;have r:∀k,d.frozen? ⟨w.heap.size+1,k,U⟩=ZU:=λk=>by simp[World.frozen?,c.o.res]
 have f0:=r 0;have f1:=r 1;have f2:=r 2;have f3:=r 3;have f4:=r 4;have f5:=r 5;clear r k6 k7 k8 k9 ka kb t u y A B C D E F G H0 H1 H2 H3 H4 H5;go_wp2;have hh:=ai (j:=5) (ai (j:=4) (ai (j:=3) (ai (j:=2) (ai (j:=1) (ai (j:=0) c.o.res (I O (f:Nat))) (I O (g:Nat))) (I O (i:Nat))) (I Z8 (m:Nat))) (I O (n:Nat))) (I O (q:Nat));refine Uv (v:=.agg (aq f g i m n q)) (Wl results212 _ _ (w.heap.size+1) 132 (aq f g i m n q) (0,0) _ rfl hh XI rfl ee) rfl ?_;have kk:=c.o.below;refine⟨?_,(((((kk.setCell (p:=⟨w.heap.size+1,0,U⟩) eP _).setCell (p:=⟨w.heap.size+1,1,U⟩) eP _).setCell (p:=⟨w.heap.size+1,2,U⟩) eP _).setCell (p:=⟨w.heap.size+1,3,U⟩) eP _).setCell (p:=⟨w.heap.size+1,4,U⟩) eP _).setCell (p:=⟨w.heap.size+1,5,U⟩) eP _⟩;rw[<-X,<-Y,<-Z,<-kc,<-hn,<-hp,Yv]
def ef:bF->ZS|.blank=>.iface 246 (.agg #[])|.root D L G t f n=>.iface 132 (.agg (aq D L G t f n))|.filled=>.iface 165 (.agg #[])|.shard l=>.iface 217 (.agg (aL l).toArray)
def nr(h:cO w b l):w.rangeAt b 0 (aL l):=λj v c=>by
 have:(aK l)[j]?=J v:=by unfold aK;simpa using c
 have a:w.heap[b]?=J (Z4 (aK l) 119 (0,0)):=h;simp[World.cell?,a,this]
def Mf(h:cO w b l)(i:Nat)(a:i<l.length):w.cell? ⟨b,i,U⟩=J (I .u8 ((l.getD i 0:Nat):Int)):=by have:=nr h i (I .u8 ((l.getD i 0:Nat):Int)) Zi;rwa[Uj]at this
def uQ(l:a7)(i:Nat)(h:i<l.length):(l.drop i).take 1=[l.getD i 0]:=by rw[X3 h,Ub,Ud h];rfl
def Mg(hl:l.length=64)(a:l.getD 4 0=1):tg l=.root (gx ((l.drop 5).take 1)) (gx (((l.drop 5).drop 1).take 1)) (gx (((l.drop 5).drop 2).take 1)) (gx (((l.drop 5).drop 3).take 8)) (gx (((l.drop 5).drop 11).take 4)) (gx (((l.drop 5).drop 15).take 4)):=by unfold tg;rw[TT a,VH,VH,VH,VH,VH,uQ l 5 V,uQ l (5+1) V,uQ l (5+2) V]
def Db:∀(l:List ZS)(k:Nat)(z:Array ZS),((l.zipIdx k).foldl (λcs x=>cs.setIfInBounds x.2 x.1) z).size=z.size/\∀i,((l.zipIdx k).foldl (λcs x=>cs.setIfInBounds x.2 x.1) z)[i]?=if k<=i/\i<k+l.length/\i<z.size then l[i-k]? else z[i]?
 |[],k,z=>⟨rfl,λi=>by show z[i]?=if k<=i/\i<k+0/\i<z.size then _ else z[i]?;rw[TS V]⟩|v::l,k,z=>by
  obtain⟨b,c⟩:=Db l (k+1) (z.setIfInBounds k v);rw[List.zipIdx_cons,Xc];refine⟨by rw[b];simp,λi=>?_⟩;rw[c i,Array.size_setIfInBounds,ac5];simp only[UC];by_cases e:k=i
  . subst e;rw[TS V,TT rfl];by_cases a:k<z.size;.rw[TT a,TT V,Xb];rfl
    .rw[TS a,TS V];simp[a]
  . rw[TS e];by_cases a:k+1<=i/\i<k+1+l.length/\i<z.size;.rw[TT a,TT V,(V:i-k=(i-(k+1))+1)];rfl
    .rw[TS a,TS V]
theorem zv(z a:Array ZS)(n:Nat)(g:z.size=n)(c:a.size=n):YI (λcs x=>cs.setIfInBounds x.snd x.fst) z a.zipIdx 0 n=a:=by
 have e:YI (λcs x=>cs.setIfInBounds x.snd x.fst) z a.zipIdx 0 n=(a.toList.zipIdx).foldl (λcs x=>cs.setIfInBounds x.2 x.1) z:=by rw[<-c,(ej:a.size=a.zipIdx.size),<-Array.foldl_toList,Array.toList_zipIdx]
 rw[e];obtain⟨d,b⟩:=Db a.toList 0 z;apply YN;intro i;rw[b i];by_cases f:i<n;.rw[TT ek];simp
 .rw[TS V];simp[YH (V:z.size<=i),YH (V:a.size<=i)]
theorem Jr(l:a7)(w:ZT)(hl:l.length=64)(G:∀x∈l,x<256):ZQ ZL 195 #[.agg (aK l)] w λe w'=>e=Z3 (ef (tg l))/\bW w w':=by
 have g:=cO.new w l;have c:bW w (w.alloc (Z4 (aK l) 119)):=bA w _;have b:(w.alloc (Z4 (aK l) 119)).heap.size=w.heap.size+1:=ej;obtain⟨w1,E⟩:=nM (w.alloc (Z4 (aK l) 119));rw[E]at g c b;have k:=Mf g 4 V;have D:w1.rangeAt w.heap.size 5 (aL (l.drop 5)):=by have:=gH 5 (nr g);rwa[Uj]at this
 have A:w1.rangeAt w.heap.size 20 (aL (l.drop 20)):=by have:=gH 20 (nr g);rwa[Uj]at this
 have F:∀x∈l.drop 5,x<256:=λx h=>G x (UW h);have r:(l.drop 5).length=59:=by rw[Un,hl]
 have y:(l.drop 20).length=44:=by rw[Un,hl]
 by_cases d:l.getD 4 0=1;.have a:=Mg hl d;rw[d]at k;have p:=FL w.heap.size 5 (l.drop 5) w1 r F D V;rw[r]at p;rw[a];obtain⟨ra,s⟩:=nM (aq (gx ((l.drop 5).take 1)) (gx (((l.drop 5).drop 1).take 1)) (gx (((l.drop 5).drop 2).take 1)) (gx (((l.drop 5).drop 3).take 8)) (gx (((l.drop 5).drop 11).take 4)) (gx (((l.drop 5).drop 15).take 4)));rw[s]at p;have v:=ak s;have H:=al c b;go_enter func195,ntmps195;go_wp2_with fail;refine p.mono ?_;rintro e w2⟨rfl,B⟩;have u:=ak B;go_wp2;go_ret;exact⟨by rw[show ef (.root (gx ((l.drop 5).take 1)) (gx (((l.drop 5).drop 1).take 1)) (gx (((l.drop 5).drop 2).take 1)) (gx (((l.drop 5).drop 3).take 8)) (gx (((l.drop 5).drop 11).take 4)) (gx (((l.drop 5).drop 15).take 4)))=.iface 132 (.agg ra)from(by unfold ef;rw[<-v.o])];rfl,H.o.1.trans (u.o.mono (ia H.o.2))⟩
 . by_cases f:l.getD 4 0=2;.have a:tg l=.filled:=(by unfold tg;rw[TS d,TT f]);rw[f]at k;rw[a];have H:=al c b;unfold ef;go_enter func195,ntmps195;go_wp2;go_ret;exact⟨rfl,H.o.1⟩
   . by_cases m:l.getD 4 0=3
     . have a:tg l=.shard (l.drop 20):=(by unfold tg;rw[TS d,TS f,TT m]);rw[m]at k;rw[a];have H:=aE c b A y;have o:∀(j:ZP)(w:ZT),(Instr.arrayAt 215 (Z5 (J j) 44 44)).run ZL w=.ok (Z6 (J j)) w:=λj w=>by simp[Instr.arrayAt,UP adn]
       have t:(aL (l.drop 20)).toArray.size=44:=(by rw[UK,aY];exact H.o.2.2.2);go_enter func195,ntmps195;obtain⟨i,n⟩:=nM ((aL (l.drop 20)).toArray);rw[n]at t;have q:=ak n;go_wp2_with(refine ac6 rfl 215 (Z0 17) rfl w.heap.size 20 rfl (aL (l.drop 20)) _ H.o.2.2.1 adn rfl (by rw[aY,H.o.2.2.2];kernel_rfl) ?_;rw[q.o];clear n);have C:∀z:Array ZS,z.size=44->YI (λcs x=>cs.setIfInBounds x.snd x.fst) z i.zipIdx 0 44=i:=λz b=>zv z i 44 b t;rw[C _ rfl];go_ret;exact⟨by rw[show ef (.shard (l.drop 20))=.iface 217 (.agg i)from(by unfold ef;rw[<-q.o])];rfl,H.o.1⟩
     .have a:tg l=.blank:=(by unfold tg;rw[TS d,TS f,TS m]);rw[a];have H:=al c b;have Q:¬((l.getD 4 0:Nat):Int)=1:=V;have K:¬((l.getD 4 0:Nat):Int)=2:=V;have L:¬((l.getD 4 0:Nat):Int)=3:=V;generalize l.getD 4 0=x at*;unfold ef;go_enter func195,ntmps195;go_wp2;go_ret;exact⟨rfl,H.o.1⟩
def spl(l:a7)(off:Nat)(src:a7):a7:=l.take off++(src++l.drop (off+src.length))
def AV{off:Nat}(h:off+src.length<=l.length):(spl l off src).length=l.length:=by unfold spl;simp;omega
def Dd{off:Nat}{v:ZS}(ty:ZN)(m:cO w b l)(p:Bs w v src)(h:src≠[])(t:src.length<=n)(s:off+src.length<=l.length):(Builtin.copy_ #[36,36] ty #[Z5 (J ⟨b,off,U⟩) n cap,v]).run ZL w=.ok (I O (src.length:Nat)) (w.setRow b (aK (spl l off src))):=by
 obtain⟨ao,c,rfl,y,z,A,i⟩:=p;obtain⟨g,o,rfl,r⟩:=i h;have k:=run_copy_row (P:=ZL) w 36 36 ty 5 b off n cap ⟨g,o,U⟩ src.length c (aK l) 119 (aL src) Ur ee m (by rw[aY];exact(Wn t).symm) (λj u f=>by
  have a:j<src.length:=by obtain⟨q,_⟩:=Vd.1 f;rwa[aY]at q
  rw[Vp,r j a,<-f];unfold aL;rw[UJ,Ud a,Ub,Ud a];rfl) (by rw[aY,iR];exact s) (λu d=>by unfold aL at d;rw[T9]at d;obtain⟨x,_,rfl⟩:=d;rfl);rw[k];have e:(YJ off (aK l).toList++aL src++YM (off+(aL src).length) (aK l).toList).toArray=aK (spl l off src):=by rw[yR,aY];unfold aK spl;rw[bT,bT,UA];unfold aL;rw[WL,WM]
 simp only[UA]at e⊢;rw[e,aY];rfl
structure Mh(w0 w:ZT)(r b:Nat)(l:a7):Prop where
 res:cO w r zb
 blk:cO w b l
 below:bW w0 w
 rs:r=w0.heap.size
 bs:b=w0.heap.size+1
def Mh.new(w:ZT):Mh w ((w.alloc (Z4 (aK zb) 119)).alloc (Z4 (aK zb) 119)) w.heap.size (w.heap.size+1) zb:=by refine⟨(UE _ _ _ ej).trans (Ug _ _),?_,(bA w _).alloc ej _,rfl,rfl⟩;have:=Ug (w.alloc (Z4 (aK zb) 119)) (Z4 (aK zb) 119);simpa[cO]using this
def Mh.mono(h:Mh w0 w r b l)(a:bW w w'):Mh w0 w' r b l:=⟨h.res.keep (a.block _ h.res.lt),h.blk.keep (a.block _ h.blk.lt),h.below.trans (a.mono (by have:=h.res.lt;have:=h.rs;omega)),h.rs,h.bs⟩
def Mh.set{l':a7}(h:Mh w0 w r b l)(a:aa (λk=>k=b) w w')(c:cO w' b l'):Mh w0 w' r b l':=⟨h.res.keep (a.block _ h.res.lt (λe=>by have:=h.rs;have:=h.bs;omega)),c,h.below.trans (a.below λk d=>⟨by have:=h.blk.lt;have:=h.bs;omega,λe=>ia h.bs⟩),h.rs,h.bs⟩
def cJ.below(h:cJ w)(b:ZR B w w')(a:2<B):cJ w':=λj c=>(b.cell (p:=⟨2,j,U⟩) a).trans (h j c)
def cJ.lt(h:cJ w):2<w.heap.size:=Ue (h 0 ec)
theorem Pv{body:a7}(c:body.length<=60):spl (spl zb 4 body) 0 (be (oX ((spl zb 4 body).drop 4)) 4)=ft body:=by
 have a:(spl zb 4 body).drop 4=body++YE (60-body.length) 0:=by unfold spl;rw[Xj (by simp[zb]),show(YJ 4 zb).drop 4=[]by simp[zb]];simp only[Ut];congr 1;unfold zb;rw[XZ];congr 1;omega
 have b:∀(X s:a7),spl X 0 s=s++X.drop s.length:=λX s=>by unfold spl;rw[WN,Ut,Uj]
 rw[b,aG,a];rfl
def aax{off:Nat}(b:∀x∈l,x<256)(c:∀x∈src,x<256):∀x∈spl l off src,x<256:=by
 intro x a;unfold spl at a;simp only[Ui]at a;rcases a with h|h|h;.exact b x (US h)
 .exact c x h
 .exact b x (UW h)
def abY:∀x∈zb,x<256:=λx a=>ia (VG a)
theorem De(w:ZT):ZQ ZL 157 #[ef .blank] w λe w'=>e=Z3 (.agg (aK bF.blank.blk))/\bW w w':=by have j:=zeroBlk;have b:=Mh.new w;obtain⟨w1,h⟩:=nM ((w.alloc (Z4 (aK zb) 119)).alloc (Z4 (aK zb) 119));rw[h]at b;have c:=ak b;unfold ef;go_enter func157,ntmps157;go_wp2_with fail;refine(FK w1).mono ?_;rintro e w2⟨rfl,d⟩;have f:=c.o.mono d;have a:=ak f;go_wp2_with(first|(refine tH rfl (Z0 3) rfl (w.heap.size+1) zb rfl a.o.blk dW ?_)|(refine jb rfl (Z0 2) (Z0 19) rfl w.heap.size zb zb rfl rfl a.o.res dW dW ?_));have g:=a.o.res.setRow zb;refine Uv (v:=.agg (aK zb)) (Wl results157 _ _ w.heap.size 119 (aK zb) (0,0) _ rfl g Xw rfl (iS dW)) rfl ?_;exact⟨rfl,a.o.below.trans ⟨rfl,rfl,rfl,Ze,λk i=>(aZ _ _ _).block k (ia a.o.res.lt) (λe=>Zj)⟩⟩
def zw(r:bF):Prop:=∀w,cJ w->ZQ ZL 157 #[ef r] w λe w'=>e=Z3 (.agg (aK r.blk))/\bW w w'
theorem uR{r:bF}{f:FuncId}{ra:Array ZS}(Q:ef r=.iface ty (.agg ra))(u:(ty=132/\f=253)\/(ty=165/\f=257)\/(ty=217/\f=269))(R:∀w,ZQ ZL f #[.agg ra] w λe w'=>∃v,e=Z3 v/\Bs w' v r.body/\bW w w')(M:r.ok)(m:0<r.body.length):zw r:=λw X=>by
 have hz:=zeroBlk;have E:=Mh.new w;obtain⟨w1,k7⟩:=nM ((w.alloc (Z4 (aK zb) 119)).alloc (Z4 (aK zb) 119));rw[k7]at E;have o:=oY M;have K:=tF M;have T:r.blk=ft r.body:=by unfold bF.blk;rw[TS (λe=>by rw[e]at m;cases m)]
 have F:=R w1;rw[T,Q];obtain⟨body,P⟩:=nM (r.body);rw[P]at o K m F⊢;have s:=au E K X;rcases u with⟨rfl,rfl⟩|⟨rfl,rfl⟩|⟨rfl,rfl⟩<;>(
  go_enter func157,ntmps157;go_wp2_with fail;refine F.mono ?_;rintro e w2⟨v,rfl,H,Y⟩;have z:=s.o.1.mono Y;obtain⟨ao,c,rfl,ka,kb,kc,ke⟩:=id H;have k5:body≠[]:=by intro e;rw[e]at m;simp at m
  have C:=Dd (n:=60) (cap:=60) (off:=4) 3 z.blk H k5 V (by rw[dW];omega);have A:Mh w (w2.setRow (w.heap.size+1) (aK (spl zb 4 body))) w.heap.size (w.heap.size+1) (spl zb 4 body):=z.set (aa.setRow (S:=λk=>k=w.heap.size+1) _ _ _ rfl) (z.blk.setRow _);obtain⟨b,k8⟩:=nM (w2.setRow (w.heap.size+1) (aK (spl zb 4 body)));rw[k8]at C A;have hv3:cJ b:=s.o.2.2.below A.below s.o.2.2.lt;have g:=al A hv3;go_wp2_with fail;have p:(spl zb 4 body).length=64:=by rw[AV (by rw[dW];omega),dW]
  obtain⟨l,hl⟩:=nM (spl zb 4 body);have O':=aax abY s.o.2.1 (off:=4);have D:=Pv o;rw[hl]at p g O' D;obtain⟨j,L⟩:∃c,oX (l.drop 4)=c:=⟨_,rfl⟩;have kf:j<4294967296:=L▸AL _;have J':Bs b.drew (Z5 (J ⟨w.heap.size+1,4,U⟩) (l.drop 4).length 60) (l.drop 4):=Bs.mid (by rw[Un,p];decide) (by rw[Un,p];decide) (λx h=>O' x (UW h)) (by have:=gH 4 (nr g.o.1.blk);rw[Uj]at this;exact this);rw[show(l.drop 4).length=60 by rw[Un,p]]at J';have G:=Pd _ _ _ J' (g.o.2.below ((TW _ b).drew) g.o.2.lt);rw[L]at G D;have W:=gD b.heap.size (Z5 U 0 0) 0 [] j 4 b.drew (UQ _ _ _ _) lR ec ec;refine bw 5 [(0,ZV),(1,ZV),(2,ZU),(3,ZV),(4,ZU),(5,ZU)] (λ_=>True) ee ee trivial ?_;iterate 2(refine cZ rfl rfl ?_;apply YO;refine⟨λw' _=>?_,?_⟩;(first|(go_simp;done)|(go_simp;exact rfl));simp only[Act.put,TZ,T5,T6])
  refine db G rfl rfl oB ?_;rintro e y⟨rfl,rfl⟩;refine⟨_,rfl,λ_=>trivial,?_⟩;simp only[Act.put,TZ,T5,T6];refine cZ rfl rfl ⟨I Z8 (j:Nat),λw' _=>by go_simp;rw[U7];omega,?_⟩;simp only[Act.put,TZ,T5,T6];refine db W rfl rfl oB ?_;rintro e y⟨v4,rfl,k6,V',-⟩;refine⟨_,rfl,λ_=>trivial,?_⟩;simp only[Act.put,TZ,T5,T6];have Z:bW b y:=((TW _ b).drew).trans (V'.below λk u=>⟨u,λq=>by simp[Value.ownBlock]at q⟩);have B:=g.o.1.mono Z;have C:=Dd (n:=4) (cap:=64) (off:=0) 3 B.blk (Bs.Se k6 (sE _ _) adW) (by intro e;have:=aG j 4;rw[e]at this;cases this) adW (by rw[aG,p];decide);refine dV rfl rfl (by simp only[execOp,resolve,invoke,builtin,UH,VN,UV,acQ,U5,Wi];exact Uy (λr=>Result.andThen r λa w'=>Result.ok (Next.value a) w') C) xJ (bI ?_);have d:=B.set (aa.setRow (S:=λk=>k=w.heap.size+1) y _ (aK (spl l 0 (be j 4))) rfl) (B.blk.setRow _);rw[D]at d⊢;have t:(ft body).length=64:=by unfold ft;simp[aG];omega
  obtain⟨sb,N⟩:=nM (ft body);rw[N]at d t⊢;obtain⟨w5,k9⟩:=nM (y.setRow (w.heap.size+1) (aK sb));rw[k9]at d⊢;have U':=ak N;have i:=ak d;rename_i hK;refine hK _ _ ?_;simp only[Act.put,TZ,T5,T6];go_wp2_with(first|(refine tH rfl (Z0 3) rfl (w.heap.size+1) sb rfl i.o.blk t ?_)|(refine jb rfl (Z0 2) (Z0 19) rfl w.heap.size sb zb rfl rfl i.o.res dW t ?_));have d:=i.o.res.setRow sb;refine Uv (v:=.agg (aK sb)) (Wl results157 _ _ w.heap.size 119 (aK sb) (0,0) _ rfl d Xw rfl (iS t)) rfl ?_;exact⟨by rw[U'.out],i.o.below.trans ⟨rfl,rfl,rfl,Ze,λk u=>(aZ _ _ _).block k (ia i.o.res.lt) (λe=>Zj)⟩⟩)
def Df:zw .blank:=λw _=>De w
def FM(a:(bF.root D L G t f n).ok):zw (.root D L G t f n):=uR rfl (.inl ⟨rfl,rfl⟩) (λw=>Jo D L G t f n w a) a Zp
def Tryz.S6:ZL.cellsOf 5=1:=ee
def zx(l:a7)(i:Nat)(a:i<l.length)(w:ZT):(part 5 (aK l) (i*1)).run ZL w=.ok (I .u8 ((l.getD i 0:Nat):Int)) w:=by
 have b:(aK l)[i]?=J (I .u8 ((l.getD i 0:Nat):Int)):=by unfold aK aL;rw[XE,UJ,Ud a,Ub,Ud a];rfl
 rw[Wd];have c:=Xq;simp[part,isAgg,UP c,b]
theorem Dg(d:Nat)(l1 a:a7)(w:ZT):∀(b:a7),(∀i∈b,i<l1.length/\i<a.length)->(Op.eqItems (d+1) 5 1 (aK l1) (aK a) b).run ZL w=.ok (b.all λi=>l1.getD i 0==a.getD i 0) w
 |[],_=>by simp[Op.eqItems]|i::b,h=>by
  obtain⟨k,l⟩:=h i ej;have ih:=Dg d l1 a w b (λj n=>h j (by simp[n]));have m:=run_equalIn_int (P:=ZL) (w:=w) d 5 .u8 .u8 ((l1.getD i 0:Nat):Int) ((a.getD i 0:Nat):Int) Xq;simp only[Op.eqItems,UH,zx l1 i k w,zx a i l w,UV,m,List.all_cons];generalize l1.getD i 0=x;generalize a.getD i 0=y;by_cases e:x=y;.subst e;rw[TS ej,ih];simp
  .have c:¬((x:Nat):Int)=((y:Nat):Int):=λq=>e V;have f:((x:Int)==(y:Int))=ZU:=(ua c);have g:(x==y)=ZU:=(ua e);rw[f,g];simp
theorem Mi{l1 l2:a7}(c:l1.length=64)(d:l2.length=64):((YF 64).all λi=>l1.getD i 0==l2.getD i 0)=decide (l1=l2):=by
 rw[Yw,XU,VM];constructor;.intro h;refine Ve V λi a b=>?_;have:=h i (Ul.2 V);simpa[a,b]using this
 .rintro rfl i _;simp
def aay(l1 a:a7)(c:l1.length=64)(d:a.length=64)(w:ZT):(Op.equalIn 10000 119 (.agg (aK l1)) (.agg (aK a))).run ZL w=.ok (decide (l1=a)) w:=by obtain⟨g,b,_⟩:=Uw Tryz.R5;rw[show(10000:Nat)=9998+1+1 from rfl,run_equalIn_array w (9998+1) (t:=119) (e:=5) (n:=64) (aK l1) (aK a) Xw b,Tryz.S6,Dg 9998 l1 a w _ (λi f=>ia (Ul.1 f)),Mi c d]
theorem aM.SW(h:aM w b l):w.heap[b]?=J (Z4 (aL l).toArray 5 (0,0)):=by
 obtain⟨c,d,g,f⟩:=h;have e:c=(aL l).toArray:=by
  apply YN;intro i;by_cases a:i<l.length;.rw[f i a];unfold vb aL;simp[Ub,Ud a]
  .rw[YH V,YH (by rw[UK,aY];omega)]
 rw[<-e];exact d
def aM.TI(h:w.heap[b]?=J (Z4 (aL l).toArray 5 (0,0))):aM w b l:=⟨_,h,by rw[UK,aY],λi a=>by unfold vb aL;simp[Ub,Ud a]⟩
def Dh{off:Nat}{v:ZS}(ty:ZN)(d:aM w b l)(s:Bs w v src)(z:src.length<=n)(y:off+src.length<=l.length):∃w',(Builtin.copy_ #[36,36] ty #[Z5 (J ⟨b,off,U⟩) n cap,v]).run ZL w=.ok (I O (src.length:Nat)) w'/\aM w' b (spl l off src)/\w.grownBy w' (J b):=by
 obtain⟨ao,c,rfl,A,B,C,p⟩:=s;have k:(ZL.info? 5).map (λi=>i.size)=J 1:=ee;by_cases h:src=[];.subst h;refine⟨w,run_copy_none (P:=ZL) w 36 36 ty 5 (J ⟨b,off,U⟩) ao n cap 0 c Ur k ej,?_,Wx _ _⟩;have e:spl l off []=l:=(by unfold spl;simp);rw[e];exact d
 . obtain⟨g,o,rfl,t⟩:=p h;have r:=run_copy_row (P:=ZL) w 36 36 ty 5 b off n cap ⟨g,o,U⟩ src.length c (aL l).toArray 5 (aL src) Ur k d.SW (by rw[aY];exact(Wn z).symm) (λj u m=>by have a:j<src.length:=(by obtain⟨q,_⟩:=Vd.1 m;rwa[aY]at q);rw[Vp,t j a,<-m];unfold aL;rw[UJ,Ud a,Ub,Ud a];rfl) (by rw[aY,UK,aY];exact y) (λu f=>by unfold aL at f;rw[T9]at f;obtain⟨x,_,rfl⟩:=f;rfl);have e:(YJ off (aL l)++aL src++YM (off+(aL src).length) (aL l)).toArray=(aL (spl l off src)).toArray:=by rw[aY];unfold spl;rw[bT,bT,UA];unfold aL;rw[WL,WM]
   refine⟨w.setRow b (aL (spl l off src)).toArray,?_,aM.TI (Vw w b (aL l).toArray (aL (spl l off src)).toArray _ _ d.SW),aZ _ _ _⟩;rw[r];simp only[UA]at e⊢;rw[e,aY];rfl
def Js(w:ZT)(a:Nat):(w.alloc (Z4 #[I .u8 (a:Int)] 5)).ownsRow w.heap.size 5 1 (Z5 (J ⟨w.heap.size,0,U⟩) 1 1) 1 (aL [a]):=⟨rfl,.inr ⟨w.heap.size,1,_,rfl,TV _,Ug _ _,TV _,eD,rfl,rfl⟩⟩
theorem Di(w:ZT):ZQ ZL 257 #[.agg #[]] w λe w'=>∃v,e=Z3 v/\Bs w' v bF.filled.body/\bW w w':=by have ho:=Js (w.alloc (Z4 #[] 165)) 2;have a:bW w ((w.alloc (Z4 #[] 165)).alloc (Z4 #[I .u8 ((2:Nat):Int)] 5)):=(bA w _).alloc ej _;have H:=al ho a;clear ho a;go_enter func257,ntmps257;go_wp2;go_ret;have b:=Bs.Se H.o.1 (λx c=>by simp at c;omega) ec;simp only[Um]at b;exact⟨_,rfl,b,H.o.2⟩
theorem FN(l:a7)(w:ZT)(o:(bF.shard l).ok):ZQ ZL 269 #[.agg (aL l).toArray] w λe w'=>∃v,e=Z3 v/\Bs w' v (bF.shard l).body/\bW w w':=by
 obtain⟨hl,G⟩:=o;have z:=Ug w (Z4 (aL l).toArray 217);have i:bW w (w.alloc (Z4 (aL l).toArray 217)):=bA w _;have A:(w.alloc (Z4 (aL l).toArray 217)).heap.size=w.heap.size+1:=ej;have Q:(aL l).toArray.size=44:=by rw[UK,aY,hl]
 obtain⟨w1,E⟩:=nM (w.alloc (Z4 (aL l).toArray 217));rw[E]at z i A;obtain⟨ra,s⟩:=nM ((aL l).toArray);have H:=a5 z i A G s;rw[s]at E Q⊢;clear z i A G s;go_enter func269,ntmps269;go_wp2_with(at_make;refine dq _ rfl (.const (I O 60)) (.const (I O 60)) rfl _ 60 rfl rfl rfl V ?_;intro w2 x C P;have c0:=x.cell 0 ec;have N:=x.frozen 0);have f:aM (w2.setCell ⟨w1.heap.size,0,U⟩ (I .u8 3)) w1.heap.size ((YE 60 0).set 0 3):=x.set 0 3;have K:=H.o.2.2.1;have q:(w2.setCell ⟨w1.heap.size,0,U⟩ (I .u8 3)).heap[w.heap.size]?=J (Z4 (aL l).toArray 217 (0,0)):=(Uc _ _ _ _ (by show w.heap.size≠w1.heap.size;omega)).trans ((C.block _ V).trans H.o.1);have c:bW w (w2.setCell ⟨w1.heap.size,0,U⟩ (I .u8 3)):=(H.o.2.1.trans (C.mono V)).setCell (p:=⟨w1.heap.size,0,U⟩) (by show w.heap.size<=w1.heap.size;omega) _;obtain⟨d,F⟩:=nM (w2.setCell ⟨w1.heap.size,0,U⟩ (I .u8 3));rw[F]at f q c⊢;have h:Bs d.drew (Z5 (J ⟨w.heap.size,0,U⟩) l.length 44) l:=Bs.mid V V H.o.2.2.2.1 (λj u L=>by have:(aL l).toArray[j]?=J u:=ua L;show d.cell? _=_;simp[World.cell?,q,this]);rw[hl]at h;obtain⟨M,m,g,b⟩:=Dh (w:=d.drew) (n:=44) (cap:=44) (off:=16) 3 f h V ek;rw[K]at m;refine bw 99 [(0,ZV),(1,ZV),(2,ZV),(3,ZV),(4,ZU)] (λ_=>True) ee ee trivial ?_;iterate 4(refine cZ rfl rfl ?_;apply YO;refine⟨λw' _=>?_,?_⟩;(first|(go_simp;done)|(go_simp;exact rfl));simp only[Act.put,TZ,T5,T6])
 refine dV rfl rfl (by simp[execOp,Act.eval,resolve,invoke,builtin];exact Uy (λr=>Result.andThen r λa w'=>Result.ok (Next.value a) w') m) (λ_=>trivial) (bI ?_);have D:bW w M:=c.trans ⟨b.os,b.tape,b.output,b.size,λk O'=>b.block k (by have:=c.size;show k<d.heap.size;omega) (λe=>Zj)⟩;have y:spl ((YE 60 0).set 0 3) 16 l=(bF.shard l).body:=by unfold spl bF.body;rw[hl];simp[YE]
 rw[y]at g;have t:=Bs.Sq (n:=60) g (by rw[<-y,AV (by simp[hl])];simp) ec (tF (r:=.shard l) ⟨hl,H.o.2.2.2.1⟩);rw[UM (oY (r:=.shard l) ⟨hl,H.o.2.2.2.1⟩),show(bF.shard l).body.length=60 by rw[<-y,AV (by simp[hl])];simp]at t;have B:=al t D;clear t D g c q f m b h F;rename_i hK;refine hK _ _ ?_;clear hK;simp only[Act.put,TZ,T5,T6];go_wp2;go_ret;exact⟨_,rfl,B.o.1,B.o.2⟩
def AW:zw .filled:=uR rfl (.inr (.inl ⟨rfl,rfl⟩)) (λw=>Di w) trivial Zp
def Dj(a:(bF.shard l).ok):zw (.shard l):=uR rfl (.inr (.inr ⟨rfl,rfl⟩)) (λw=>FN l w a) a Zp
def Dk(a:∀x∈l,x<256)(i:Nat):l.getD i 0<256:=by rw[Ub];cases h:l[i]? with|none=>decide|some x=>exact a x (List.mem_of_getElem? h)
theorem aaz(hl:l.length=64)(b:∀x∈l,x<256):(tg l).ok:=by
 have c:∀n,gx ((l.drop n).take 4)<4294967296:=λn=>by have a:=zu ((l.drop n).take 4) K0 (λx h=>b x (UW (US h)));have d:((l.drop n).take 4).length<=4:=K0;exact TY a (TU (UY ec d) ec)
 have a:∀n,gx [l.getD n 0]<256:=λn=>by rw[tG _ (Dk b n)];exact Dk b n
 unfold tg;split;.exact⟨a _,a _,a _,RB _,c _,c _⟩
 . split;.trivial
   . split;.exact⟨by rw[Un,hl],λx h=>b x (UW h)⟩
     .trivial
def zy{r:bF}(h:r.ok):zw r:=by cases r with|blank=>exact Df|root D L G t f n=>exact FM h|filled=>exact AW|shard l=>exact Dj h
def ofV:Option bF->ZS|some r=>ZZ #[ef r,Z1 ZV]|none=>ZZ #[.nilIface,Z1 ZU]
theorem aaA(l:a7)(w:ZT)(hl:l.length=64)(z:∀x∈l,x<256)(y:cJ w):ZQ ZL 171 #[.agg (aK l)] w λe w'=>e=Z3 (ofV (K8 l))/\bW w w':=by
 have g:=aaz hl z;have u:=zy g;have t:=cO.new w l;have k:bW w (w.alloc (Z4 (aK l) 119)):=bA w _;obtain⟨w1,G⟩:=nM (w.alloc (Z4 (aK l) 119));rw[G]at t k;have f:=Jr l w1 hl z;obtain⟨r,n⟩:=nM (tg l);have F:K8 l=if r.blk=l then J r else U:=by unfold K8;rw[n]
 rw[n]at f u g;obtain⟨rv,p⟩:=nM (ef r);rw[p]at f;have c:=al p F;have b:=al t k;go_enter func171,ntmps171;go_wp2_with(refine tH rfl (Z0 1) rfl w.heap.size l rfl b.o.1 hl ?_);refine f.mono ?_;rintro e w2⟨rfl,i⟩;have C:=b.o.1.keep (i.block _ b.o.1.lt);have B:=b.o.2.trans (i.mono b.o.2.size);have a:=al C B;go_wp2_with fail;have s:=y.below a.o.2 y.lt;have m:=u w2.drew (s.below ((TW _ w2).drew) s.lt);rw[c.o.1]at m;refine bw 3 [(0,ZV),(2,ZV),(1,ZU),(3,ZU)] (λw'=>cO w' w.heap.size l) ee ee a.o.1 ?_;refine cZ rfl rfl ⟨rv,λw' _=>oB,?_⟩;simp only[Act.put,TZ,T5,T6];refine cZ rfl rfl ⟨.agg (aK l),λw' E=>by simp[execOp,Act.eval,oy E hl],?_⟩;simp only[Act.put,TZ,T5,T6];refine db m rfl rfl oB ?_;rintro e A⟨rfl,j⟩;refine⟨_,rfl,λ_=>a.o.1.keep (j.block _ a.o.1.lt),?_⟩;simp only[Act.put,TZ,T5,T6];refine dV (v:=Z1 (!decide (r.blk=l))) (w1:=A) rfl rfl (by go_simp;rw[aay r.blk l (Hg g) hl A];rfl) xJ (bI ?_);have h:=ak (a.o.2.trans ((((TW _ w2).drew).trans j).mono a.o.2.size));rename_i hK;by_cases q:r.blk=l;.rw[q,U4 (rfl:l=l)];have d:=ak q;refine hK _ _ ?_;simp only[Act.put,TZ,T5,T6];go_wp2;go_ret2;refine⟨?_,h.o⟩;rw[c.o.2,TT d.o,<-c.o.1];rfl
 .rw[Vk q];obtain⟨bl,D⟩:=nM (aK r.blk);rw[D];have d:=ak q;refine hK _ _ ?_;simp only[Act.put,TZ,T5,T6];go_wp2;go_ret2;refine⟨?_,h.o⟩;rw[c.o.2,TS d.o];rfl
section
open Go.Extern.Stop Go.Stop Go.Extern
def Tryz.TB(t:ZP)(w:ZT):(ReflectliteValue.unpack (.iface 106 (Z6 (J t)))).run ZL w=.ok (.agg #[Z6 (J ⟨3,106,U⟩),Z6 (J ⟨w.heap.size,0,U⟩),I Z8 150]) (w.alloc (Z4 #[Z6 (J t)] 106)):=ee
def Tryz.typeP(a:ZP)(w:ZT):(ReflectliteValue.methodAny (ReflectliteValue.valueError "reflectlite.Value.Type" 0) (λt _ _ _=>ReflectliteType.toType t) #[.agg #[Z6 (J ⟨3,106,U⟩),Z6 (J a),I Z8 150]]).run ZL w=.ok (.iface 167 (.agg #[Z6 (J ⟨3,106,U⟩)])) w:=ee
def Tryz.Tb(h:ZS)(w:ZT):(YG 479 167 (.agg #[h]) "Kind").run ZL w=.ok (249,h) w:=ee
def Tryz.kindP(w:ZT):((ReflectliteType.abiMethod λt=>(λa:Nat=>Value.int IntKind.u8 (a:Int))<$>Rtype.kind t) #[Z6 (J ⟨3,106,U⟩)]).run ZL w=.ok (I .u8 22) w:=ee
def Tryz.kindE(w:ZT):((ReflectliteType.abiMethod λt=>(λa:Nat=>Value.int IntKind.u8 (a:Int))<$>Rtype.kind t) #[Z6 (J ⟨3,58,U⟩)]).run ZL w=.ok (I .u8 2) w:=ee
def Tryz.TP(a:ZP)(w:ZT):(ReflectliteValue.parts (.agg #[Z6 (J ⟨3,106,U⟩),Z6 (J a),I Z8 150])).run ZL w=.ok (J (106,a,150)) w:=ee
def Tryz.isNilP(a p:ZP)(W:ZT)(b:W.cell? a=J (Z6 (J p))):(ReflectliteValue.method (ReflectliteValue.valueError "reflectlite.Value.IsNil" 0) ReflectliteValue.isNil #[.agg #[Z6 (J ⟨3,106,U⟩),Z6 (J a),I Z8 150]]).run ZL W=.ok (Z1 ZU) W:=by refine YK (Uy (λz=>Sem.run ZL z W) (show ReflectliteValue.method _ _ #[.agg #[Z6 (J ⟨3,106,U⟩),Z6 (J a),I Z8 150]]=(ReflectliteValue.parts (.agg #[Z6 (J ⟨3,106,U⟩),Z6 (J a),I Z8 150])>>=_)from rfl)) ?_;simp only[UH,Tryz.TP,Result.andThen];simp[ReflectliteValue.isNil,loadVar,isAgg,underlying,underlying106,b,Result.andThen]
def Tryz.Td(h:ZS)(w:ZT):(YG 479 167 (.agg #[h]) "Elem").run ZL w=.ok (261,.agg #[h]) w:=ee
def Tryz.Sk(h:ZS)(w:ZT):(YG 479 167 (.agg #[h]) "Implements").run ZL w=.ok (262,.agg #[h]) w:=ee
def Tryz.Sc(h:ZS)(w:ZT):(YG 479 167 (.agg #[h]) "AssignableTo").run ZL w=.ok (259,.agg #[h]) w:=ee
def Tryz.elemP(w:ZT):(ReflectliteType.method ReflectliteType.elem #[.agg #[Z6 (J ⟨3,106,U⟩)]]).run ZL w=.ok (.iface 167 (.agg #[Z6 (J ⟨3,58,U⟩)])) w:=ee
def Tryz.SY(w:ZT):(ReflectliteType.relation "Implements" ReflectliteType.implements_ #[.agg #[Z6 (J ⟨3,58,U⟩)],.iface 167 (.agg #[Z6 (J ⟨3,51,U⟩)])]).run ZL w=.ok (Z1 ZV) w:=ee
def Tryz.SG(v:ZS)(w:ZT):(ReflectliteType.typeOf #[.iface 58 v]).run ZL w=.ok (.iface 167 (.agg #[Z6 (J ⟨3,58,U⟩)])) w:=ee
def Tryz.SS(w:ZT):(ReflectliteType.relation "AssignableTo" ReflectliteType.assignableTo #[.agg #[Z6 (J ⟨3,58,U⟩)],.iface 167 (.agg #[Z6 (J ⟨3,58,U⟩)])]).run ZL w=.ok (Z1 ZV) w:=ee
def Tryz.TO(x:Int)(w:ZT):(ReflectliteValue.unpack (.iface 58 (I O x))).run ZL w=.ok (.agg #[Z6 (J ⟨3,58,U⟩),Z6 (J ⟨w.heap.size,0,U⟩),I Z8 130]) (w.alloc (Z4 #[I O x] 58)):=ee
def Tryz.elemOfP(w:ZT):(Rtype.elem? 106).run ZL w=.ok (J 58) w:=ee
def Tryz.mkE(p:ZP)(w:ZT):(ReflectliteValue.mk 58 p ReflectliteValue.flagAddr).run ZL w=.ok (.agg #[Z6 (J ⟨3,58,U⟩),Z6 (J p),I Z8 386]) w:=ee
def Tryz.elemVP(a p:ZP)(W:ZT)(b:W.cell? a=J (Z6 (J p))):(ReflectliteValue.method (ReflectliteValue.valueError "reflectlite.Value.Elem" 0) ReflectliteValue.elem #[.agg #[Z6 (J ⟨3,106,U⟩),Z6 (J a),I Z8 150]]).run ZL W=.ok (.agg #[Z6 (J ⟨3,58,U⟩),Z6 (J p),I Z8 386]) W:=by refine YK (Uy (λz=>Sem.run ZL z W) (show ReflectliteValue.method _ _ #[.agg #[Z6 (J ⟨3,106,U⟩),Z6 (J a),I Z8 150]]=(ReflectliteValue.parts (.agg #[Z6 (J ⟨3,106,U⟩),Z6 (J a),I Z8 150])>>=_)from rfl)) ?_;simp only[UH,Tryz.TP,Result.andThen];simp[ReflectliteValue.elem,loadVar,isAgg,underlying,underlying106,b,Result.andThen,Tryz.elemOfP,Tryz.mkE]
def Tryz.partsEa(a:ZP)(w:ZT):(ReflectliteValue.parts (.agg #[Z6 (J ⟨3,58,U⟩),Z6 (J a),I Z8 386])).run ZL w=.ok (J (58,a,386)) w:=ee
def Tryz.partsE(a:ZP)(w:ZT):(ReflectliteValue.parts (.agg #[Z6 (J ⟨3,58,U⟩),Z6 (J a),I Z8 130])).run ZL w=.ok (J (58,a,130)) w:=ee
def Tryz.directE(w:ZT):(Rtype.directlyAssignable 58 58).run ZL w=.ok ZV w:=ee
def Tryz.setE(a b:ZP)(x:Int)(old:ZS)(W:ZT)(c:W.cell? b=J (I O x))(e:W.cell? a=J old)(d:W.frozen? a=ZU):(ReflectliteValue.set #[.agg #[Z6 (J ⟨3,58,U⟩),Z6 (J a),I Z8 386],.agg #[Z6 (J ⟨3,58,U⟩),Z6 (J b),I Z8 130]]).run ZL W=.ok (ZZ #[]) (W.setCell a (I O x)):=by refine YK (Uy (λz=>Sem.run ZL z W) (show ReflectliteValue.set #[.agg #[Z6 (J ⟨3,58,U⟩),Z6 (J a),I Z8 386],.agg #[Z6 (J ⟨3,58,U⟩),Z6 (J b),I Z8 130]]=(ReflectliteValue.parts (.agg #[Z6 (J ⟨3,58,U⟩),Z6 (J a),I Z8 386])>>=λp=>ReflectliteValue.parts (.agg #[Z6 (J ⟨3,58,U⟩),Z6 (J b),I Z8 130])>>=(_:_->Sem ZS))from rfl)) ?_;simp only[UH,Tryz.partsEa,Tryz.partsE,Result.andThen];simp[ReflectliteValue.flagAddr,loadVar,isAgg,underlying,underlying58,c,Result.andThen,Tryz.directE,storeVar,Value.cells,storeCells,Addr.add];rw[run_store ZL W a _ _ um];simp[e,d]
theorem aaB(x:Int)(t:ZP)(old:ZS)(w:ZT)(c:w.cell? ⟨0,0,U⟩=J (.iface 167 (.agg #[Z6 (J ⟨3,51,U⟩)])))(a:w.cell? t=J old)(f:w.frozen? t=ZU):ZQ ZL 45 #[.iface 58 (I O x),.iface 106 (Z6 (J t))] w λd w'=>d=Z3 (Z1 ZV)/\w'=((((w.alloc (Z4 #[Z6 (J t)] 106)).alloc (Z4 #[Z6 (J ⟨3,106,U⟩),Z6 (J ⟨w.heap.size,0,U⟩),I Z8 150] 140)).alloc (Z4 #[Z6 (J ⟨3,106,U⟩),Z6 (J ⟨w.heap.size,0,U⟩),I Z8 150] 140)).alloc (Z4 #[I O x] 58)).setCell t (I O x):=by
 have o:=@run_callFunc_extern ZL 63 _ (λargs=>ReflectliteValue.unpack (args.getD 0 (ZZ #[]))) func63 ee ee ee ee;have p:=@run_callFunc_extern ZL 64 _ (ReflectliteValue.methodAny (ReflectliteValue.valueError "reflectlite.Value.Type" 0) (λt _ _ _=>ReflectliteType.toType t)) func64 ee ee ee ee;have q:=@run_callFunc_extern ZL 65 _ (ReflectliteValue.method (ReflectliteValue.valueError "reflectlite.Value.IsNil" 0) ReflectliteValue.isNil) func65 ee ee ee ee;have u:=@run_callFunc_extern ZL 249 _ (ReflectliteType.abiMethod λt=>do pure (I .u8 (<-Rtype.kind t))) func249 ee ee ee ee;have y:=@run_callFunc_extern ZL 261 _ (ReflectliteType.method ReflectliteType.elem) func261 ee ee ee ee;have z:=@run_callFunc_extern ZL 262 _ (ReflectliteType.relation "Implements" ReflectliteType.implements_) func262 ee ee ee ee;have n:=@run_callFunc_extern ZL 87 _ ReflectliteType.typeOf func87 ee ee ee ee;have v:=@run_callFunc_extern ZL 259 _ (ReflectliteType.relation "AssignableTo" ReflectliteType.assignableTo) func259 ee ee ee ee;have r:=@run_callFunc_extern ZL 88 _ (ReflectliteValue.method (ReflectliteValue.valueError "reflectlite.Value.Elem" 0) ReflectliteValue.elem) func88 ee ee ee ee;have s:=@run_callFunc_extern ZL 89 _ ReflectliteValue.set func89 ee ee ee ee;have Y:=Tryz.SG;have E:=Tryz.Sc;have i:=Tryz.SS;have K:=Tryz.TO;have l:=Tryz.TB;have m:=Tryz.typeP;have H:=Tryz.Tb;have F:=Tryz.Td;have G:=Tryz.Sk;have D:=Tryz.kindP;have C:=Tryz.kindE;have j:=Tryz.elemP;have B:=Tryz.SY;have Q:=Tryz.isNilP ⟨w.heap.size,0,U⟩ t ((w.alloc (Z4 #[Z6 (J t)] 106)).alloc (Z4 #[Z6 (J ⟨3,106,U⟩),Z6 (J ⟨w.heap.size,0,U⟩),I Z8 150] 140)) ej;have g:0<w.heap.size:=by
  rcases WG w.heap.size with e|h;.simp[World.cell?,e]at c
  .exact h
 have A:((w.alloc (Z4 #[Z6 (J t)] 106)).alloc (Z4 #[Z6 (J ⟨3,106,U⟩),Z6 (J ⟨w.heap.size,0,U⟩),I Z8 150] 140)).cell? ⟨0,0,U⟩=J (.iface 167 (.agg #[Z6 (J ⟨3,51,U⟩)])):=by rw[W0 _ _ ⟨0,0,U⟩ ej,W0 _ _ ⟨0,0,U⟩ g];exact c
 have b:t.block<w.heap.size:=by
  rcases Ys t.block w.heap.size with h|h;.exact h
  .simp[World.cell?,YH h]at a
 have k:=Tryz.elemVP ⟨w.heap.size,0,U⟩ t (((w.alloc (Z4 #[Z6 (J t)] 106)).alloc (Z4 #[Z6 (J ⟨3,106,U⟩),Z6 (J ⟨w.heap.size,0,U⟩),I Z8 150] 140)).alloc (Z4 #[Z6 (J ⟨3,106,U⟩),Z6 (J ⟨w.heap.size,0,U⟩),I Z8 150] 140)) (by rw[W0 _ _ ⟨w.heap.size,0,U⟩ ek];simp);have st:=Tryz.setE t ⟨w.heap.size+1+1+1,0,U⟩ x old ((((w.alloc (Z4 #[Z6 (J t)] 106)).alloc (Z4 #[Z6 (J ⟨3,106,U⟩),Z6 (J ⟨w.heap.size,0,U⟩),I Z8 150] 140)).alloc (Z4 #[Z6 (J ⟨3,106,U⟩),Z6 (J ⟨w.heap.size,0,U⟩),I Z8 150] 140)).alloc (Z4 #[I O x] 58)) (by rw[World.cell?_alloc_at _ _ _ _ ej];rfl) (by rw[W0 _ _ t ek,W0 _ _ t ek,W0 _ _ t ek,W0 _ _ t b];exact a) (by rw[acR _ _ t ek,acR _ _ t ek,acR _ _ t ek,acR _ _ t (Nat.ne_of_lt b)];exact f);go_enter func45,ntmps45;go_wp2;refine VD 1 ?_;rw[Vx];go_wp2;go_ret;exact⟨rfl,rfl⟩
theorem kD(w:ZT):ZQ ZL 17 #[.nilIface] w λe w'=>e=Z3 (I O 0)/\bW w w':=by go_enter func17,ntmps17;go_wp2;go_ret;exact⟨rfl,bA _ _⟩
theorem oF(x:Int)(w:ZT)(a:w.cell? ⟨0,0,U⟩=J (.iface 167 (.agg #[Z6 (J ⟨3,51,U⟩)]))):ZQ ZL 17 #[.iface 58 (I O x)] w λe w'=>e=Z3 (I O x)/\bW w w':=by
 have d:0<w.heap.size:=by
  rcases WG w.heap.size with b|h;.simp[World.cell?,b]at a
  .exact h
 have c:(w.alloc (Z4 #[I O 0] 58)).cell? ⟨0,0,U⟩=J (.iface 167 (.agg #[Z6 (J ⟨3,51,U⟩)])):=by rw[W0 _ _ ⟨0,0,U⟩ d];exact a
 go_enter func17,ntmps17;go_wp2_with(go_at_call 45;refine(aaB x ⟨w.heap.size,0,U⟩ (I O 0) _ c ej ej).mono ?_;rintro e w'⟨rfl,rfl⟩);go_ret;refine⟨rfl,?_⟩;repeat(first|exact TW _ _|refine Xr ?_ ej _|refine Below.alloc ?_ (by(try simp only[Uh]);omega) _)
theorem ly(x:Int)(w:ZT):ZQ ZL 25 #[I O x] w λe w'=>e=Z3 (I O x)/\w'=w:=by go_enter func25,ntmps25;go_wp2;go_ret;exact⟨rfl,rfl⟩
end
def Tryz.Tn:(ZL.info? 58).map (λi=>i.comparable)=J ZV:=ee
def zA(n m:Int)(w:ZT):(binOp .eql 51 (.iface 58 (I O n)) (.iface 58 (I O m))).run ZL w=.ok (Z1 (n==m)) w:=by
 obtain⟨i,f,c⟩:=Wu.1 Tryz.Tn;have a:∀d,(Op.equalIn (d+1) 58 (I O n) (I O m)).run ZL w=.ok (n==m) w:=λd=>run_equalIn_int (w:=w) d 58 .i64 .i64 n m underlying58;have b:∀d,(Op.equalIn (d+1+1) 51 (.iface 58 (I O n)) (.iface 58 (I O m))).run ZL w=.ok (n==m) w:=λd=>by rw[Op.equalIn];simp[UH,UP acS,UV,typeInfo,f,c,a d]
 have e:=b 9998;simp only[binOp];simp[Op.equal,Op.maxDepth,e]
theorem Jt(n:Int)(w:ZT):ZQ ZL 116 #[.iface 58 (I O n),.iface 58 (I O 13),Z1 ZV] w λe w'=>e=Z3 (Z1 (n==13))/\w'=w:=by have a:=zA n 13;have b:∀w:ZT,(Instr.typeAssert (.iface 58 (I O n)) 51 248 ZV).run ZL w=.ok (ZZ #[.nilIface,Z1 ZU]) w:=λw=>Xs ado ee ee _ _ w;have c:∀w:ZT,(Instr.typeAssert (.iface 58 (I O n)) 51 175 ZV).run ZL w=.ok (ZZ #[.nilIface,Z1 ZU]) w:=λw=>Xs adp ee ee _ _ w;have d:∀w:ZT,(Instr.typeAssert (.iface 58 (I O n)) 51 176 ZV).run ZL w=.ok (ZZ #[.nilIface,Z1 ZU]) w:=λw=>Xs underlying176 ee ee _ _ w;cases h0:(n==13)<;>(rw[h0]at a;go_enter func116,ntmps116;go_wp2;refine VD 1 ?_;rw[Vx];go_wp2;go_ret;exact⟨rfl,rfl⟩)
theorem Dm(n:Int)(w:ZT):ZQ ZL 81 #[.iface 58 (I O n),.iface 58 (I O 13)] w λe w'=>e=Z3 (Z1 (n==13))/\w'=w:=by have d:=Tryz.SG (I O 13);have b:=@run_callFunc_extern ZL 87 _ Extern.ReflectliteType.typeOf func87 ee ee ee ee;have f:∀(h:ZS)(w:ZT),(YG 479 167 (.agg #[h]) "Comparable").run ZL w=.ok (260,.agg #[h]) w:=λh w=>ee;have c:∀w:ZT,(callFunc 260 #[.agg #[Z6 (J ⟨3,58,U⟩)]]).run ZL w=.ok (.value (Z1 ZV)) w:=λw=>ee;have a:=Jt n w;generalize(n==13)=nm at a⊢;go_enter func81,ntmps81;go_wp2_with fail;refine a.mono ?_;rintro e w'⟨rfl,rfl⟩;go_wp2;go_ret;exact⟨rfl,rfl⟩
theorem AX(n:Int)(w:ZT):ZQ ZL 81 #[.nilIface,.iface 58 (I O n)] w λe w'=>e=Z3 (Z1 ZU)/\w'=w:=by
 have a:∀d w,(Op.equalIn (d+1) 51 .nilIface (.iface 58 (I O n))).run ZL w=.ok ZU w:=λd w=>by simp only[Op.equalIn,UH,UP acS,UV];rfl
 have b:∀w,(Op.equalIn 10000 51 .nilIface (.iface 58 (I O n))).run ZL w=.ok ZU w:=λw=>a 9999 w;have c:∀w,(binOp .eql 51 .nilIface (.iface 58 (I O n))).run ZL w=.ok (Z1 ZU) w:=λw=>by simp only[binOp];simp[Op.equal,Op.maxDepth,b]
 go_enter func81,ntmps81;go_wp2;go_ret;exact⟨rfl,rfl⟩
theorem Mj(w:ZT):ZQ ZL 158 #[.nilIface] w λe w'=>e=Z3 (ZZ #[])/\w'=w:=by
 go_enter func158,ntmps158;go_wp2_with fail;refine(AX 13 w).mono ?_;rintro e w'⟨rfl,rfl⟩;go_wp2;first|go_end0|skip
 exact⟨rfl,rfl⟩
def jQ(q:Nat):ZS:=.iface 282 (Z6 (J ⟨q,0,U⟩))
def eF(w:ZT)(q d b:Nat)(n:Int):Prop:=w.heap[q]?=J (Z4 #[I O d,I O b,I O n] 284 (0,0))
def eF.lt{n:Int}(h:eF w q d b n):q<w.heap.size:=(TX.1 h).1
def eF.cell{n:Int}(h:eF w q d b n):w.cell? ⟨q,2,U⟩=J (I O n):=by have a:w.heap[q]?=_:=h;simp[World.cell?,a]
def eF.new(w:ZT)(d b:Nat)(n:Int):eF (w.alloc (Z4 #[I O d,I O b,I O n] 284)) w.heap.size d b n:=Ug w _
def eF.below{n:Int}(h:eF w q d b n)(a:bW w w'):eF w' q d b n:=(a.block _ h.lt).trans h
def Ju(q:Nat)(m:Int)(w:ZT):(binOp .eql 51 (jQ q) (.iface 58 (I O m))).run ZL w=.ok (Z1 ZU) w:=by
 have a:∀d,(Op.equalIn (d+1) 51 (.iface 282 (Z6 (J ⟨q,0,U⟩))) (.iface 58 (I O m))).run ZL w=.ok ZU w:=λd=>by rw[Op.equalIn];simp[UH,UP acS,UV]
 have b:=a 9999;unfold jQ;simp only[binOp];simp[Op.equal,Op.maxDepth,b]
theorem FO{n:Int}(h:eF w q d b n):ZQ ZL 272 #[Z6 (J ⟨q,0,U⟩)] w λe w'=>e=Z3 (.iface 58 (I O n))/\w'=w:=by have c:=h.cell;go_enter func272,ntmps272;go_wp2;go_ret;exact⟨rfl,rfl⟩
theorem Jv{n:Int}(h:eF w q d b n)(m:Int):ZQ ZL 116 #[jQ q,.iface 58 (I O m),Z1 ZV] w λe w'=>e=Z3 (Z1 (n==m))/\w'=w:=by have a:=Ju q m;have c:=zA n m;have b1:∀w:ZT,(Instr.typeAssert (jQ q) 51 248 ZV).run ZL w=.ok (ZZ #[.nilIface,Z1 ZU]) w:=λw=>Xs ado ee ee _ _ w;have b2:∀w:ZT,(Instr.typeAssert (jQ q) 51 175 ZV).run ZL w=.ok (ZZ #[jQ q,Z1 ZV]) w:=λw=>run_typeAssert_hasB adp ee _ _ w;have g:∀w:ZT,(Instr.typeAssert (.iface 58 (I O n)) 51 248 ZV).run ZL w=.ok (ZZ #[.nilIface,Z1 ZU]) w:=λw=>Xs ado ee ee _ _ w;have i:∀w:ZT,(Instr.typeAssert (.iface 58 (I O n)) 51 175 ZV).run ZL w=.ok (ZZ #[.nilIface,Z1 ZU]) w:=λw=>Xs adp ee ee _ _ w;have j:∀w:ZT,(Instr.typeAssert (.iface 58 (I O n)) 51 176 ZV).run ZL w=.ok (ZZ #[.nilIface,Z1 ZU]) w:=λw=>Xs underlying176 ee ee _ _ w;have k:∀w:ZT,(YG 479 282 (Z6 (J ⟨q,0,U⟩)) "Unwrap").run ZL w=.ok (272,Z6 (J ⟨q,0,U⟩)) w:=λw=>ee;have f:=FO h;unfold jQ at a b1 b2⊢;cases h2:(n==m)<;>(rw[h2]at c;go_enter func116,ntmps116;go_wp2;refine VD 2 ?_;rw[Vx];go_wp2_with fail;refine f.mono ?_;rintro e w'⟨rfl,rfl⟩;go_wp2;rw[Vx];go_wp2;go_ret;exact⟨rfl,rfl⟩)
theorem pF{n:Int}(h:eF w q d b n)(m:Int):ZQ ZL 81 #[jQ q,.iface 58 (I O m)] w λe w'=>e=Z3 (Z1 (n==m))/\w'=w:=by have g:=Tryz.SG (I O m);have c:=@run_callFunc_extern ZL 87 _ Extern.ReflectliteType.typeOf func87 ee ee ee ee;have i:∀(h:ZS)(w:ZT),(YG 479 167 (.agg #[h]) "Comparable").run ZL w=.ok (260,.agg #[h]) w:=λh w=>ee;have f:∀w:ZT,(callFunc 260 #[.agg #[Z6 (J ⟨3,58,U⟩)]]).run ZL w=.ok (.value (Z1 ZV)) w:=λw=>ee;have a:=Jv h m;unfold jQ at a⊢;generalize(n==m)=nm at a⊢;go_enter func81,ntmps81;go_wp2_with fail;refine a.mono ?_;rintro e w'⟨rfl,rfl⟩;go_wp2;go_ret;exact⟨rfl,rfl⟩
theorem uS{n:Int}(h:eF w q d b n)(c:n≠13):ZQ ZL 158 #[jQ q] w λe w'=>e=Z3 (ZZ #[])/\w'=w:=by
 have a:=pF h 13;rw[(ua c:(n==13)=ZU)]at a;unfold jQ at a⊢;go_enter func158,ntmps158;go_wp2_with fail;refine a.mono ?_;rintro e w'⟨rfl,rfl⟩;go_wp2;first|go_end0|skip
 exact⟨rfl,rfl⟩
theorem FP(h:eF w q d b 13):ZQ ZL 158 #[jQ q] w λe w'=>e=.panicked [{v:=jQ q,recovered:=ZU}]/\w'=w:=by have a:=pF h 13;unfold jQ at a⊢;go_enter func158,ntmps158;go_wp2_with fail;refine a.mono ?_;rintro e w'⟨rfl,rfl⟩;go_wp2;exact⟨rfl,rfl,rfl⟩
section
variable {w:ZT}{p:Nat}{R:eR}{F:aC}
def aaC(w:ZT)(d b:Nat)(R:eR)(F:aC)(e:ZO)(w':ZT):Prop:=(R.lost d=ZU/\e=Z3 (ZZ #[Z6 (J ⟨F.g,d*4,U⟩),.nilIface])/\w'=w)\/(R.lost d=ZV/\e=Z3 (ZZ #[.pointer U,jQ w.heap.size])/\w'=w.alloc (Z4 #[I O d,I O b,I O 11] 284))
theorem Hz(h:aj w p R F)(d b:Nat)(e:d<R.n)(o:b<R.nb):ZQ ZL 188 #[Z6 (J ⟨p,0,U⟩),I O d,I O b] w (aaC w d b R F):=by obtain⟨c0,q,c1,_,m,_⟩:=h.RN;obtain⟨a,d1,f,r,g⟩:=h.R4 d e;have i:¬(d:Int)<0:=V;have j:¬(R.n:Int)<=(d:Int):=V;have c:(d:Int)<(R.n:Int):=V;have k:¬(b:Int)<0:=V;have l:¬(R.nb:Int)<=(b:Int):=V;clear h;cases hl:R.lost d<;>(rw[hl]at a;go_enter func188,ntmps188;go_wp2;go_ret2;first|exact .inl ⟨hl,rfl,rfl⟩|exact .inr ⟨hl,rfl,rfl⟩)
def aaD(w:ZT)(p d b:Nat)(R:eR)(F:aC)(e:ZO)(w':ZT):Prop:=aj w' p R F/\aa F.S w w'/\((R.lost d=ZU/\R.bad d b=ZU/\e=Z3 (ZZ #[.agg (aK (R.blk d b)),.nilIface]))\/((R.lost d=ZV\/R.bad d b=ZV)/\∃q,e=Z3 (ZZ #[.agg (aK zb),jQ q])/\w.heap.size<=q/\eF w' q d b (if R.lost d=ZV then 11 else 12)))
theorem Pw(h:aj w p R F)(d b:Nat)(E:d<R.n)(M:b<R.nb):ZQ ZL 170 #[Z6 (J ⟨p,0,U⟩),I O d,I O b] w (aaD w p d b R F):=by
 have hz:=zeroBlk;have L:=(h.len d b).1;have c:=h.alloc (Z4 (aK zb) 119);have A:=cO.new w zb;have y:∀k,F.S k->k<w.heap.size:=λk G=>h.RL G;have u:aa F.S w (w.alloc (Z4 (aK zb) 119)):=aa.alloc w _;have e3:¬(b:Int)<0:=V;have e4:(b:Int)<(R.nb:Int):=V;obtain⟨w1,Q⟩:=nM (w.alloc (Z4 (aK zb) 119));have hr:w1.heap.size=w.heap.size+1:=by rw[<-Q];simp
 rw[Q]at c A u;have i:∀(a:ZT)(l:a7),aj a p R F->aa F.S w a->aj (a.setRow w.heap.size (aK l)) p R F/\aa F.S w (a.setRow w.heap.size (aK l))/\∀j,j≠w.heap.size->j<a.heap.size->(a.setRow w.heap.size (aK l)).heap[j]?=a.heap[j]?:=λa l O' X=>by have P:∀j,j≠w.heap.size->j<a.heap.size->(a.setRow w.heap.size (aK l)).heap[j]?=a.heap[j]?:=λj Y hl=>(aZ a w.heap.size (aK l)).block j hl (λe=>by cases e;exact Y rfl);exact⟨O'.keep λk G=>P k (ia (y k G)) (O'.RL G),X.later (T:=λk=>k=w.heap.size) (aa.setRow _ _ _ rfl) λk G e=>absurd e V,P⟩
 have J':=Hz c d b E M;have H:=a5 c A u y i;clear h c A u y i;go_enter func170,ntmps170;go_wp2_with fail;refine J'.mono ?_;rintro e w2(⟨hl,rfl,rfl⟩|⟨hl,rfl,N⟩);.obtain⟨c,A,u,y,i⟩:=H.o;obtain⟨d0,d1,d2,r,d3⟩:=c.R4 d E;have hn:=c.R6 (d*4+3);obtain⟨a,o⟩:=nM (w2.setCell ⟨F.g,d*4+3,U⟩ (I O (wrap64 (r+1))));have m:=c.count d (wrap64 (r+1));rw[o]at m;obtain⟨q0,q1,q2,_⟩:=m.R4 d E;have V':a.cell? ⟨F.bd d,b,U⟩=J (Z1 (R.bad d b)):=(m.bad d E).cell M;have qr:a.rangeAt (F.bb d) (b*64) (aL (R.blk d b)):=m.range E M;have hs:a.heap.size=w2.heap.size:=(by rw[<-o];simp[World.setCell]);have f:cO a w.heap.size zb:=A.keep (by rw[<-o];exact Uc _ _ _ _ (by have:=y _ c.sg;show w.heap.size≠F.g;omega));have z:aa F.S w a:=u.trans (by rw[<-o];exact aa.setCell _ _ _ c.sg);cases h6:R.bad d b with|false=>rw[h6]at V';have x:=aE m z i f;clear c A u y i m z f J';go_wp2_with(first|(refine Fl rfl (Z0 46) rfl (F.bb d) (b*64) (R.blk d b) rfl qr L ?_)|(refine jb rfl (Z0 6) (Z0 47) rfl w.heap.size (R.blk d b) zb rfl rfl x.o.2.2.2 dW L ?_));obtain⟨m,z,i,f⟩:=x.o;refine Uv (v:=ZZ #[.agg (aK (R.blk d b)),.nilIface]) (fX results170 _ _ _ _ _ rfl rfl (mu (f.setRow _) L)) rfl ?_;obtain⟨C,D,_⟩:=i _ (R.blk d b) m z;exact⟨C,D,.inl ⟨hl,h6,rfl⟩⟩|true=>rw[h6]at V';obtain⟨W,U'⟩:=nM (a.alloc (Z4 #[I O d,I O b,I O 12] 284));obtain⟨q,B⟩:=nM (w.heap.size+1);have Z:a.heap.size=q:=V;have s:eF W q d b 12:=(by rw[<-U',<-Z];exact eF.new _ _ _ _);have t:bW a W:=(by rw[<-U'];exact bA a _);have x:=a6 (m.below t lR) (z.trans (aa.RK t _)) i (f.keep (t.block _ f.lt)) s (V:w.heap.size<q);clear c A u y i m z f J' s t;go_wp2_with(refine jb rfl (Z0 6) (Z0 35) rfl w.heap.size zb zb rfl rfl (by exact x.o.2.2.2.1) dW dW ?_);obtain⟨m,z,i,f,s,hp⟩:=x.o;refine Uv (v:=ZZ #[.agg (aK zb),.iface 282 (Z6 (J ⟨q,0,U⟩))]) (fX results170 _ _ _ _ _ rfl rfl (mu (f.setRow _) dW)) rfl ?_;obtain⟨C,D,K⟩:=i _ zb m z;exact⟨C,D,.inr ⟨.inr h6,q,rfl,V,by rw[hl];exact(K q V s.lt).trans s⟩⟩
 .obtain⟨q,B⟩:=nM (w1.heap.size);have s:eF w2 q d b 11:=(by rw[N,<-B];exact eF.new _ _ _ _);have t:bW w1 w2:=(by rw[N];exact bA w1 _);rw[B];unfold jQ;have f:=H.o.2.1.keep (t.block _ H.o.2.1.lt);have x:=aE s t f B;clear s t f B N J';go_wp2_with(refine jb rfl (Z0 6) (Z0 19) rfl w.heap.size zb zb rfl rfl x.o.2.2.1 dW dW ?_);obtain⟨s,t,f,B⟩:=x.o;obtain⟨c,A,u,y,i⟩:=H.o;refine Uv (v:=ZZ #[.agg (aK zb),.iface 282 (Z6 (J ⟨q,0,U⟩))]) (fX results170 _ _ _ _ _ rfl rfl (mu (f.setRow _) dW)) rfl ?_;obtain⟨C,D,K⟩:=i _ zb (c.below t lR) (u.trans (aa.RK t _));exact⟨C,D,.inr ⟨.inl hl,q,rfl,V,by rw[TT hl];exact(K q V s.lt).trans s⟩⟩
def wbR(A:eR)(d b:Nat)(l:a7):eR:=A.RT d λm=>if m=b then l else A.blk d m
def wrR(A:eR)(d b:Nat)(l:a7):eR:=(wbR A d b l).RU d λm=>if m=b then ZU else A.bad d m
def aaE(w:ZT)(p d b:Nat)(l:a7)(R:eR)(F:aC)(x:ZS)(w':ZT):Prop:=aa F.S w w'/\((R.lost d=ZU/\x=.nilIface/\aj w' p (wrR R d b l) F)\/(R.lost d=ZV/\aj w' p R F/\∃q,x=jQ q/\eF w' q d b 11)\/(F.pw=ZU/\R.lost d=ZU/\Dead w' p (R.RU d λm=>if m=b then ZV else R.bad d m) F/\∃q,x=jQ q/\eF w' q d b 13))
theorem Ml(h:aj w p R F)(d b:Nat)(f:d<R.n)(G:b<R.nb)(l:a7)(E:l.length=64)(hx:∀x∈l,x<256):ZQ ZL 156 #[Z6 (J ⟨p,0,U⟩),I O d,I O b,.agg (aK l)] w λe w'=>∃x,e=Z3 x/\aaE w p d b l R F x w':=by
 have a:=h.alloc (Z4 (aK l) 119);have u:=cO.new w l;have r:aa F.S w (w.alloc (Z4 (aK l) 119)):=aa.alloc w _;have e3:¬(b:Int)<0:=V;have e4:(b:Int)<(R.nb:Int):=V;have hs:¬F.S w.heap.size:=λq=>ia (h.RL q);obtain⟨w1,k7⟩:=nM (w.alloc (Z4 (aK l) 119));rw[k7]at a u r;obtain⟨c0,m,c1,ke,kb,A⟩:=a.RN;have f1:w1.frozen? ⟨p,1,U⟩=ZU:=by obtain⟨_,y,_⟩:=a.top;simp[World.frozen?,y]
 have Q:=Hz a d b f G;have H:=au a u r;clear h a u r;go_enter func156,ntmps156;go_wp2_with fail;refine Q.mono ?_;rintro e w2(⟨hl,rfl,rfl⟩|⟨hl,rfl,T⟩)
 . obtain⟨a,u,r⟩:=H.o;clear Q;have k5:w.heap.size≠p:=λe=>hs (e▸a.sp);by_cases hh:m=1
   . subst hh;obtain⟨V',C,a3⟩:=a.apart;have v:∀j,j≠p->(w2.setCell ⟨p,1,U⟩ (I O 0)).heap[j]?=w2.heap[j]?:=λj hj=>Uc _ _ _ _ hj;obtain⟨m,y,_⟩:=a.top;have B:(w2.setCell ⟨p,1,U⟩ (I O 0)).heap[p]?=J (Z4 #[Z5 (J ⟨F.g,0,U⟩) R.n F.cap,I O 0] 109 (0,0)):=(by simp[World.setCell,Vb,y]);have g1:(w2.setCell ⟨p,1,U⟩ (I O 0)).cell? ⟨p,1,U⟩=J (I O 0):=(by simp[World.cell?,B]);have g2:=(Uk (v _ V'.symm)).trans (a.R4 d f).2.2.1;have g3:=(Uk (v _ (C d f).2.2.1)).trans ((a.bad d f).cell G);have g4:(w2.setCell ⟨p,1,U⟩ (I O 0)).frozen? ⟨F.bd d,b,U⟩=ZU:=(by obtain⟨cs,q,_⟩:=a.bad d f;have:=(v _ (C d f).2.2.1).trans q;simp[World.frozen?,this]);have H3:=a6 a r B v (C d f).2.2.1 A;clear a u r B v V' C a3 y A;go_wp2;go_ret;obtain⟨a,r,B,v,hv,A⟩:=H3.o;have ka:p<w2.heap.size:=a.RL a.sp;have k6:((w2.setCell ⟨p,1,U⟩ (I O 0)).setCell ⟨F.bd d,b,U⟩ (Z1 ZV)).heap.size=w2.heap.size:=oD;have hy:((w2.setCell ⟨p,1,U⟩ (I O 0)).setCell ⟨F.bd d,b,U⟩ (Z1 ZV)).heap[p]?=J (Z4 #[Z5 (J ⟨F.g,0,U⟩) R.n F.cap,I O 0] 109 (0,0)):=(Uc _ _ _ _ hv.symm).trans B;have h5:=(a.wait (x:=-1) (t:=ZV) ec ec λ_=>rfl).Ta f b ZV;refine⟨_,rfl,r.trans ((aa.setCell _ _ _ a.sp).trans ((aa.setCell _ _ _ (a.sd f)).trans (aa.alloc _ _))),.inr (.inr ⟨?_,hl,⟨?_,h5.keep λk hk=>?_⟩,_,rfl,?_⟩)⟩
     . cases o:F.pw;.rfl
       .exact absurd (A o) ec
     .have:(((w2.setCell ⟨p,1,U⟩ (I O 0)).setCell ⟨F.bd d,b,U⟩ (Z1 ZV)).alloc (Z4 #[I O d,I O b,I O 13] 284)).heap[p]?=_:=(UE _ _ _ V).trans hy;simp[World.cell?,this]
     . have k9:k<w2.heap.size:=a.RL hk;have D:(((w2.setCell ⟨p,1,U⟩ (I O 0)).setCell ⟨F.bd d,b,U⟩ (Z1 ZV)).alloc (Z4 #[I O d,I O b,I O 13] 284)).heap[k]?=((w2.setCell ⟨p,1,U⟩ (I O 0)).setCell ⟨F.bd d,b,U⟩ (Z1 ZV)).heap[k]?:=UE _ _ _ V;by_cases e:k=p;.subst e;obtain⟨m,y,_⟩:=a.top;rw[Uc _ ⟨F.bd d,b,U⟩ _ _ hv.symm];rw[hy]at D;simp[World.setCell,Vb]at D⊢;simp[D,y]
       .rw[Uc _ ⟨p,1,U⟩ _ _ e,D];simp[World.setCell,Vb,Vc e]
     .have:=eF.new ((w2.setCell ⟨p,1,U⟩ (I O 0)).setCell ⟨F.bd d,b,U⟩ (Z1 ZV)) d b 13;rwa[k6]at this
   rcases(V:m<0\/1<m)with hw|hw;case' inl=>have hg:¬0<m:=V;go_wp2_with fail;obtain⟨i,U',s,M,hr⟩:∃i,w2=i/\aj i p R F/\cO i w.heap.size l/\aa F.S w i:=⟨_,rfl,a,u,r⟩
   case' inr=>have hg:0<m:=V;have kc:wrap64 (m-1)=m-1:=D2;have k8:¬m-1=0:=V;go_wp2_with fail;obtain⟨i,U',s,M,hr⟩:∃i,w2.setCell ⟨p,1,U⟩ (I O (m-1))=i/\aj i p R F/\cO i w.heap.size l/\aa F.S w i:=⟨_,rfl,a.wait (t:=F.pw) V V (λe=>ia (A e)),u.keep (Uc _ _ _ _ k5),r.trans (aa.setCell _ _ _ a.sp)⟩
   all_goals
    rw[U'];clear U';have c:=s.R4 d f;refine bw 14 [(0,ZV),(1,ZV),(2,ZV),(3,ZV),(4,ZV),(5,ZV),(6,ZV),(7,ZV),(8,ZV),(9,ZV),(10,ZV),(11,ZV),(12,ZU),(13,ZV),(14,ZU)] (λw'=>w'.cell? ⟨F.g,d*4+1,U⟩=J (Z5 (J ⟨F.bb d,0,U⟩) R.nb R.nb)/\w'.cell? ⟨F.g,d*4+2,U⟩=J (Z5 (J ⟨F.bd d,0,U⟩) R.nb R.nb)/\cO w' w.heap.size l) ee ee ⟨c.2.1,c.2.2.1,M⟩ ?_;iterate 10 refine bE ?_
    refine cZ rfl rfl ⟨_,λw' hS=>by simp[execOp,Act.eval,oy hS.2.2 E];rfl,?_⟩;refine lT ?_;simp only[Act.put,TZ,T5,T6];have O':=adq (P:=ZL) i.drew (F.bb d) (b*64) 119 (aK l) (by rw[iR,E];exact s.there f G) (iS E) (Cv l);rw[yR]at O';refine uy rfl rfl λK hK=>?_;simp[Oper.wp,execOp,Act.eval,O'];have z:=(s.keep (Y:=i.drew) λ_ _=>rfl).setBlk f b E hx;have Z:aa F.S i (i.drew.setCells (F.bb d) (b*64) (aL l)):=(aa.drew i).trans (aa.setCells _ _ _ _ (s.sb f));have X:cO (i.drew.setCells (F.bb d) (b*64) (aL l)) w.heap.size l:=cO.keep M (aU _ _ _ _ _ (λe=>hs (e▸s.sb f)));have L:=z.R4 d f;have c4:=(z.bad d f).cell G;have f4:=(z.bad d f).frozen b;refine hK _ _ (λ_=>⟨L.2.1,L.2.2.1,X⟩) ?_;obtain⟨w4,hz⟩:=nM (i.drew.setCells (F.bb d) (b*64) (aL l));rw[hz]at z Z X c4 f4⊢;clear hK hz O' c L;refine lT ?_;simp only[Act.put,TZ,T5,T6];refine uy rfl rfl λK hK=>?_;go_simp;have k0:=z.Ta f b ZU;refine hK _ _ xJ (bI ?_);clear hK;rename_i hK _;refine hK _ _ ?_;go_wp2;go_ret;exact⟨_,rfl,hr.trans (Z.trans (aa.setCell _ _ _ (s.sd f))),.inl ⟨hl,rfl,k0⟩⟩
 .have N:eF w2 w1.heap.size d b 11:=(by rw[T];exact eF.new _ _ _ _);have W:bW w1 w2:=(by rw[T];exact bA w1 _);obtain⟨q,o⟩:=nM (w1.heap.size);rw[o]at N⊢;unfold jQ;have J':=al N W;clear N W o T Q c0 c1;go_wp2;go_ret;exact⟨_,rfl,H.o.2.2.trans (aa.RK J'.o.2 _),.inr (.inl ⟨hl,H.o.1.below J'.o.2 lR,q,rfl,J'.o.1⟩)⟩
end
section
def bz(w:ZT)(v p D L G ps ho:Nat):Prop:=w.heap[v]?=J (Z4 #[Z6 (J ⟨p,0,U⟩),I O D,I O L,I O G,Z6 (J ⟨ps,0,U⟩),I Z8 ho] 129 (0,0))
def bz.keep{w:ZT}{v p D L G ps ho:Nat}(h:bz w v p D L G ps ho)(e:w'.heap[v]?=w.heap[v]?):bz w' v p D L G ps ho:=e.trans h
def bz.lt{w:ZT}{v p D L G ps ho:Nat}(h:bz w v p D L G ps ho):v<w.heap.size:=(TX.1 h).1
def bz.cells{w:ZT}{v p D L G ps ho:Nat}(h:bz w v p D L G ps ho):w.cell? ⟨v,0,U⟩=J (Z6 (J ⟨p,0,U⟩))/\w.cell? ⟨v,1,U⟩=J (I O D)/\w.cell? ⟨v,2,U⟩=J (I O L)/\w.cell? ⟨v,3,U⟩=J (I O G)/\w.cell? ⟨v,4,U⟩=J (Z6 (J ⟨ps,0,U⟩))/\w.cell? ⟨v,5,U⟩=J (I Z8 ho):=by have a:w.heap[v]?=J (Z4 #[Z6 (J ⟨p,0,U⟩),I O D,I O L,I O G,Z6 (J ⟨ps,0,U⟩),I Z8 ho] 129 (0,0)):=h;simp[World.cell?,a]
def cJ.outside{w:ZT}{S:Nat->Prop}(h:cJ w)(a:aa S w w')(b:¬S 2):cJ w':=λj c=>by have:=h j c;rw[<-this];exact Uk (a.block _ (Ue this) b)
def an.RR(A:an)(d b:Nat):Option bF:=if A.lost d=ZV then U else A.rd d b
def Ia{A:an}(h:gnB A b d=ZU):A.RR d b=J (A.rc d b):=by unfold gnB at h;simp only[XJ]at h;unfold an.RR an.rd;rw[h.1.1,h.1.2,h.2];rfl
def AY{A:an}(h:gnB A b d=ZV):(A.lost d=ZV/\A.RR d b=U)\/(A.lost d=ZU/\A.RR d b=U)\/(A.lost d=ZU/\A.RR d b=J .blank):=by unfold gnB at h;unfold an.RR an.rd;cases hl:A.lost d<;>cases hb:A.bad d b<;>cases hk:A.bl d b<;>simp[hl,hb,hk]at h⊢
def aaF(w:ZT)(p d b:Nat)(A:an)(F:aC)(e:ZO)(w':ZT):Prop:=ay w' p A F/\aa F.S w w'/\((∃r,A.RR d b=J r/\e=Z3 (ZZ #[ef r,.nilIface]))\/(A.RR d b=U/\∃q,e=Z3 (ZZ #[.nilIface,jQ q])/\w.heap.size<=q/\eF w' q d b (if A.lost d=ZV then 11 else 12)))
variable {w:ZT}{v p D L G ps ho:Nat}{A:an}{F:aC}
theorem sL(hV:bz w v p D L G ps ho)(h:ay w p A F)(d b:Nat)(m:d<A.n)(hb:b<A.nb)(hv:cJ w)(hg:¬F.S 2):ZQ ZL 146 #[Z6 (J ⟨v,0,U⟩),I O d,I O b] w (aaF w p d b A F):=by
 obtain⟨c0,_⟩:=hV.cells;have hz:=zeroBlk;obtain⟨R,C,i⟩:=h;have hc:=Pw C d b (by rw[i.n];exact m) (by rw[i.nb];exact hb);have z:=(C.len d b).1;have t:=aE (C.len d b).2 (λk(x:F.S k)=>C.RL x) hv i;have o:R.lost d=ZU->A.RR d b=R.rd d b:=λq=>by rw[i.lost d m]at q;unfold an.RR;rw[q,i.rd d b m q];rfl
 have B:R.lost d=ZV\/R.bad d b=ZV->A.RR d b=U:=λq=>by
  cases hl:R.lost d;.rw[o hl];rw[hl]at q;unfold eR.rd;rw[TT (q.resolve_left ec)]
  .unfold an.RR;rw[<-i.lost d m,hl];rfl
 rw[i.lost d m]at o B;have y:=al o B;go_enter func146,ntmps146;go_wp2_with fail;refine hc.mono ?_;rintro e w1⟨k8,Q,Y⟩;have ka:=Q.size;have U':=cO.new w1 zb;have O':=k8.alloc (Z4 (aK zb) 119);have k9:aa F.S w (w1.alloc (Z4 (aK zb) 119)):=Q.trans (aa.alloc _ _);have N:∀l:a7,ay ((w1.alloc (Z4 (aK zb) 119)).setRow w1.heap.size (aK l)) p A F/\aa F.S w ((w1.alloc (Z4 (aK zb) 119)).setRow w1.heap.size (aK l)):=λl=>⟨⟨R,O'.keep λk x=>(aZ _ _ _).block k (O'.RL x) (λe=>by have:=t.o.2.1 k x;cases e;omega),t.o.2.2.2⟩,k9.later (T:=λk=>k=w1.heap.size) (aa.setRow _ _ _ rfl) (λk x e=>absurd e V)⟩;rw[t.o.2.2.2.lost d m]at Y;rcases Y with⟨hl,h9,rfl⟩|⟨B,q,rfl,K,X⟩;.obtain⟨l,hll⟩:=nM (R.blk d b);rw[hll]at z⊢;have g:A.RR d b=K8 l:=(by rw[y.o.1 hl];unfold eR.rd;rw[h9,hll];rfl);have c:=a5 U' (N l) g hll hl;go_wp2_with(first|(refine jb rfl (Z0 8) (Z0 20) rfl w1.heap.size l zb rfl rfl c.o.1 dW z ?_)|(refine tH rfl (Z0 8) rfl w1.heap.size l rfl (c.o.1.setRow l) z ?_));obtain⟨u,j⟩:=c.o.2.1;obtain⟨w3,J'⟩:=nM ((w1.alloc (Z4 (aK zb) 119)).setRow w1.heap.size (aK l));rw[J']at u j⊢;have ho:=aaA l w3 z (by rw[<-c.o.2.2.2.1];exact t.o.1) (t.o.2.2.1.outside j hg);have f:=al u j;refine ho.mono ?_;rintro e s⟨rfl,V'⟩;have P:=f.o.1.below V' lR;have H:aa F.S w s:=f.o.2.trans (aa.RK V' _);have g:=c.o.2.2.1;cases hr:K8 l with|some r=>rw[hr]at g;have a:=au P H g;obtain⟨rv,Z⟩:=nM (ef r);have y:=ak Z;unfold ofV;simp only[Z];go_wp2;go_ret2;exact⟨a.o.1,a.o.2.1,.inl ⟨r,a.o.2.2,by rw[y.o];rfl⟩⟩|none=>rw[hr]at g;obtain⟨w5,k7⟩:=nM (s.alloc (Z4 #[I O d,I O b,I O 12] 284));have hf:eF w5 s.heap.size d b 12:=(by rw[<-k7];exact eF.new _ _ _ _);have W:bW s w5:=(by rw[<-k7];exact bA s _);have a:=a6 (P.below W lR) (H.trans (aa.RK W _)) g hf H.size c.o.2.2.2.2;unfold ofV;go_wp2;go_ret2;exact⟨a.o.1,a.o.2.1,.inr ⟨a.o.2.2.1,_,rfl,a.o.2.2.2.2.1,by rw[a.o.2.2.2.2.2];exact a.o.2.2.2.1⟩⟩
 . have he:eF ((w1.alloc (Z4 (aK zb) 119)).setRow w1.heap.size (aK zb)) q d b (if A.lost d=ZV then 11 else 12):=by have M:eF (w1.alloc (Z4 (aK zb) 119)) q d b (if A.lost d=ZV then 11 else 12):=X.below (bA w1 _);exact((aZ _ _ _).block q M.lt (λe=>by have:=X.lt;cases e;omega)).trans M
   have c:=a5 U' (N zb) (y.o.2 B) he K;unfold jQ;go_wp2_with(refine jb rfl (Z0 8) (Z0 20) rfl w1.heap.size zb zb rfl rfl c.o.1 dW dW ?_);obtain⟨_,⟨u,j⟩,g,E,K⟩:=c.o;obtain⟨w3,J'⟩:=nM ((w1.alloc (Z4 (aK zb) 119)).setRow w1.heap.size (aK zb));rw[J']at u j E⊢;have k6:=uS E (by split<;>decide);unfold jQ at k6;have f:=a5 u j g E K;refine k6.mono ?_;rintro e s⟨rfl,rfl⟩;go_wp2;go_ret2;exact⟨f.o.1,f.o.2.1,.inr ⟨f.o.2.2.1,q,rfl,f.o.2.2.2.2,f.o.2.2.2.1⟩⟩
def an.RY(A:an)(d b:Nat):an:={A with bad:=λi m=>if i=d/\m=b then ZV else A.bad i m,tn:=λi m=>if i=d/\m=b then ZU else A.tn i m}
def gA.RY{R:eR}{A:an}(h:gA R A)(d b:Nat):gA (R.RU d λm=>if m=b then ZV else R.bad d m) (A.RY d b):=by
 refine⟨h.n,h.nb,h.lost,λi m c hl=>?_,λi m c hl=>?_⟩
 . have q:=h.rd i m c hl;unfold eR.rd an.rd at q;unfold eR.rd an.rd an.RY eR.RU;by_cases e:i=d
   . subst e;by_cases a:m=b;.subst a;simp
     .simpa[a]using q
   .simpa[e]using q
 . have q:=h.tn i m c hl;unfold an.RY eR.RU;by_cases e:i=d
   . subst e;by_cases a:m=b;.subst a;simp
     .simpa[a]using q
   .simpa[e]using q
def ix(w:ZT)(p:Nat)(A:an)(F:aC):Prop:=∃R,Dead w p R F/\gA R A
def bC(w:ZT)(p:Nat)(F:aC)(C:an->Prop)(e:ZO)(w':ZT):Prop:=F.pw=ZU/\(∃q d b,e=.panicked [{v:=jQ q,recovered:=ZU}]/\eF w' q d b 13)/\(∃B,C B/\ix w' p B F)/\aa F.S w w'
def AZ(w:ZT)(p d b:Nat)(r:bF)(A:an)(F:aC)(x:ZS)(w':ZT):Prop:=ay w' p (A.putAt [d] b λ_=>r) F/\aa F.S w w'/\((A.lost d=ZU/\x=.nilIface)\/(A.lost d=ZV/\∃q,x=jQ q/\eF w' q d b 11))
theorem pG(y:bz w v p D L G ps ho)(h:ay w p A F)(d b:Nat)(B:d<A.n)(t:b<A.nb)(r:bF)(k:r.ok)(o:cJ w):ZQ ZL 125 #[Z6 (J ⟨v,0,U⟩),I O d,I O b,ef r] w λe w'=>(∃x,e=Z3 x/\AZ w p d b r A F x w')\/(A.lost d=ZU/\bC w p F (·=A.RY d b) e w'):=by
 have E:∀w1,bW w w1->ZQ ZL 156 #[Z6 (J ⟨p,0,U⟩),I O d,I O b,.agg (aK r.blk)] w1 λe w2=>∃x,e=Z3 x/\(AZ w p d b r A F x w2\/((A.lost d=ZU/\F.pw=ZU/\ix w2 p (A.RY d b) F/\aa F.S w w2)/\∃q,x=jQ q/\eF w2 q d b 13)):=λw1 c=>by
  obtain⟨R,j,f⟩:=h;refine(Ml (j.below c lR) d b (by rw[f.n];exact B) (by rw[f.nb];exact t) r.blk (Hg k) (RD k)).mono ?_;rintro e w2⟨x,rfl,U',z⟩;rw[f.lost d B]at z;have m:=(aa.RK c _).trans U';rcases z with⟨hl,rfl,g⟩|⟨hl,g,i⟩|⟨Z,hl,g,i⟩;.exact⟨_,rfl,.inl ⟨⟨_,g,f.put d b k⟩,m,.inl ⟨hl,rfl⟩⟩⟩
  .exact⟨_,rfl,.inl ⟨⟨_,g,f.lostPut hl b r⟩,m,.inr ⟨hl,i⟩⟩⟩
  .exact⟨_,rfl,.inr ⟨⟨hl,Z,⟨_,g,f.RY d b⟩,m⟩,i⟩⟩
 obtain⟨c0,_⟩:=y.cells;have s:=zy k w.drew (o.below ((TW _ w).drew) o.lt);obtain⟨rv,X⟩:=nM (ef r);simp only[X]at s⊢;obtain⟨ba,V'⟩:=nM (aK r.blk);simp only[V']at s E;have T:∀w',bW w w'->w'.cell? ⟨v,0,U⟩=J (Z6 (J ⟨p,0,U⟩)):=λw' t=>(t.cell (p:=⟨v,0,U⟩) y.lt).trans c0;have H:=al E T;go_enter func125,ntmps125;go_upto_region 1 with fail;go_cut[9]from 10 to 21(λJ' l=>AZ w p d b r A F J' l\/((A.lost d=ZU/\F.pw=ZU/\ix l p (A.RY d b) F/\aa F.S w l)/\∃q,J'=jQ q/\eF l q d b 13));case first=>go_region_with(first|(go_at_call 157;refine s.mono ?_;rintro e w1⟨rfl,c⟩;have c1:=H.o.2 w1 (((TW _ w).drew).trans c);have K:=ak (((TW _ w).drew).trans c);clear c)|(go_at_call 156;refine(H.o.1 w1 K.o).mono ?_;rintro e w2⟨x,rfl,j⟩;have a:=ak j;clear j));all_goals(go_wp2_with fail;go_meet;case rel=>exact a.o)
 case rest=>
  have Y:∀x W,AZ w p d b r A F x W->ZQ ZL 158 #[x] W λe w'=>e=Z3 (ZZ #[])/\w'=W:=by
   rintro x W⟨_,_,⟨_,rfl⟩|⟨_,q,rfl,i⟩⟩;.exact Mj _
   .exact uS i ec
  rcases hcut with hcut|⟨hcut,q,rfl,u⟩;.have a:=ak hcut;go_wp2_with fail;refine(Y _ _ a.o).mono ?_;rintro e w'⟨rfl,rfl⟩;go_wp2;go_ret;exact .inl ⟨_,rfl,a.o⟩
  .have a:=al hcut u;have C:=FP u;unfold jQ at C⊢;go_wp2_with fail;refine C.mono ?_;rintro e w'⟨rfl,rfl⟩;obtain⟨⟨M,N,O',P⟩,Q⟩:=a.o;exact⟨rfl,.inr ⟨M,N,⟨q,d,b,rfl,Q⟩,⟨_,rfl,O'⟩,P⟩⟩
end
theorem FQ(p:ZP)(w:ZT):CallsD ZL 115 #[Z6 (J p)] .returning w λe u' w'=>e=Z3 (ZZ #[])/\u'=.returning/\w'=w:=by
 refine callsD_of_wpS func115 rfl λa cs f=>?_;have g:∀w,(binOp .eql 20 .nilIface .nilIface).run ZL w=.ok (Z1 ZV) w:=λw=>by
  have b:∀d,(Op.equalIn (d+1) 20 .nilIface .nilIface).run ZL w=.ok ZV w:=λd=>by simp only[Op.equalIn,UH,UP underlying20,UV];rfl
  have c:=b 9999;simp only[binOp];simp[Op.equal,Op.maxDepth,c]
 apply wpS_seq;apply wpS_region;generalize hN:Code.wpS ZL _ _=N;simp[wpOpsS,go_sem,recoverD,f,ntmps115,Exit.thenS];rw[<-hN];refine wpS_of_wp ?_;simp only[Vf,Vg,Vh,Ut,U1,TZ,T5,T6,Vi];go_wp2;cases a;simp_all[bodyPostS,results,results115]
def eh(n:Int):ZS:=.iface 58 (I O n)
def Mm(q:Nat)(w:ZT):(Instr.typeAssert (jQ q) 20 51 ZV).run ZL w=.ok (ZZ #[jQ q,Z1 ZV]) w:=run_typeAssert_hasB acS ee _ _ w
theorem Jw(l:eF w q d b 13)(h:ZM w p 51 .nilIface):CallsD ZL 115 #[Z6 (J ⟨p,0,U⟩)] (.panicking [{v:=jQ q,recovered:=ZU}]) w λe u' w'=>e=Z3 (ZZ #[])/\u'=.panicking [{v:=jQ q,recovered:=ZV}]/\w'=w.setCell ⟨p,0,U⟩ (eh 13):=by
 have n:=Mm q;have a:=pF l 13;have c:=h.cell;have f:=h.frozen;have m:∀w,(binOp .eql 20 (jQ q) .nilIface).run ZL w=.ok (Z1 ZU) w:=λw=>by
  have k:∀d,(Op.equalIn (d+1) 20 (jQ q) .nilIface).run ZL w=.ok ZU w:=λd=>by simp only[Op.equalIn,UH,UP underlying20,UV];rfl
  have g:=k 9999;unfold jQ at g⊢;simp only[binOp];simp[Op.equal,Op.maxDepth,g]
 refine callsD_of_wpS func115 rfl λo cs i=>?_;obtain⟨x,j⟩:=nM (jQ q);rw[j]at i⊢;apply wpS_seq;apply wpS_region;generalize hN:Code.wpS ZL _ _=N;simp[wpOpsS,go_sem,recoverD,i,ntmps115,Exit.thenS];rw[<-hN];rw[<-j];unfold jQ at n a m⊢;refine wpS_of_wp ?_;simp only[Vf,Vg,Vh,Ut,U1,TZ,T5,T6,Vi];go_wp2_with fail;refine a.mono ?_;rintro e w'⟨rfl,rfl⟩;go_wp2;exact⟨rfl,_,rfl,ZZ #[],by simp[results,results115],rfl,rfl,rfl⟩
def nV(D L G:Int)(lost:Int)(reading:Bool)(regs:Int)(steps:ZS)(n o:ZS):Array ZS:=#[I O D,I O L,I O G,I Z8 lost,Z1 reading,I O regs,steps,n,o]
structure rm(w:ZT)(sb:Nat)(room:Int):Prop where ends:w.heap[sb]?=J (Z4 (nV 0 0 0 0 ZU 0 (Z5 U 0 0) (Z6 (J ⟨sb,0,U⟩)) (Z6 (J ⟨sb,0,U⟩))) 274 (0,0))map:∃n,w.heap[sb+1]?=J (.map #[] n)list:w.heap[sb+1+1]?=J (Z4 #[I O room,.map (J (sb+1)),Z6 (J ⟨sb,0,U⟩)] 277 (0,0))R3:w.heap[sb+1+1+1]?=J (Z4 #[Z6 (J ⟨sb+1+1,0,U⟩)] 238 (0,0))
def rm.lt(h:rm w sb room):sb+1+1+1<w.heap.size:=(TX.1 h.R3).1
def rm.keep(h:rm w sb room)(a:∀k,sb<=k->k<=sb+1+1+1->w'.heap[k]?=w.heap[k]?):rm w' sb room:=⟨(a _ V V).trans h.ends,h.map.imp λ_ q=>(a _ V V).trans q,(a _ V V).trans h.list,(a _ V V).trans h.R3⟩
def rm.below(h:rm w sb room)(a:bW w w'):rm w' sb room:=h.keep λk _ b=>a.block k (ia h.lt)
def nW(w:ZT)(a b c:Obj):(((w.alloc a).alloc b).alloc c).heap[w.heap.size]?=J a/\(((w.alloc a).alloc b).alloc c).heap[w.heap.size+1]?=J b/\(((w.alloc a).alloc b).alloc c).heap[w.heap.size+1+1]?=J c:=by
 refine⟨(UE _ _ _ ek).trans ((UE _ _ _ ej).trans (Ug _ _)),(UE _ _ _ ej).trans ?_,?_⟩;.have:=Ug (w.alloc a) b;rwa[Um]at this
 .have:=Ug ((w.alloc a).alloc b) c;rwa[Um,Um]at this
structure acq(w:ZT)(sb:Nat)(room:Int):Prop where ends:w.heap[sb]?=J (Z4 (nV 0 0 0 0 ZU 0 (Z5 U 0 0) (Z6 (J ⟨sb,0,U⟩)) (Z6 (J ⟨sb,0,U⟩))) 274 (0,0))map:∃n,w.heap[sb+1]?=J (.map #[] n)list:w.heap[sb+1+1]?=J (Z4 #[I O room,.map (J (sb+1)),Z6 (J ⟨sb,0,U⟩)] 277 (0,0))
theorem xV(n:Int)(w:ZT):ZQ ZL 145 #[I O n] w λe w'=>e=Z3 (Z6 (J ⟨w.heap.size+1+1,0,U⟩))/\acq w' w.heap.size n/\w'.heap.size=w.heap.size+1+1+1/\bW w w':=by have i:∀w,(Instr.makeMap 275 U).run ZL w=.ok (.map (J w.heap.size)) (w.alloc (.map #[] 0)):=λ_=>rfl;have a:∀b c d:Obj,bW w (((w.alloc b).alloc c).alloc d):=λb c d=>((bA w _).alloc ej _).alloc ek _;have H:=ak a;clear a;go_enter func145,ntmps145;go_wp2;go_ret;obtain⟨f,g,h⟩:=nW w (Z4 (nV 0 0 0 0 ZU 0 (Z5 U 0 0) (Z6 (J ⟨w.heap.size,0,U⟩)) (Z6 (J ⟨w.heap.size,0,U⟩))) 274) (.map #[] 0) (Z4 #[I O n,.map (J (w.heap.size+1)),Z6 (J ⟨w.heap.size,0,U⟩)] 277);exact⟨rfl,⟨f,⟨0,g⟩,h⟩,ej,H.o _ _ _⟩
theorem A0(n:Int)(w:ZT):ZQ ZL 108 #[I O n] w λe w'=>∃b,e=Z3 (Z6 (J ⟨b+1+1+1,0,U⟩))/\w.heap.size<=b/\rm w' b n/\bW w w':=by go_enter func108,ntmps108;go_wp2_with fail;refine(xV n w).mono ?_;rintro e w1⟨rfl,a,d,c⟩;have H:=au c a d;have g:=c.size;clear c a d;go_wp2;go_ret;obtain⟨c,a,d⟩:=H.o;have f:bW w1 (w1.alloc (Z4 #[Z6 (J ⟨w.heap.size+1+1,0,U⟩)] 238)):=bA w1 _;refine⟨w.heap.size,by rw[d];rfl,TV _,⟨(f.block _ V).trans a.ends,a.map.imp λ_ q=>(f.block _ V).trans q,(f.block _ V).trans a.list,?_⟩,c.trans (f.mono g)⟩;have:=Ug w1 (Z4 #[Z6 (J ⟨w.heap.size+1+1,0,U⟩)] 238);rwa[d]at this
theorem FS(p D L G:Nat)(n:Int)(w:ZT):ZQ ZL 78 #[Z6 (J ⟨p,0,U⟩),.agg #[I O D,I O L,I O G],I O n] w λe w'=>∃v b,e=Z3 (Z6 (J ⟨v,0,U⟩))/\w.heap.size<=v/\bz w' v p D L G (b+1+1+1) 0/\(w.heap.size<=b/\b+1+1+1<v/\rm w' b n)/\bW w w':=by
 obtain⟨w1,l⟩:=nM (w.alloc (Z4 #[I O (D:Int),I O (L:Int),I O (G:Int)] 28));have d:w1.heap[w.heap.size]?=J (Z4 #[I O (D:Int),I O (L:Int),I O (G:Int)] 28 (0,0)):=by rw[<-l];exact Ug w (Z4 #[I O (D:Int),I O (L:Int),I O (G:Int)] 28)
 have k:bW w w1:=by rw[<-l];exact bA w _
 have c0:w1.cell? ⟨w.heap.size,0,U⟩=J (I O (D:Int)):=B8;have c1:w1.cell? ⟨w.heap.size,1,U⟩=J (I O (L:Int)):=B8;have q:w1.cell? ⟨w.heap.size,2,U⟩=J (I O (G:Int)):=B8;have H:=al d k;clear d k;go_enter func78,ntmps78;go_wp2_with fail;go_region_with(go_at_call 108;refine(A0 n _).mono ?_;rintro e w2⟨b,rfl,g,c,a⟩;have f:=(a.block _ (TX.1 H.o.1).1).trans H.o.1;have r:w2.cell? ⟨w.heap.size,0,U⟩=J (I O (D:Int)):=Zw;have d1:w2.cell? ⟨w.heap.size,1,U⟩=J (I O (L:Int)):=Zw;have s:w2.cell? ⟨w.heap.size,2,U⟩=J (I O (G:Int)):=Zw;have m:=au g c a;clear g c a f);all_goals(go_wp2;go_ret;obtain⟨g,c,a⟩:=m.o;have h:=H.o.2.size;have t:w1.heap.size<=w2.heap.size:=a.size;have j:=(TW _ w2).alloc lR (Z4 #[Z6 (J ⟨p,0,U⟩),I O D,I O L,I O G,Z6 (J ⟨b+1+1+1,0,U⟩),I Z8 0] 129);have i:bW w w2:=H.o.2.drew.trans (a.mono h);exact⟨_,b,rfl,V,Ug _ _,⟨TU h g,c.lt,c.below j⟩,i.trans (j.mono i.size)⟩)
def kF(v D L G t f n:Nat)(pg ob:ZS)(off:Bool):Array ZS:=#[Z6 (J ⟨v,0,U⟩),I O D,I O L,I O G,I Z8 t,I O f,I O n,pg,ob,Z1 off]
def bh(w:ZT)(a v D L G t f n:Nat)(pg ob:ZS)(off:Bool):Prop:=w.heap[a]?=J (Z4 (kF v D L G t f n pg ob off) 136 (0,0))
def lU(v:ZS):Prop:=v=.nilIface\/∃n:Int,n≠13/\v=.iface 58 (I O n)
def bh.cells{a:Nat}{off:Bool}(h:bh w a v D L G t f n pg ob off):w.cell? ⟨a,0,U⟩=J (Z6 (J ⟨v,0,U⟩))/\w.cell? ⟨a,4,U⟩=J (I Z8 t)/\w.cell? ⟨a,6,U⟩=J (I O n)/\w.cell? ⟨a,7,U⟩=J pg/\w.cell? ⟨a,8,U⟩=J ob:=by have b:w.heap[a]?=J (Z4 (kF v D L G t f n pg ob off) 136 (0,0)):=h;simp[World.cell?,b,kF]
def bh.keep{off:Bool}(h:bh w ar v D' L' G' t' f' n' pg ob off)(e:w'.heap[ar]?=w.heap[ar]?):bh w' ar v D' L' G' t' f' n' pg ob off:=YK e h
def bh.lt{off:Bool}(h:bh w ar v D' L' G' t' f' n' pg ob off):ar<w.heap.size:=(TX.1 h).1
theorem ga(h:bz w v p D L G ps ho):ZQ ZL 105 #[Z6 (J ⟨v,0,U⟩)] w λe w'=>e=Z3 (.agg #[I O D,I O L,I O G])/\bW w w'/\w'.heap.size=w.heap.size+1/\w'.heap[w.heap.size]?=J (Z4 #[I O D,I O L,I O G] 28 (0,0)):=by
 have q:=h.lt;have f:bz (w.alloc (Z4 #[I O 0,I O 0,I O 0] 28)) v p D L G ps ho:=h.keep (UE _ _ _ q);obtain⟨c0,c1,l,m,n⟩:=f.cells;have c:bW w (w.alloc (Z4 #[I O 0,I O 0,I O 0] 28)):=bA w _;have a:=Ug w (Z4 #[I O 0,I O 0,I O 0] 28);obtain⟨w1,d⟩:=nM (w.alloc (Z4 #[I O 0,I O 0,I O 0] 28));rw[d]at c0 c1 l m n c a;have u:w1.cell? ⟨w.heap.size,0,U⟩=J (I O 0):=Zm;have x:w1.cell? ⟨w.heap.size,1,U⟩=J (I O 0):=Zm;have y:w1.cell? ⟨w.heap.size,2,U⟩=J (I O 0):=Zm;have b:∀k,w1.frozen? ⟨w.heap.size,k,U⟩=ZU:=λk=>adR;have r:=b 0;have s:=b 1;have t:=b 2;have g:w1.heap.size=w.heap.size+1:=by rw[<-d];simp
 have H:=au c a g;clear f c a b h g;go_enter func105,ntmps105;go_wp2;have i:=ai (j:=2) (ai (j:=1) (ai (j:=0) H.o.2.1 (I O (D:Int))) (I O (L:Int))) (I O (G:Int));refine Uv (v:=.agg #[I O D,I O L,I O G]) (Wl results105 _ _ w.heap.size 28 #[I O (D:Int),I O (L:Int),I O (G:Int)] (0,0) _ rfl i underlying28 rfl ee) rfl ?_;exact⟨rfl,((H.o.1.setCell (p:=⟨w.heap.size,0,U⟩) lR _).setCell (p:=⟨w.heap.size,1,U⟩) lR _).setCell (p:=⟨w.heap.size,2,U⟩) lR _,by simp[World.setCell,H.o.2.2],i⟩
def xW(h:bz w v p D L G ps ho):ZQ ZL 105 #[Z6 (J ⟨v,0,U⟩)] w λe w'=>e=Z3 (.agg #[I O D,I O L,I O G])/\bW w w':=(ga h).mono λ_ _ q=>⟨q.1,q.2.1⟩
theorem dY(h:bz w v p D L G ps ho)(f:D<=1000):ZQ ZL 93 #[Z6 (J ⟨v,0,U⟩)] w λe w'=>e=Z3 (I O ((D*44:Nat):Int))/\w'=w:=by obtain⟨c0,c1,b,c,d⟩:=h.cells;have a:((D*44:Nat):Int)=(D:Int)*44:=V;rw[a];go_enter func93,ntmps93;go_wp2;go_ret;exact⟨rfl,rfl⟩
theorem lz{a:Nat}{off:Bool}(d:bh w a v D' L' G' t f n pg ob off)(h:bz w v p D L G ps ho)(i:1<=D)(c:D<=1000):ZQ ZL 138 #[Z6 (J ⟨a,0,U⟩)] w λe w'=>e=Z3 (I O ((D*44-4:Nat):Int))/\w'=w:=by obtain⟨c0,_⟩:=d.cells;have b:((D*44-4:Nat):Int)=((D*44:Nat):Int)-4:=V;rw[b];have g:=dY h c;have b1:D*44<=44000:=V;generalize D*44=q at*;go_enter func138,ntmps138;go_wp2_with fail;refine g.mono ?_;rintro e w'⟨rfl,rfl⟩;go_wp2;go_ret;exact⟨rfl,rfl⟩
theorem length_nil(w:ZT):ZQ ZL 97 #[Z5 U 0 0] w λe w'=>e=Z3 (I O 0)/\w'=w:=by go_enter func97,ntmps97;go_wp2;refine VD 1 ?_;rw[Vx];go_wp2;go_ret;exact⟨rfl,rfl⟩
section
attribute [local go_sem] Oper.semAt_some
def aI.keep(h:aI w)(e:w'.heap[1]?=w.heap[1]?):aI w':=λj a=>by rw[<-h j a];unfold World.cell?;rw[e]
def aI.lt(h:aI w):1<w.heap.size:=Ue (h 0 ec)
def cJ.keep(h:cJ w)(e:w'.heap[2]?=w.heap[2]?):cJ w':=λj a=>by rw[<-h j a];unfold World.cell?;rw[e]
structure xX(D L G:Nat):Prop where
 r:dA D L G=ZV
 d1:1<=D
 d:D<=12l1:1<=L
 l4:L<=4g:G<=4div:D%L=0s:D+L+G<=16
structure qP(w:ZT)(v p D L G ps ho:Nat)(A:an)(F:aC):Prop where
 vol:bz w v p D L G ps ho
 arr:ay w p A F
 laid:cJ w
 tab:aI w
 room:3<=w.heap.size
 v:¬F.S v
 g:¬F.S 2t:¬F.S 1n:A.n=D+L+G
 par:xX D L G
def qP.below{A:an}(h:qP w v p D L G ps ho A F){B:Nat}(a:ZR B w w')(b:w.heap.size<=B):qP w' v p D L G ps ho A F:=⟨h.vol.keep (a.block _ (TY h.vol.lt b)),h.arr.below a b,h.laid.below a (TY h.laid.lt b),h.tab.keep (a.block _ (TY h.tab.lt b)),TU h.room a.size,h.v,h.g,h.t,h.n,h.par⟩
def qP.turn{A A':an}(h:qP w v p D L G ps ho A F)(a:aa F.S w w')(b:ay w' p A' F)(c:A'.n=A.n):qP w' v p D L G ps ho A' F:=⟨h.vol.keep (a.block _ h.vol.lt h.v),b,h.laid.keep (a.block _ h.laid.lt h.g),h.tab.keep (a.block _ h.tab.lt h.t),TU h.room a.size,h.v,h.g,h.t,c.trans h.n,h.par⟩
def Mn{t8:Nat}{x:ZS}(e:fn.results=#[.cell t8 ty])(c:a.defers=[{target:=.collected D',args:=#[]}])(h8:a.tmps.getD t8 ZY=Z6 (J ⟨b,0,U⟩))(hl:∀w,w.heap[b]?=Z.heap[b]?->(loadVar ty ⟨b,0,U⟩).run ZL w=.ok x w)(hK:Z.heap[D']?=J (.deferred (J [])))(hD:b≠D')(hR:R (Z3 x) (Z.putObj D' (.deferred U))):bodyPostM Fence.wide n ZL fn R .ret a Z:=by obtain⟨f,g⟩:=a;simp only at c h8;subst c;refine⟨ej,.inl ⟨_,_,rfl,Wo hK,?_⟩⟩;have c0:=hl (Z.putObj D' (.deferred U)) (UI hD);refine⟨x,?_,hR⟩;have d:f[t8]?.getD ZY=Z6 (J ⟨b,0,U⟩):=ua h8;simp[results,e,asAddr,d,c0]
theorem Dn{s:Nat}(h:ZM Z b 123 (I Z8 s))(w:ZT)(e:w.heap[b]?=Z.heap[b]?):(loadVar 123 ⟨b,0,U⟩).run ZL w=.ok (I Z8 s) w:=by have a:w.cell? ⟨b,0,U⟩=J (I Z8 s):=(show ZM w b 123 (I Z8 s)from e.trans h).cell;simp[go_sem,a]
end
section
attribute [local go_sem] Oper.semAt_some
def jZ(f:Nat->Bool)(ds:a7):Nat:=ds.foldl (λs d=>if f d=ZV then s|||2^d else s) 0
def A2{f:Nat->Bool}(ds:a7){d:Nat}(h:f d=ZU):jZ f (ds++[d])=jZ f ds:=by unfold jZ;rw[Ws];simp[h]
def A3{f:Nat->Bool}(ds:a7){d:Nat}(h:f d=ZV):jZ f (ds++[d])=jZ f ds|||2^d:=by unfold jZ;rw[Ws];simp[h]
theorem nt(q:Nat->Bool)(l:a7)(h:∀d∈l,d<N):jZ q l<2^N:=by unfold jZ;suffices∀(l:a7)(s:Nat),(∀d∈l,d<N)->s<2^N->l.foldl (λs d=>if q d=ZV then s|||2^d else s) s<2^N from this l 0 h (Nat.pow_pos ec);intro l;induction l with|nil=>intro s _ a;exact a|cons d l ih=>
  intro s b a;refine ih _ (λx c=>b x ZA) ?_;show(if q d=ZV then s|||2^d else s)<2^N;split;.exact V5 a (VC ec (b d ej))
  .exact a
def A4(f:Nat->Bool)(ds:a7)(h:∀d∈ds,d<16):jZ f ds<65536:=nt (N:=16) f ds h
def uT(w:ZT)(b c f h:ZN)(d e g i:ZS):∃a,(((w.alloc (Z4 #[d] b)).alloc (Z4 #[e] c)).alloc (Z4 #[g] f)).alloc (Z4 #[i] h)=a/\(ZM a w.heap.size b d/\ZM a (w.heap.size+1) c e/\ZM a (w.heap.size+1+1) f g/\ZM a (w.heap.size+1+1+1) h i)/\a.heap.size=w.heap.size+4/\bW w a:=by have j:=Us (w.alloc (Z4 #[d] b)) c e;have k:=Us ((w.alloc (Z4 #[d] b)).alloc (Z4 #[e] c)) f g;have l:=Us (((w.alloc (Z4 #[d] b)).alloc (Z4 #[e] c)).alloc (Z4 #[g] f)) h i;simp only[Um]at j k l;exact⟨_,rfl,⟨(((Us w _ _).alloc _).alloc _).alloc _,(j.alloc _).alloc _,k.alloc _,l⟩,ej,(((bA w _).alloc ej _).alloc ek _).alloc ek _⟩
def pH{l Bs S:Nat}(j:S<65536){s:List (Mb S)->ZT->Prop}{Jp:List PanicEntry->ZT->Prop}(g:∀pre W,s pre W->aI W)(k:∀pre x c,s pre c->True->YieldAt Fence.wide m ZL l (ph x) c λe a=>(e=Z3 (Z1 ZV)/\s (pre++[x]) a/\CC N c a)\/∃d,e=.panicked d/\Jp d a){W:ZT}(h:W.cell? ⟨Bs,0,U⟩=J (I Z8 S))(f:s [] W):CallsIn Fence.wide n ZL 154 #[.func (.yield l) #[] #[],Z6 (J ⟨Bs,0,U⟩)] W λe a=>((∃v,e=Z3 v)/\∃pre,dF pre=ae S/\s pre a)\/∃d,e=.panicked d/\Jp d a:=by
 refine(pr n l Bs S j s (λ_ _=>False) Jp (λpre x c i _=>(k pre x c i trivial).mono ?_) W h (g _ _ f) f).mono ?_
 . rintro e a(⟨rfl,b,_⟩|q);.exact .inl ⟨rfl,b,λ_=>g _ _ b⟩
   .exact .inr (.inr q)
 . rintro e a(⟨q,⟨p,b,o⟩|⟨_,_,b⟩⟩|q);.exact .inl ⟨q,p,b,o⟩
   .exact b.elim
   .exact .inr q
def iG(A:an)(ds:a7)(b:Nat)(f:Nat->bF)(B:an):Prop:=∃pre d,(∀i∈pre,i∈ds)/\d∈ds/\A.lost d=ZU/\B=(A.putAt pre b f).RY d b
def bC.mono{w:ZT}{p:Nat}{F:aC}{C C':an->Prop}(h:bC w p F C e w')(a:∀B,C B->C' B):bC w p F C' e w':=⟨h.1,h.2.1,h.2.2.1.imp λ_ q=>⟨a _ q.1,q.2⟩,h.2.2.2⟩
def bC.pan{w:ZT}{p:Nat}{F:aC}{C:an->Prop}(h:bC w p F C e w'):∃a,e=.panicked a:=h.2.1.elim λ_ q=>q.elim λ_ q=>q.elim λ_ q=>⟨_,q.1⟩
def bC.no{w:ZT}{p:Nat}{F:aC}{C:an->Prop}(h:bC w p F C e w')(a:F.pw=ZV):False:=by have:=h.1;rw[a]at this;cases this
def bC.start{w:ZT}{p:Nat}{F:aC}{C:an->Prop}(h:bC w p F C e w')(a:aa F.S w0 w):bC w0 p F C e w':=⟨h.1,h.2.1,h.2.2.1,a.trans h.2.2.2⟩
structure Do(A:an)(T:Nat->Prop)(B:an):Prop where
 n:B.n=A.n
 nb:B.nb=A.nb
 lost:B.lost=A.lost
 sv:B.sv=A.sv
 at_:∀m,¬T m->∀i,B.bad i m=A.bad i m/\B.bl i m=A.bl i m/\B.rc i m=A.rc i m/\B.tn i m=A.tn i m
def Do.mono{A B:an}{T T':Nat->Prop}(h:Do A T B)(a:∀m,T m->T' m):Do A T' B:={h with at_:=λm b=>h.at_ m λq=>b (a m q)}
def Do.trans{A B C:an}{T:Nat->Prop}(h:Do A T B)(k:Do B T C):Do A T C:=⟨k.n.trans h.n,k.nb.trans h.nb,k.lost.trans h.lost,k.sv.trans h.sv,λm a i=>by obtain⟨b,c,d,e⟩:=h.at_ m a i;obtain⟨b1,b2,b3,b4⟩:=k.at_ m a i;exact⟨b1.trans b,b2.trans c,b3.trans d,b4.trans e⟩⟩
def iG.off{A B:an}{ds:a7}{b:Nat}{f:Nat->bF}(h:iG A ds b f B):Do A (·=b) B:=by obtain⟨pre,d,_,_,_,rfl⟩:=h;refine⟨rfl,rfl,rfl,rfl,λm a i=>?_⟩;simp[an.RY,an.putAt,show¬m=b from a]
def bC.keep{w:ZT}{p:Nat}{F:aC}{C:an->Prop}{Y:ZT}(h:bC w p F C e X)(c:∀k,F.S k->Y.heap[k]?=X.heap[k]?)(r:∀q d b,eF X q d b 13->eF Y q d b 13)(n:aa F.S w0 Y):bC w0 p F C e Y:=by obtain⟨f,⟨q,d,b,g,i⟩,⟨B,j,R,⟨l,a⟩,m⟩,_⟩:=h;refine⟨f,⟨q,d,b,g,r _ _ _ i⟩,⟨B,j,R,⟨(Uk (c _ a.sp)).trans l,a.keep λk o=>?_⟩,m⟩,n⟩;simp only[World.setCell,Vb,c k o]
def bC.put{w:ZT}{p:Nat}{F:aC}{C:an->Prop}{o o':Obj}(h:bC w p F C e X)(g:∀k,F.S k->k<D')(f:X.heap[D']?=J o)(ho:o.isCells=ZU)(i:aa F.S w0 (X.putObj D' o')):bC w0 p F C e (X.putObj D' o'):=h.keep (λk j=>UI (ia (g k j))) (λq d b c=>(UI λe=>by subst e;have a:X.heap[q]?=_:=c;rw[f]at a;cases a;cases ho).trans c) i
def bC.shut{w:ZT}{p:Nat}{F:aC}{C:an->Prop}(h:bC w p F C e X)(b:∀k,F.S k->k<w.heap.size)(f:w.heap.size<=D')(hK:X.heap[D']?=J (.deferred (J []))):bC w p F C e (X.putObj D' (.deferred U)):=h.put (λk c=>ia (b k c)) hK rfl (h.2.2.2.later (T:=λk=>w.heap.size<=k) ⟨rfl,rfl,rfl,L0,λk _ a=>UI V⟩ (λk d a=>V))
def pI{ch:List PanicEntry}(b:a.defers=[{target:=.collected D',args:=#[]}])(hK:Z.heap[D']?=J (.deferred (J [])))(hR:R (.panicked ch) (Z.putObj D' (.deferred U))):bodyPostM Fence.wide n ZL fn R (.panic ch) a Z:=by obtain⟨d,c⟩:=a;simp only at b;subst b;exact⟨ej,.inl ⟨_,_,rfl,Wo hK,hR⟩⟩
structure xK(w:ZT)(v p b:Nat)(T:ZN)(u:ZS)(f:Nat->bF)(A:an)(F:aC)(B S:Nat)(pre:List (Mb S))(X:ZT):Prop where
 b0:ZM X w.heap.size 130 (Z6 (J ⟨v,0,U⟩))b1:ZM X (w.heap.size+1) 3 (I O b)b2:ZM X (w.heap.size+1+1) T u
 b3:ZM X (w.heap.size+1+1+1) 123 (I Z8 (jZ A.lost (dF pre):Nat))arr:ay X p (A.putAt (dF pre) b f) F
 out:aa F.S w X
 size:B<=X.heap.size
section
variable {w:ZT}{v p D L G ps ho b:Nat}{T:ZN}{u:ZS}{f:Nat->bF}{A:an}{F:aC}{B S:Nat}
def xK.mono(s:w.heap.size+4<=B)(r:∀k,F.S k->k<w.heap.size){pre:List (Mb S)}{X Y:ZT}(h:xK w v p b T u f A F B S pre X)(c:ZR B X Y):xK w v p b T u f A F B S pre Y:=by obtain⟨d,e,g,i,j,l,m⟩:=h;have a:∀k,k<w.heap.size+4->Y.heap[k]?=X.heap[k]?:=λk a=>c.block k V;exact⟨(a _ V).trans d,(a _ V).trans e,(a _ V).trans g,(a _ V).trans i,j.keep λk n=>a k (ia (r k n)),l.later (T:=λk=>w.heap.size<=k) ⟨c.os,c.tape,c.output,c.size,λk o q=>a k V⟩ (λk o q=>V),TU m c.size⟩
def xK.own(c:w.heap.size+4<=B)(d:∀k,F.S k->k<w.heap.size):OwnFrom B (xK w v p b T u f A F B S):=λpre X Y _ h a i=>xK.mono c d h ⟨a.os,a.tape,a.output,a.size,λk g=>a.block k (TY g h.size) λe=>ia ((i k e.symm).1)⟩
def xK.next{pre:List (Mb S)}{x:Mb S}(z:qP w v p D L G ps ho A F)(a:xK w v p b T u f A F B S pre X)(H:w.heap.size+4<=B)(y:ay w2 p (A.putAt (dF pre++[x.1]) b f) F)(h:aa F.S X w2):∀Y,(Y=w2/\jZ A.lost (dF pre++[x.1])=jZ A.lost (dF pre))\/Y=w2.setCell ⟨w.heap.size+1+1+1,0,U⟩ (I Z8 (jZ A.lost (dF pre++[x.1]):Nat))->xK w v p b T u f A F B S (pre++[x]) Y/\CC B X Y:=λY i=>by
 have l:∀k,F.S k->k<w.heap.size:=λk c=>z.arr.RL c;have g:∀k,w.heap.size<=k->k<X.heap.size->w2.heap[k]?=X.heap[k]?:=λk c s=>h.block k s (λq=>ia (l k q));have d:∀k,k≠w.heap.size+1+1+1->Y.heap[k]?=w2.heap[k]?:=λk c=>by
  rcases i with⟨rfl,_⟩|rfl;.rfl
  .exact Uc _ _ _ _ c
 have j:Y.heap.size=w2.heap.size/\Y.os=w2.os/\Y.tape=w2.tape/\Y.output=w2.output:=by
  rcases i with⟨rfl,_⟩|rfl;.exact⟨rfl,rfl,rfl,rfl⟩
  .exact⟨oD,rfl,rfl,rfl⟩
 have n:=a.b3.lt;have:=h.size;have:=a.size;have r:aa F.S w Y:=(a.out.trans h).later (T:=λk=>k=w.heap.size+1+1+1) ⟨j.2.1,j.2.2.1,j.2.2.2,V,λk _ t=>d k t⟩ (λk C E=>V);have m:ZM w2 (w.heap.size+1+1+1) 123 (I Z8 (jZ A.lost (dF pre):Nat)):=(g _ V n).trans a.b3;refine⟨⟨(d _ V).trans ((g _ V V).trans a.b0),(d _ V).trans ((g _ V V).trans a.b1),(d _ V).trans ((g _ V V).trans a.b2),?_,by rw[fR];exact y.keep λk c=>d k (ia (l k c)),r,V⟩,V,λk o c ho _=>((d k V).trans (g k V (TX.1 ho).1)).trans ho⟩;rw[fR];rcases i with⟨rfl,e⟩|rfl;.rw[e];exact m
 .exact m.set _
def xK.cut{pre:List (Mb S)}{x:Mb S}(g:xK w v p b T u f A F B S pre X)(r:∀k,F.S k->k<w.heap.size)(s:w.heap.size+4<=B)(hl:A.lost x.1=ZU)(h:bC X p F (·=(A.putAt (dF pre) b f).RY x.1 b) e w2):∃a,e=.panicked a/\LM B (xK w v p b T u f A F B S) (λa X=>bC w p F (iG A (ae S) b f) (.panicked a) X) (pre++[x]) X (.panic a) {tmps:=#[],defers:=[]} w2:=by obtain⟨l,⟨q,d,j,rfl,m⟩,⟨_,rfl,n⟩,c⟩:=h;refine⟨_,rfl,rfl,⟨l,⟨q,d,j,rfl,m⟩,⟨_,⟨dF pre,x.1,λi g=>?_,bL.2 x.2,hl,rfl⟩,n⟩,g.out.trans c⟩,c.size,λk o t ho _=>(c.block k (TX.1 ho).1 λq=>ia (r k q)).trans ho⟩;obtain⟨y,_,rfl⟩:=T9.1 g;exact bL.2 y.2
def xK.done{pre:List (Mb S)}(c:xK w v p b T u f A F B S pre X)(g:dF pre=ae S)(j:∀k,F.S k->k<w.heap.size)(o:fn.results=#[.cell 8 123])(l:a.defers=[{target:=.collected D',args:=#[]}])(h8:a.tmps.getD 8 ZY=Z6 (J ⟨w.heap.size+1+1+1,0,U⟩))(hK:X.heap[D']?=J (.deferred (J [])))(hD:B<=D')(hB:w.heap.size+4<=B):bodyPostM Fence.wide n ZL fn (λe w'=>(e=Z3 (I Z8 (jZ A.lost (ae S):Nat))/\ay w' p (A.putAt (ae S) b f) F/\aa F.S w w')\/bC w p F (iG A (ae S) b f) e w') .ret a (X.setCell ⟨w.heap.size+1+1+1,0,U⟩ (I Z8 (jZ A.lost (dF pre):Nat))):=by
 have h:=(V6 X ⟨w.heap.size+1+1+1,0,U⟩ (I Z8 (jZ A.lost (dF pre):Nat))).same D' _ hK rfl;refine Mn (b:=w.heap.size+1+1+1) (t8:=8) o l h8 (Dn (s:=jZ A.lost (dF pre)) (c.b3.set _)) h V (.inl ⟨by rw[g],?_,?_⟩);.have d:=c.arr;rw[g]at d;exact d.keep λk m=>by have:=j k m;exact(UI V).trans (Uc _ _ _ _ (by show k≠w.heap.size+1+1+1;omega))
 .exact c.out.later (T:=λk=>w.heap.size<=k) ⟨rfl,rfl,rfl,by simp[World.setCell,World.putObj],λk _ i=>(UI V).trans (Uc _ _ _ _ (by show k≠w.heap.size+1+1+1;omega))⟩ (λk q i=>V)
end
theorem fJ{w:ZT}{v p D L G ps ho:Nat}{A:an}{F:aC}(m:qP w v p D L G ps ho A F)(b S:Nat)(hb:b<A.nb)(hS:S<65536)(k9:∀i,i∈ae S->i<A.n)(r:bF)(hr:r.ok):ZQ ZL 127 #[Z6 (J ⟨v,0,U⟩),I O b,ef r,I Z8 S] w λe w'=>(e=Z3 (I Z8 (jZ A.lost (ae S):Nat))/\ay w' p (A.putAt (ae S) b (λ_=>r)) F/\aa F.S w w')\/bC w p F (iG A (ae S) b λ_=>r) e w':=by
 obtain⟨rv,M⟩:=nM (ef r);have kb:∃ty u,rv=.iface ty u:=by cases r<;>exact⟨_,_,M.symm⟩
 obtain⟨ty,u,rfl⟩:=kb;rw[M];have HR:=ak M;clear M;have z:∀k,F.S k->k<w.heap.size:=λk hk=>m.arr.RL hk;refine ln func127 rfl ?_;simp only[ntmps127,UK,UC,U0,Nat.reduceAdd,Nat.reduceSub,Vf,Vg,Vh,Vi,Ut,U1];obtain⟨n,HN⟩:∃n:Nat,cL (9<=n):=⟨9,TV _⟩;refine gS (jO (n:=n) ?_);gi_wp2;obtain⟨a,hz,⟨h0,h1,h2,h3⟩,V',hv⟩:=uT w 130 3 219 123 (Z6 (J ⟨v,0,U⟩)) (I O (b:Int)) (.iface ty u) (I Z8 0);rw[hz];clear hz;refine gS (gS (jO (n:=n) ?_));gi_wp2;refine cM (eo S a) ?_;rintro e w'⟨rfl,rfl⟩;have k5:(a.alloc (Z4 #[I Z8 (S:Int)] 123)).heap.size=a.heap.size+1:=ej;have hx:(a.alloc (Z4 #[I Z8 (S:Int)] 123)).cell? ⟨a.heap.size,0,U⟩=J (I Z8 (S:Int)):=(Us a 123 (I Z8 (S:Int))).cell;have o:bW w (a.alloc (Z4 #[I Z8 (S:Int)] 123)):=hv.alloc V _;have hy:xK w v p b 219 (.iface ty u) (λ_=>r) A F (a.heap.size+1) S [] (a.alloc (Z4 #[I Z8 (S:Int)] 123)):=⟨h0.alloc _,h1.alloc _,h2.alloc _,h3.alloc _,by rw[show dF ([]:List (Mb S))=[]from rfl,yQ];exact m.arr.below o lR,aa.RK o _,V⟩;obtain⟨N,k0⟩:=nM (a.alloc (Z4 #[I Z8 (S:Int)] 123));have hq:=ak hx;have Q:=al hy o;have k6:=ak V';clear hx hy h0 h1 h2 h3 hv o V';gi_wp2;obtain⟨V',ke⟩:w.heap.size+4<=a.heap.size/\a.heap.size<=w.heap.size+4:=ia k6.out;rw[k0]at k5 hq Q;clear k0;rw[<-k5]at Q;have hj:∀pre X,xK w v p b 219 (.iface ty u) (λ_=>r) A F N.heap.size S pre X->aI X:=λpre X c=>m.tab.keep (c.out.block _ m.tab.lt m.t);refine qY (uG (n:=n) n func127 (w:=N) (gf:=154) (lb:=#[Z6 (J ⟨a.heap.size,0,U⟩)]) rfl (U9 func154 ee rfl) (encs:=ph (s:=S)) (λ_=>rfl) (λpre x=>pre++[x]) (λ_=>True) (xK w v p b 219 (.iface ty u) (λ_=>r) A F N.heap.size S) (xK.own V z) (λO' X=>bC w p F (iG A (ae S) b λ_=>r) (.panicked O') X) (λpre=>dF pre=ae S) [] ?call Q.out.1 (λ_ x a' _=>a'={tmps:=#[Z6 (J ⟨v,0,U⟩),I O (b:Int),.iface ty u,I Z8 (S:Int),Z6 (J ⟨w.heap.size,0,U⟩),Z6 (J ⟨w.heap.size+1,0,U⟩),Z6 (J ⟨w.heap.size+1+1,0,U⟩),ZY,Z6 (J ⟨w.heap.size+1+1+1,0,U⟩),I O (x.1:Int),I Z8 (S:Int),.func (.func 154) #[] #[Z6 (J ⟨a.heap.size,0,U⟩)],I O (x.1:Int),ZY,ZY,ZY,ZY,ZY,ZY,ZY,ZY,ZY,ZY],defers:=[]}) (λ_ _ _ _ _ h _=>h) ?assign ?body ?done ?pan);case call=>intro l J' Jp W hW _ _ k8 hY k7;exact pH hS (λpre W q=>hj _ _ (k8 pre W q).1) hY ((hW.cell (p:=⟨a.heap.size,0,U⟩) (by show a.heap.size<N.heap.size;omega)).trans hq.out) k7
 case assign=>intro l pre x X K _ _ hK;unfold ph;gi_wp2;exact hK _ _ (TW _ _) rfl
 case body=>
  rintro l B pre x a' X hl kg kf-c-rfl;have kc:x.1∈ae S:=bL.2 x.2;have H:=m.turn c.out c.arr rfl;have kh:=A4 A.lost (dF pre) (λd hd=>by obtain⟨y,_,rfl⟩:=T9.1 hd;exact y.2.1);have P:=pG H.vol H.arr x.1 b (k9 _ kc) hb r hr H.laid;rw[HR.o]at P;have c0:=c.b0.cell;have c1:=c.b1.cell;have c2:=c.b2.cell;have g:=ak c;clear c H;gi_wp2;refine dJ P ?_;clear P c0 c1 c2;rintro e w2(⟨y,rfl,C,E,ka⟩|⟨j,hcut⟩)
  . rw[uB A (dF pre) x.1 b (λ_=>r)]at C;have T:=g.o.next (w2:=w2) m V C E;have Z:=ak T;rcases ka with⟨j,rfl⟩|⟨j,q,rfl,-⟩;.have HL:=ak j;clear C T E j;gi_wp2;exact Z.o w2 (.inl ⟨rfl,A2 (f:=A.lost) _ HL.o⟩)
    .have R:ZM w2 (w.heap.size+1+1+1) 123 (I Z8 (jZ A.lost (dF pre):Nat)):=(E.block _ g.o.b3.lt (λq=>ia (z _ q))).trans g.o.b3;have d0:=R.cell;have d1:=R.frozen;have U':=fE (jZ A.lost (dF pre)) x.1 V V w2;rw[<-A3 (f:=A.lost) _ j]at U';unfold jQ;clear C E T R j;generalize jZ A.lost (dF pre)=ls at*;generalize jZ A.lost (dF pre++[x.1])=ki at*;gi_wp2;refine dJ U' ?_;rintro e w3⟨rfl,rfl⟩;clear U';gi_wp2;exact Z.o _ (.inr rfl)
  .obtain⟨O',rfl,Y⟩:=g.o.cut z V j hcut;exact Y
 case done=>rintro D' pre X hs h7 c hK;have c3:=c.b3.cell;have f3:=c.b3.frozen;have g:=au c hK h7;clear c hK h7;refine jO (n:=n) ?_;gi_wp2;exact g.o.1.done g.o.2.2 z results127 rfl rfl g.o.2.1 hs V
 case pan=>rintro D' O' X hs Y hK;exact pI rfl hK (.inr (Y.shut z V hK))
def O0(w:ZT)(base g:Nat)(R:List a7):Prop:=base<=g/\g<w.heap.size/\∀i(hi:i<R.length),∃b off c,w.cell? ⟨g,i,U⟩=J (Z5 (J ⟨b,off,U⟩) 44 c)/\base<=b/\b<w.heap.size/\w.rangeAt b off (aL R[i])/\R[i].length=44/\∀x∈R[i],x<256
def O0.keep{w:ZT}{R:List a7}(h:O0 w base g R)(f:w.heap.size<=w'.heap.size)(e:∀k,base<=k->k<w.heap.size->w'.heap[k]?=w.heap[k]?):O0 w' base g R:=by obtain⟨a,d,n⟩:=h;refine⟨a,TY d f,λi o=>?_⟩;obtain⟨b,off,c,q,l,m,r,s⟩:=n i o;exact⟨b,off,c,(Uk (e g a d)).trans q,l,TY m f,λj v p=>(Uk (e b l m)).trans (r j v p),s⟩
theorem lV{w:ZT}{v p D L G ps ho:Nat}{A:an}{F:aC}(H:qP w v p D L G ps ho A F)(b S:Nat)(hb:b<A.nb)(hS:S<65536)(kx:∀i,i∈ae S->i<A.n){g m c base:Nat}{R:List a7}(hR:O0 w base g R)(hy:∀i,i∈ae S->i<R.length)(hm:R.length<=m)(h4:∀k,F.S k->k<base):ZQ ZL 85 #[Z6 (J ⟨v,0,U⟩),I O b,Z5 (J ⟨g,0,U⟩) m c,I Z8 S] w λe w'=>(e=Z3 (I Z8 (jZ A.lost (ae S):Nat))/\ay w' p (A.putAt (ae S) b (λi=>.shard (R.getD i []))) F/\aa F.S w w')\/bC w p F (iG A (ae S) b λi=>.shard (R.getD i [])) e w':=by
 obtain⟨n,HN⟩:∃n:Nat,cL (9<=n):=⟨9,TV _⟩;have Q:∀k,F.S k->k<w.heap.size:=λk hk=>H.arr.RL hk;have k5:∀i,i∈ae S->(bF.shard (R.getD i [])).ok:=λi a=>by
  have km:=hy i a;obtain⟨_,_,_,_,_,_,_,q1,q2⟩:=hR.2.2 i km;have e:R.getD i []=R[i]:=by simp[km]
  rw[e];exact⟨q1,q2⟩
 refine ln func85 rfl ?_;simp only[ntmps85,UK,UC,U0,Nat.reduceAdd,Nat.reduceSub,Vf,Vg,Vh,Vi,Ut,U1];refine gS (jO (n:=n) ?_);gi_wp2;obtain⟨r,ko,⟨h0,V',N,h3⟩,kc,ki⟩:=uT w 130 3 84 123 (Z6 (J ⟨v,0,U⟩)) (I O (b:Int)) (Z5 (J ⟨g,0,U⟩) m c) (I Z8 0);rw[ko];clear ko;refine gS (gS (jO (n:=n) ?_));gi_wp2;refine cM (eo S r) ?_;rintro e w'⟨rfl,rfl⟩;have ke:(r.alloc (Z4 #[I Z8 (S:Int)] 123)).heap.size=r.heap.size+1:=ej;have k8:(r.alloc (Z4 #[I Z8 (S:Int)] 123)).cell? ⟨r.heap.size,0,U⟩=J (I Z8 (S:Int)):=(Us r 123 (I Z8 (S:Int))).cell;have Z:bW w (r.alloc (Z4 #[I Z8 (S:Int)] 123)):=ki.alloc V _;have kk:xK w v p b 84 (Z5 (J ⟨g,0,U⟩) m c) (λi=>.shard (R.getD i [])) A F (r.heap.size+1) S [] (r.alloc (Z4 #[I Z8 (S:Int)] 123)):=⟨h0.alloc _,V'.alloc _,N.alloc _,h3.alloc _,by rw[show dF ([]:List (Mb S))=[]from rfl,yQ];exact H.arr.below Z lR,aa.RK Z _,V⟩;obtain⟨w6,kp⟩:=nM (r.alloc (Z4 #[I Z8 (S:Int)] 123));have kf:=ak k8;have hr:=al kk Z;have kr:=ak kc;clear k8 kk h0 V' N h3 ki Z kc;gi_wp2;obtain⟨kc,q7⟩:w.heap.size+4<=r.heap.size/\r.heap.size<=w.heap.size+4:=ia kr.out;rw[kp]at ke kf hr;clear kp;rw[<-ke]at hr;have kb:∀pre X,xK w v p b 84 (Z5 (J ⟨g,0,U⟩) m c) (λi=>.shard (R.getD i [])) A F w6.heap.size S pre X->aI X:=λpre X a=>H.tab.keep (a.out.block _ H.tab.lt H.t);refine qY (uG (n:=n) n func85 (w:=w6) (gf:=154) (lb:=#[Z6 (J ⟨r.heap.size,0,U⟩)]) rfl (U9 func154 ee rfl) (encs:=ph (s:=S)) (λ_=>rfl) (λpre x=>pre++[x]) (λ_=>True) (xK w v p b 84 (Z5 (J ⟨g,0,U⟩) m c) (λi=>.shard (R.getD i [])) A F w6.heap.size S) (xK.own V Q) (λU' X=>bC w p F (iG A (ae S) b λi=>.shard (R.getD i [])) (.panicked U') X) (λpre=>dF pre=ae S) [] ?call hr.out.1 (λ_ x a' _=>a'={tmps:=#[Z6 (J ⟨v,0,U⟩),I O (b:Int),Z5 (J ⟨g,0,U⟩) m c,I Z8 (S:Int),Z6 (J ⟨w.heap.size,0,U⟩),Z6 (J ⟨w.heap.size+1,0,U⟩),Z6 (J ⟨w.heap.size+1+1,0,U⟩),ZY,Z6 (J ⟨w.heap.size+1+1+1,0,U⟩),I O (x.1:Int),I Z8 (S:Int),.func (.func 154) #[] #[Z6 (J ⟨r.heap.size,0,U⟩)],I O (x.1:Int),ZY,ZY,ZY,ZY,ZY,ZY,ZY,ZY,ZY,ZY,ZY,ZY,ZY,ZY,ZY,ZY,ZY],defers:=[]}) (λ_ _ _ _ _ h _=>h) ?assign ?body ?done ?pan);case call=>intro l J' Jp W hW _ _ kv hY ks;exact pH hS (λpre W q=>kb _ _ (kv pre W q).1) hY ((hW.cell (p:=⟨r.heap.size,0,U⟩) (by show r.heap.size<w6.heap.size;omega)).trans kf.out) ks
 case assign=>intro l pre x X K _ _ hK;unfold ph;gi_wp2;exact hK _ _ (TW _ _) rfl
 case body=>
  rintro l B pre x a' X hl qa q8-a-rfl;have hq:x.1∈ae S:=bL.2 x.2;have T:=H.turn a.out a.arr rfl;have C:O0 X base g R:=hR.keep a.out.size (λk hk q3=>a.out.block k q3 (λq=>ia (h4 k q)));have M:=au a T C;clear a T C;gi_wp2;obtain⟨a,T,C⟩:=M.o;obtain⟨bl,off,rc,kj,q9,ky,k6,k7,k8⟩:=C.2.2 x.1 (hy _ hq);have q6:=hy _ hq;obtain⟨sh,ka⟩:=nM (R[x.1]);have hx:R.getD x.1 []=sh:=by rw[<-ka];simp[q6]
  rw[ka]at k6 k7;have qb:(x.1:Int)<(m:Int):=V;have hj:(aL sh).toArray.size=44:=by rw[UK,aY,k7]
  have k9:∀w',aa F.S X w'->w'.cell? ⟨g,x.1,U⟩=J (Z5 (J ⟨bl,off,U⟩) 44 rc)/\w'.rangeAt bl off (aL sh):=λw' hO=>⟨(Uk (hO.block g C.2.1 λq=>by have:=h4 _ q;have:=C.1;omega)).trans kj,λj u hu=>(Uk (hO.block bl ky λq=>ia (h4 _ q))).trans (k6 j u hu)⟩;have h5:=λw'(V':ay w' p (A.putAt (dF pre) b (λi=>.shard (R.getD i []))) F)(N:qP w' v p D L G ps ho (A.putAt (dF pre) b (λi=>.shard (R.getD i []))) F)=>pG N.vol V' x.1 b (kx _ hq) hb _ (k5 _ hq) N.laid;rw[hx]at h5;obtain⟨k1,k2⟩:=k9 X (aa.refl _ _);refine bM (dK _) 99 [(0,ZV),(1,ZV),(2,ZV),(3,ZV),(4,ZV),(5,ZV),(6,ZV),(7,ZV),(8,ZV),(9,ZV),(10,ZV),(11,ZU),(12,ZV)] (λw'=>w'.cell? ⟨w.heap.size,0,U⟩=J (Z6 (J ⟨v,0,U⟩))/\w'.cell? ⟨w.heap.size+1,0,U⟩=J (I O b)/\w'.cell? ⟨w.heap.size+1+1,0,U⟩=J (Z5 (J ⟨g,0,U⟩) m c)/\w'.cell? ⟨g,x.1,U⟩=J (Z5 (J ⟨bl,off,U⟩) 44 rc)/\w'.rangeAt bl off (aL sh)) ee ee ⟨a.b0.cell,a.b1.cell,a.b2.cell,k1,k2⟩ ?_;iterate 8 refine bE ?_
  refine cZ rfl rfl ⟨_,λw' hS=>by simp[execOp,Act.eval,acT (P:=ZL) w' bl off 215 (aL sh) _ hS.2.2.2.2 adn rfl (by rw[aY,k7];kernel_rfl)];rfl,?_⟩;have k0:∀z:Array ZS,z.size=44->YI (λcs x=>cs.setIfInBounds x.snd x.fst) z (aL sh).toArray.zipIdx 0 44=(aL sh).toArray:=λz hz=>zv z _ 44 hz hj;have he:∀w',ay w' p (A.putAt (dF pre) b (λi=>.shard (R.getD i []))) F->qP w' v p D L G ps ho (A.putAt (dF pre) b (λi=>.shard (R.getD i []))) F->ZQ ZL 125 #[Z6 (J ⟨v,0,U⟩),I O (x.1:Nat),I O (b:Nat),.iface 217 (.agg (aL sh).toArray)] w' _:=h5;have o:=al he T;obtain⟨sa,hg⟩:=nM ((aL sh).toArray);rw[hg]at hj k0 o⊢;clear h5 he;iterate 2 refine bE ?_
  refine j9 (dK _) (o.o.1 X.drew (o.o.2.arr.keep λ_ _=>rfl) (o.o.2.below ((TW _ X).drew) lR)) rfl rfl nofun oB ?_;rintro e w2(⟨y,rfl,hv,kh,q5⟩|⟨E,hcut⟩);rotate_left;.refine .inr ?_;obtain⟨U',rfl,hp⟩:=a.cut Q V E (hcut.keep (w0:=X) (λ_ _=>rfl) (λ_ _ _ q=>q) ((aa.drew X).trans hcut.2.2.2));exact⟨U',rfl,λa' e=>⟨e,hp.2⟩⟩
  refine .inl ?_;rw[<-hx,uB A (dF pre) x.1 b (λi=>.shard (R.getD i []))]at hv;have Y:=(aa.drew X).trans kh;obtain⟨q1,q2⟩:=k9 w2 Y;have H2:=ak (a.next (w2:=w2) H V hv Y);have O':∀k,w.heap.size<=k->k<X.heap.size->w2.heap[k]?=X.heap[k]?:=λk hk kz=>Y.block k kz (λq=>ia (Q k q));have hs:ZM w2 (w.heap.size+1+1+1) 123 (I Z8 (jZ A.lost (dF pre):Nat)):=(O' _ V a.b3.lt).trans a.b3;have d0:=hs.cell;have d1:=hs.frozen;have q4:=A4 A.lost (dF pre) (λd hd=>by obtain⟨y,_,rfl⟩:=T9.1 hd;exact y.2.1);have hn:=fE (jZ A.lost (dF pre)) x.1 V V w2;have q0:=YL (We ((O' _ V a.b0.lt).trans a.b0)) (YL (We ((O' _ V a.b1.lt).trans a.b1)) (YL (We ((O' _ V a.b2.lt).trans a.b2)) (YL q1 q2)));clear hv kh Y a T C kj k6 k9 k1 k2 q1 q2 o hg ke hx ka O' hs q4;rcases q5 with⟨E,rfl⟩|⟨E,q,rfl,-⟩;. refine⟨_,rfl,λ_=>q0,?_⟩;simp only[Act.put,TZ,T5,T6];refine lT ?_;simp only[Act.put,TZ,T5,T6];rename_i hK;refine hK _ _ ?_;have HL:=ak E;clear hK q0 k0 hj hn d0 d1 E;gi_wp2;exact H2.o w2 (.inl ⟨rfl,A2 (f:=A.lost) _ HL.o⟩)
  . unfold jQ;refine⟨_,rfl,λ_=>q0,?_⟩;simp only[Act.put,TZ,T5,T6];refine lT ?_;simp only[Act.put,TZ,T5,T6];rename_i hK;refine hK _ _ ?_;rw[<-A3 (f:=A.lost) _ E]at hn;clear hK q0 k0 hj E;generalize jZ A.lost (dF pre)=ls at*;generalize jZ A.lost (dF pre++[x.1])=qc at*;gi_wp2;refine dJ hn ?_;rintro e w3⟨rfl,rfl⟩;clear hn;gi_wp2;exact H2.o _ (.inr rfl)
 case done=>rintro D' pre X kg hf a hK;have c3:=a.b3.cell;have f3:=a.b3.frozen;have M:=au a hK hf;clear a hK hf;refine jO (n:=n) ?_;gi_wp2;exact M.o.1.done M.o.2.2 Q results85 rfl rfl M.o.2.1 kg V
 case pan=>rintro D' U' X kg hp hK;exact pI rfl hK (.inr (hp.shut Q V hK))
end
def aaG(w0:ZT)(base D N:Nat)(M:Nat->List a7)(v i:ZS)(wr:ZT):Prop:=∃k T,k<=N/\i=I O (k:Nat)/\eS wr base v T/\dj T D (M k)/\ZR base w0 wr/\base<=wr.heap.size
theorem xY(D L G:Nat)(hr:dA D L G=ZV)(hD:D<=12)(hL:1<=L)(kr:L<=4)(hG:G<=4)(k7:D%L=0)(w:ZT):ZQ ZL 32 #[.agg #[I O D,I O L,I O G]] w λe w'=>∃v T,e=Z3 (ZZ #[v,I O 0])/\eS w' (w.heap.size+1) v T/\dj T D (aQ D L G)/\bW w w':=by
 obtain⟨Y,Z,ka,kb,kc⟩:=Uw Tryz.RX;have kf:=λg(X:g<L)=>CP (D:=D) k7 X;have hq:D/L<=D:=VU _ _;have hp:∀g,dh D L g=fI D (g*(D/L)) ((g+1)*(D/L)):=λ_=>rfl;have e1:wrap64 ((D:Int)/(L:Int))=((D/L:Nat):Int):=by rw[<-X1];exact ja V
 obtain⟨q,V'⟩:∃q,q=D/L:=⟨_,rfl⟩;rw[<-V']at e1 hq;have HF:cL (∀g,dh D L g=fI D (g*q) ((g+1)*q)):=by intro g;rw[V'];exact hp g
 have kj:cL (∀g,g<L->(g+1)*q<=D):=by intro g X;rw[V'];exact kf g X
 clear hp kf V';go_enter func32,ntmps32;go_wp2_with fail;refine(Fu D L G _).mono ?_;rintro e wa⟨rfl,F⟩;try change ZR _ _ _ at F
 rw[Uh]at F;have kh:=F.size;try change ZR _ _ _ at kh
 rw[Uh]at kh;obtain⟨H,o,J'⟩:=du F;go_wp2_with fail;go_loopw[5,6](λv i wr=>aaG (w.alloc (Z4 #[I O D,I O L,I O G] 31)) (w.heap.size+1) D D (λk=>[]++(YF k).map (dB D)) v i wr)(λ_ i _=>D-(intOf i).toNat);case atStart=>exact⟨0,[],T8 _,rfl,eS.nil _ _,dj.nil D,F,kh⟩
 case round=>
  clear F H o J';rename ZT=>wo;obtain⟨k,T,N,rfl,b,n,c,h⟩:=hrel;obtain⟨H,o,J'⟩:=du c;have r:=ak n;have z:=n.length;simp only[Ut,Uf,Vj]at z;have S:T.length<=20:=V;clear z n;by_cases E:k<D
  . go_wp2_with(first|(at_make;refine dq _ rfl (Z0 26) (Z0 26) rfl D D rfl rfl rfl V ?_;intro w1 m hb R;clear R;have hc:=m.cell k (ua E);have hf:=m.frozen k;have A:=m.set k 1;have a:=hb.setCell (p:=⟨wo.heap.size,k,U⟩) ej (I .u8 1))|(at_builtin;refine WH _ rfl (Z0 31) (Z0 33) 84 rfl (w.heap.size+1) 36 Y (Z5 U 0 0) 1 24 VP Z ka kb kc rfl ec _ T.length (T.map fV) rfl ((b.below a).alloc _).own ⟨w1.heap.size,0,U⟩ 1 1 [Z5 (J ⟨wo.heap.size,0,U⟩) D D] rfl rfl (nh _ _ ej _ _) HU eD V Zg  ?_;intro v' w2 y d Q));have O':=eS.append b a h lR A (CR D k) V d y;have l:=r.o.push wo.heap.size (dB D k);have u:=ez b c a h d;have C:=d.size;have kg:=a.size;try change ZR _ _ _ at C
    rw[Uh]at C;rw[UA,<-gG]at l;have K:=ak l;clear b y d Q A a c l;go_roundw;case rel=>exact⟨k+1,T++[(wo.heap.size,D,dB D k)],V,eT,O',K.out,u,V⟩
    case measure=>simp[intOf];omega
  . have P:D=k:=V;clear E N;subst P;go_wp2_with fail;go_loopw[5,9](λv i wr=>aaG (w.alloc (Z4 #[I O D,I O L,I O G] 31)) (w.heap.size+1) D L (λk=>(YF D).map (dB D)++(YF k).map (dh D L)) v i wr)(λ_ i _=>L-(intOf i).toNat);case atStart=>exact⟨0,T,T8 _,rfl,b,by dsimp only;rw[acH,Wi,Wj];exact r.o,c,h⟩
    case round=>
     clear b c H o J' r h S;rename ZT=>wo;obtain⟨k,T,N,rfl,b,n,c,h⟩:=hrel;obtain⟨H,o,J'⟩:=du c;have r:=ak n;have z:=n.length;simp only[Ua,Uf,Vj]at z;have S:T.length<=20:=V;clear z n;by_cases E:k<L
     . have ks:=kj.out k E;have ke:=HF.o k;have kk:k*q<=(k+1)*q:=WY _ V;have e2:wrap64 ((k:Int)*(q:Int))=((k*q:Nat):Int):=by rw[<-XF];exact ja V
       have e3:wrap64 (((k:Int)+1)*(q:Int))=(((k+1)*q:Nat):Int):=by
        have:((k:Int)+1)*(q:Int)=(((k+1)*q:Nat):Int):=by push_cast;rfl
        rw[this];exact ja V
       generalize k*q=s at*;generalize(k+1)*q=t at*;have ki:=ak ke;have E2:=ak e2;have W:=ak e3;clear ke e2 e3;go_wp2_with(at_make;refine dq _ rfl (Z0 47) (Z0 47) rfl D D rfl rfl rfl V ?_;intro w1 m a R;clear R);rw[<-nT D s]at m;go_loopw[11](λi wi=>∃j:Nat,s<=j/\j<=t/\i=I O j/\aM wi wo.heap.size (fI D s j)/\bW wo wi)(λi _=>t-(intOf i).toNat);case atStart=>exact⟨s,TV _,kk,by rw[E2.out],m,a⟩
       case round=>
        clear m a;obtain⟨j,km,ko,rfl,f,B⟩:=hrel;by_cases U':j<t
        . have ht:(j:Int)<wrap64 (((k:Int)+1)*(q:Int)):=(by rw[W.out];omega);have hc:=f.cell j (by simp[fI];omega);have hf:=f.frozen j;have M:=f.set j 1;rw[pt _ _ _ km]at M;have u:=B.setCell (p:=⟨wo.heap.size,j,U⟩) ej (I .u8 1);go_wp2;go_roundw;case rel=>exact⟨j+1,V,V,eT,M,u⟩
          case measure=>simp[intOf];omega
        . have ht:¬(j:Int)<wrap64 (((k:Int)+1)*(q:Int)):=(by rw[W.out];omega);have k9:t=j:=V;clear U' ko W;subst k9;rw[<-ki.out]at f;have A:=f;have a:=B;clear f B;go_wp2_with(at_builtin;refine WH _ rfl (Z0 63) (Z0 65) 84 rfl (w.heap.size+1) 36 Y (Z5 U 0 0) 1 24 VP Z ka kb kc rfl ec _ T.length (T.map fV) rfl ((b.below a).alloc _).own ⟨wr.heap.size,0,U⟩ 1 1 [Z5 (J ⟨wo.heap.size,0,U⟩) D D] rfl rfl (nh _ _ ej _ _) HU eD V Zg  ?_;intro v' w2 y d Q);have O':=eS.append b a h lR A (yZ D L k) V d y;have l:=r.o.push wo.heap.size (dh D L k);have u:=ez b c a h d;have C:=d.size;have kg:=a.size;try change ZR _ _ _ at C
          rw[Uh]at C;rw[UA,<-gG]at l;have K:=ak l;clear b y d Q A a c l;go_roundw;case rel=>exact⟨k+1,T++[(wo.heap.size,D,dh D L k)],V,eT,O',K.out,u,V⟩
          case measure=>simp[intOf];omega
     . have P:L=k:=V;clear E N;subst P;go_wp2_with fail;go_loopw[5,12](λv i wr=>aaG (w.alloc (Z4 #[I O D,I O L,I O G] 31)) (w.heap.size+1) D G (λk=>((YF D).map (dB D)++(YF L).map (dh D L))++(YF k).map (bQ D)) v i wr)(λ_ i _=>G-(intOf i).toNat);case atStart=>exact⟨0,T,T8 _,rfl,b,by dsimp only;rw[acH,Wi,Wj];exact r.o,c,h⟩
       case round=>
        clear b c H o J' r h S;rename ZT=>wo;obtain⟨k,T,N,rfl,b,n,c,h⟩:=hrel;obtain⟨H,o,J'⟩:=du c;have r:=ak n;have z:=n.length;simp only[Ua,Uf,Vj]at z;have S:T.length<=20:=V;clear z n;by_cases E:k<G
        . go_wp2_with(at_make;refine dq _ rfl (Z0 74) (Z0 74) rfl D D rfl rfl rfl V ?_;intro w1 m a R;clear R);rw[<-mz D k]at m;go_loopw[14](λi wi=>∃j:Nat,j<=D/\i=I O j/\aM wi wo.heap.size (eX D k j)/\bW wo wi)(λi _=>D-(intOf i).toNat);case atStart=>exact⟨0,T8 _,rfl,m,a⟩
          case round=>
           clear m a;obtain⟨j,hj,rfl,f,B⟩:=hrel;have k6:=du (c.trans (B.mono h));obtain⟨b0,b1,b2⟩:=k6;by_cases U':j<D
           . have hc:=f.cell j (by simp[eX];omega);have hf:=f.frozen j;obtain⟨kp,kv⟩:=CQ D k j hD V U';have M:=f.set j (gi ((D+k)^^^j));rw[nU]at M;have u:=B.setCell (p:=⟨wo.heap.size,j,U⟩) ej (I .u8 (gi ((D+k)^^^j)));generalize(D+k)^^^j=x at*;go_wp2_with(go_at_call 54;refine(CM x kp _).mono ?_;rintro e w'⟨rfl,rfl⟩);go_roundw;case rel=>exact⟨j+1,V,eT,M,u⟩
             case measure=>simp[intOf];omega
           . have k9:D=j:=V;clear U' hj;subst k9;rw[px]at f;have A:=f;have a:=B;clear f B;go_wp2_with(at_builtin;refine WH _ rfl (Z0 93) (Z0 95) 84 rfl (w.heap.size+1) 36 Y (Z5 U 0 0) 1 24 VP Z ka kb kc rfl ec _ T.length (T.map fV) rfl ((b.below a).alloc _).own ⟨wr.heap.size,0,U⟩ 1 1 [Z5 (J ⟨wo.heap.size,0,U⟩) D D] rfl rfl (nh _ _ ej _ _) HU eD V Zg  ?_;intro v' w2 y d Q);have O':=eS.append b a h lR A (uJ D k hD V) V d y;have l:=r.o.push wo.heap.size (bQ D k);have u:=ez b c a h d;have C:=d.size;have kg:=a.size;try change ZR _ _ _ at C
             rw[Uh]at C;rw[UA,<-gG]at l;have K:=ak l;clear b y d Q A a c l;go_roundw;case rel=>exact⟨k+1,T++[(wo.heap.size,D,bQ D k)],V,eT,O',K.out,u,V⟩
             case measure=>simp[intOf];omega
        .have P:G=k:=V;clear E N;subst P;go_wp2;go_ret2;refine⟨_,rfl,T,b,r.o,?_⟩;exact(bA _ _).trans (c.mono V)
section
open Go.ChangeShapes Go.WideShapes
def Tryz.own:ownKnob ZL.godebug=U:=ee
def Tryz.et:ZL.globalNamed "errors.errorType"=J 0:=ee
def Tryz.rt:(ZL.cutTypes.find? (λx=>x.1== "internal/reflectlite.rtype")).map (λx=>x.2)=J 167:=ee
def Tryz.oneRow:((YF 379).filter λt=>ZL.rowNamed t [101,114,114,111,114])=[51]:=ee
def Tryz.size:ZL.types.size=379:=ee
def bK(w:ZT):Prop:=w.cell? ⟨0,0,U⟩=J (.iface 167 (.agg #[Z6 (J ⟨3,51,U⟩)]))
def uU(h:laidMetH ZL [("errors.errorType",Rows.laid_errors_errorType)] W):bK W:=by have i:laidMet ZL [] W/\handlesMet ZL [("errors.errorType",Rows.laid_errors_errorType)] W:=h;obtain⟨name,u,ty,c,d,e,f,a⟩:=i.2 _ (Va.2 rfl);have g:name=[101,114,114,111,114]:=(UN c).symm;subst g;obtain rfl:=UN (Tryz.rt.symm.trans d);have b:ty∈(YF 379).filter λt=>ZL.rowNamed t [101,114,114,111,114]:=Vr.2 ⟨Ul.2 (by rw[<-Tryz.size];exact e),f⟩;rw[Tryz.oneRow]at b;obtain rfl:=Va.1 b;have j:typeHandle ZL 51=Z6 (J ⟨3,51,U⟩):=ee;rw[j]at a;unfold bK;simpa using World.var?_cell Tryz.et a 0
end
def fP(M:List a7)(D:List a7)(n:Nat):List a7:=M.map λrow=>dg row D n D.length
def nX(w:ZT){ops:Array Oper}{rest:List Oper}{o:Oper}{a:Act}{Q:Exit->Act->ZT->Prop}(h:o.guard=U)(l c:Operand)(e:o.op=Op.makeSlice 84 l c)(C:Int)(n:Nat)(hl:a.eval l=I O C)(g:a.eval c=I O C)(f:C=(n:Int))(i:n<=1000000)(hK:∀w',w'.rowIs w.heap.size 36 n (λ_=>Z5 U 0 0)->bW w w'->w'.heap.size=w.heap.size+1->wpList ZL ops Q rest (a.put o.dst (Z5 (J ⟨w.heap.size,0,U⟩) n n)) w'):wpList ZL ops Q (o::rest) a w:=by refine VZ h λK d=>?_;have b:=XX (P:=ZL) 84 36 (Z5 U 0 0) 24 VP Tryz.RX rfl .i64 .i64 n V V w;subst f;unfold Oper.wp;simp[execOp,e,hl,g,b,Result.andThen];exact d _ _ (hK _ (Xv w _ n _) (bA _ _) (Uh _ _))
def shv(T:List (Nat×Nat×a7))(i:Nat):ZS:=if i<T.length then fV (T.getD i (0,0,[]))else Z5 U 0 0
structure pJ(w:ZT)(base g N:Nat)(T:List (Nat×Nat×a7)):Prop where tab:w.rowIs g 36 N (shv T)row:∀p∈T,base<=p.1/\aM w p.1 p.2.2/\p.2.1<=p.2.2.length/\(p.2.1<=140737488355328/\p.2.2.length<=9223372036854775807)/\∀x∈p.2.2,x<256nodup:(T.map (λp=>p.1)).Nodup
def pJ.below(h:pJ w base g N T)(d:bW w w'):pJ w' base g N T:=⟨h.tab.of_block (d.block g h.tab.lt),λp e=>by obtain⟨a,b,c⟩:=h.row p e;exact⟨a,b.below d,c⟩,h.nodup⟩
theorem pJ.push(h:pJ w base g N T)(A:base<=b)(s:aM w b l)(B:n<=l.length)(hl:l.length<=140737488355328)(j:∀x∈l,x<256)(v:∀p∈T,p.1≠b):pJ (w.setCell ⟨g,T.length,U⟩ (Z5 (J ⟨b,0,U⟩) n l.length)) base g N (T++[(b,n,l)]):=by
 have r:∀c m,aM w c m->c≠g:=by intro c m f e;obtain⟨x,j,_⟩:=f;obtain⟨y,D,_⟩:=h.tab;rw[e,D]at j;simp at j
 refine⟨?_,λp d=>?_,?_⟩
 . refine(h.tab.set T.length (Z5 (J ⟨b,0,U⟩) n l.length)).congr λi E=>?_;unfold shv;by_cases e:i=T.length;.subst e;simp[fV]
   . rw[TS e];by_cases k:i<T.length;.rw[TT k,TT ek];simp[Vz k]
     .rw[TS k,TS ek]
 . rcases Ui.1 d with d|d;.obtain⟨t,o,u⟩:=h.row p d;exact⟨t,o.other (r _ _ o) _,u⟩
   .simp at d;subst d;exact⟨A,s.other (r _ _ s) _,B,⟨Zx,by show l.length<=9223372036854775807;omega⟩,j⟩
 .rw[Uz,U3];refine⟨h.nodup,ej,?_⟩;intro a z c f;obtain⟨q,C,rfl⟩:=T9.1 z;simp at f;subst f;exact v q C
theorem pJ.done(h:pJ w base g N T)(d:N=T.length)(f:base<=g)(j:N<=maxLen):eS w base (Z5 (J ⟨g,0,U⟩) N N) T:=by
 subst d;refine⟨⟨ej,.inr ?_⟩,h.row,h.nodup⟩;obtain⟨c,e,l,k⟩:=h.tab;refine⟨g,T.length,c,rfl,f,e,TV _,j,V,?_⟩;apply Ve;.simp;omega
 .intro i b a;simp at b a;have:=k i a;rw[V3 V]at this;simp at this;simp[this,shv,a]
def pJ.lt(h:pJ w base g N T):g<w.heap.size:=h.tab.lt
def EcR(w:ZT)(B g N n:Nat)(M D:List a7)(i:ZS)(wr:ZT):Prop:=∃k T,k<=N/\i=I O (k:Nat)/\pJ wr B g N T/\dj T n (fP (M.take k) D n)/\ZR B w wr/\B<=wr.heap.size
def aaH(w:ZT)(n:Nat)(M D:List a7)(x:ZS)(e:ZO)(w':ZT):Prop:=∃v T,e=Z3 (ZZ #[v,x])/\eS w' w.heap.size v T/\dj T n (fP M D n)/\bW w w'
def dj.at(h:dj T D M){i:Nat}(a:i<T.length)(b:i<M.length):T[i].2=(D,M[i]):=by have:=List.getElem_of_eq h (i:=i) (ua a);simpa using this
def Mo(D L G:Nat):(aQ D L G).length=D+L+G:=by simp[aQ];omega
def Mp(D L G:Nat){i:Nat}(b:i<(aQ D L G).length):((aQ D L G)[i]).length=D:=by
 have a:(aQ D L G)[i]∈aQ D L G:=T7 b;unfold aQ at a;rcases Ui.1 a with a|a
 . rcases Ui.1 a with a|a;.obtain⟨j,_,e⟩:=T9.1 a;unfold aQ;rw[<-e];simp[dB]
   .obtain⟨j,_,e⟩:=T9.1 a;unfold aQ;rw[<-e];simp[dh]
 .obtain⟨j,_,e⟩:=T9.1 a;unfold aQ;rw[<-e];simp[bQ]
def Jy(M D:List a7)(n k:Nat)(a:k<M.length):fP (M.take (k+1)) D n=fP (M.take k) D n++[dg M[k] D n D.length]:=by unfold fP;rw[acI a,Uz];rfl
theorem FT(D L G:Nat)(hr:dA D L G=ZV)(qd:1<=D)(hD:D<=12)(hL:1<=L)(q0:L<=4)(hG:G<=4)(ka:D%L=0)(vd:ZS)(Dt:List a7)(w:ZT)(V':Rd w vd Dt)(A:Dt.length=D)(q:Fit Dt):ZQ ZL 166 #[.agg #[I O D,I O L,I O G],vd] w λe w'=>aaH w (Dt.getD 0 []).length (aQ D L G) Dt .nilIface e w':=by
 have qf:(((Dt.length:Nat):Int)!=(D:Int))=ZU:=by rw[A];simp
 have C:0<Dt.length:=V;obtain⟨ao,c,rfl,hl,q6⟩:=id V';have q9:(Dt.getD 0 []).length<=4096:=by have:=(q 0 C);have Q:=this.2;rw[this.1]at Q;exact Q
 have X:∀i(h:i<Dt.length),(Dt[i]).length=(Dt.getD 0 []).length:=λi h=>(q i h).1;generalize hn:(Dt.getD 0 []).length=n at*;have hv:=ak X;have HF:=ak q;have hy:=ak A;clear q6 hn X q A;go_enter func166,ntmps166;go_wp2_with fail;refine(lx D L G hr hD hL q0 hG ka _).mono ?_;rintro e wa⟨v,T,rfl,s,E,j⟩;try change ZR _ _ _ at s
 try change ZR _ _ _ at j
 rw[Uh]at s j;have qa:=j.size;try change ZR _ _ _ at qa
 rw[Uh]at qa;obtain⟨p0,p1,p2⟩:=du j;have m:bW w wa:=(bA _ _).trans (j.mono V);have kk:=V'.mono m;go_wp2_with fail;refine(LX _ Dt _ kk C).mono ?_;rintro e wb⟨r,rfl,kr,rfl⟩;obtain rfl:r=ZV:=kr.2 HF.o;obtain⟨mo,hb,rfl,kp⟩:=s.slice;have g:=E.length;rw[Mo]at g;obtain⟨mg,rfl⟩:=kp (by intro e;rw[e]at g;simp at g;omega);have q2:T.length<=20:=V;have qc:=ak g;clear g kp kr;go_wp2_with(at_make;refine nX _ rfl (Z0 31) (Z0 31) rfl _ T.length rfl rfl rfl V ?_;intro wc W O' hz;clear hz);have kf:pJ wc wb.heap.size wb.heap.size T.length []:=⟨W.congr (λi _=>by simp[shv]),λp F=>by simp at F,ej⟩;have ks:=O'.size;generalize hM:aQ D L G=M at*;have HM:cL (∀i(h:i<M.length),(M[i]).length=D):=by intro i h;subst hM;exact Mp D L G h
 have P:=ak E;have kx:=ak hM;clear W hM E p0 p1 p2;go_loopw[35](λi wr=>EcR wb wb.heap.size wb.heap.size T.length n M Dt i wr)(λi _=>T.length-(intOf i).toNat);case atStart=>exact⟨0,[],T8 _,rfl,kf,rfl,O',ks⟩
 case round=>
  clear kf O' ks;rename ZT=>wo;obtain⟨k,S,hk,rfl,b,d,f,qb⟩:=hrel;have R:=P.o.length;have u:=d.length;unfold fP at u;rw[Uf,Uq]at u;by_cases z:k<T.length
  . have B:k<M.length:=V;have K:=s.below f;have km:=kk.mono f;have y:=K.So z;have a:=K.S7 z;have N:=P.o.at z B;have J':=HM.o k B;obtain⟨⟨rb,rn,rl⟩,kj⟩:∃p,p=T[k]:=⟨_,rfl⟩;rw[<-kj]at y a N;simp only[fV,Xo]at y a N;obtain⟨rfl,rfl⟩:=N;rw[UM V]at a;rw[J']at y a;have kh:S.length=k:=V;have U':=Jy M Dt n k B;have Z:=ak U';have Y:=ak d;have ky:=ak kh;have H:=ak J';clear U' d kh J' R u kj;go_wp2_with fail;refine(CJ _ _ M[k] Dt n wo (by rw[H.out]at*;exact a) km q9 hv.out (by rw[H.out,hy.out]) C).mono ?_;rintro e w2⟨b2,rfl,qe,ke,l⟩;have t:=b.below l;have q5:=t.tab.cell (i:=k) z;have q7:=t.tab.frozen k;have qh:=l.size;have qg:=b.lt;have kg:=t.push (n:=n) V ke (by rw[gE];omega) (by rw[gE];omega) (rh _ _ (λx hx=>a.lt x hx) _ _) (λp F=>ia ((b.row p F).2.1.lt));rw[gE,ky.out]at kg;have q3:=(f.trans (l.mono qb)).setCell (p:=⟨wb.heap.size,k,U⟩) lR (Z5 (J ⟨b2,0,U⟩) n n);have o:=Y.out.push b2 (dg M[k] Dt n Dt.length);rw[<-Z.out]at o;have kv:=ak o;generalize shv S k=ov at*;clear b t ke l f a y K km o Z Y H;go_wp2;go_roundw;case rel=>exact⟨k+1,_,V,eT,kg,kv.out,q3,by rw[YA];omega⟩
    case measure=>simp[intOf];omega
  .have q8:k=T.length:=V;have ko:k=M.length:=V;have kz:dj S n (fP M Dt n):=(by rw[ko,VE]at d;exact d);have ki:=b.done V lR eD;have q4:=m.trans (f.mono m.size);have q1:=ki.weaken (base':=w.heap.size) m.size;clear d b f ki q8 ko R u;go_wp2;go_ret2;exact⟨_,S,rfl,q1,by rw[kx.out];exact kz,q4⟩
def xZ:Array ZS->Nat->List ZS->Array ZS|cur,_,[]=>cur|cur,o,v::r=>xZ (cur.setIfInBounds o v) (o+1) r
def zB:∀(a:List ZS)(o:Nat)(cur:Array ZS),(xZ cur o a).size=cur.size|[],_,_=>rfl|v::r,o,cur=>by unfold xZ;rw[zB r];simp
def zC:∀(a:List ZS)(o:Nat)(cur:Array ZS),o+a.length<=cur.size->(xZ cur o a).toList.take (o+a.length)=cur.toList.take o++a
 |[],o,cur,_=>by simp[xZ]|v::r,o,cur,h=>by
  simp only[UC]at h⊢;unfold xZ;have:=zC r (o+1) (cur.setIfInBounds o v) ek;rw[(V:o+(r.length+1)=o+1+r.length),this,adj];have e:(cur.toList.set o v).take (o+1)=cur.toList.take o++[v]:=by rw[Vl,List.take_set_of_le (TV o),acO ek];rfl
  rw[e,UA];rfl
def jR:∀(a:List ZS)(o:Nat)(w:ZT){b:Nat}{cur:Array ZS}{t:ZN}{fr:Nat×Nat},w.heap[b]?=J (Z4 cur t fr)->(w.setCells b o a).heap[b]?=J (Z4 (xZ cur o a) t fr)|[],_,_,_,_,_,_,h=>h|v::r,o,w,b,cur,t,fr,h=>by show((w.setCell ⟨b,o,U⟩ v).setCells b (o+1) r).heap[b]?=_;exact jR r (o+1) _ (by simp[World.setCell,Vb,h])
def cV(w:ZT)(b o:Nat)(a:List ZS):w.grownBy (w.setCells b o a) (J b):=by obtain⟨d,f,g⟩:=jN b a o w;exact⟨d,f,g,by rw[jM];exact TV _,λk _ c=>aU b a o w k (λe=>c V2)⟩
theorem lW(w:ZT)(base:Nat)(t tx ty e:ZN)(i:TypeInfo)(z:ZS)(size bytes:Nat)(o:P.underlying t=J (.slice e))(h:P.info? e=J i)(C:i.zero=J z)(E:i.size=size)(Y:i.bytes=bytes)(N:z.cells.size=size)(v:ZS)(n:Nat)(xs:List ZS)(d:w.ownsRow base e size v n xs)(x:ZS)(m:Nat)(news:List ZS)(a:Src P size tx x m news w)(A:n+m<=maxLen)(y:(n+m)*bytes<=140737488355328)(D:base<=w.heap.size):∃p w',(Builtin.append_ #[t,tx] ty #[v,x]).run P w=.ok p w'/\w'.ownsRow base e size p (n+m) (xs++news)/\w.grownBy w' v.ownBlock/\(p.ownBlock=v.ownBlock\/p.ownBlock=J w.heap.size):=by
 subst E;subst Y;have:n+m<=9223372036854775807:=by simp only[maxLen]at A;omega
 have f:(xs++news).length=(n+m)*i.size:=by rw[Ua,d.1,a.newsLen,Xt]
 have grown:∀(old:Nat),∀(row:Option Nat),(w.drew.alloc (Z4 ((xs++news).toArray++Builtin.zeroCells z.cells (grownCap w (n+m) old e-(n+m))) e)).ownsRow base e i.size (Z5 (J ⟨w.heap.size,0,U⟩) (n+m) (grownCap w (n+m) old e)) (n+m) (xs++news)/\w.grownBy (w.drew.alloc (Z4 ((xs++news).toArray++Builtin.zeroCells z.cells (grownCap w (n+m) old e-(n+m))) e)) row:=by
  intro old row;have M:=acM w (n+m) old e;have r:grownCap w (n+m) old e<=maxLen:=acN w (n+m) old e A;refine⟨⟨f,.inr ⟨w.heap.size,_,_,rfl,D,acU w.drew _,M,r,?_,?_⟩⟩,⟨rfl,rfl,rfl,ej,λk l _=>(UE w.drew _ k l:_)⟩⟩;.rw[Array.size_append,UK,size_zeroCells,N,f,<-Xt];congr 1;omega
  .rw[Array.toList_append,<-f];exact Ye
 rcases d.2 with⟨rfl,rfl⟩|⟨g,cap,cur,rfl,H,s,S,r,B,F⟩
 . have O':xs=[]:=U2 (ua d.1);subst O';by_cases K:m=0;.subst K;have L:news=[]:=U2 (ua a.newsLen);subst L;refine⟨Z5 U 0 0,w,?_,UQ w base e i.size,⟨rfl,rfl,rfl,TV _,λ_ _ _=>rfl⟩,.inl rfl⟩;rcases a.kind with⟨Q,l⟩|l<;>simp[Builtin.append_,UP o,UP l,sizeOf,typeInfo,h,a.len,a.cells]
   .have b:=run_append_grow_src (P:=P) (w:=w) t tx ty e i z o h C U 0 0 [] (by simp[Builtin.firstCells]) x m news a V V (acL V (ua y));have c:=grown 0 (Value.ownBlock (Z5 U 0 0));simp only[Uj,Ut]at c b⊢;exact⟨_,_,b,c.1,c.2,.inr rfl⟩
 . by_cases q:n+m<=cap;.have G:n*i.size+news.length<=cur.size:=(by rw[a.newsLen,B,<-Xt];exact WY _ q);have b:=run_append_room_src (P:=P) (w:=w) t tx ty e i o h g 0 n cap x m news a q (λj J'=>by simp[World.cell?,s];omega) (λj J'=>adO);rw[Uj]at b;refine⟨_,_,b,⟨f,.inr ⟨g,cap,_,rfl,H,jR news _ w s,q,r,by rw[zB];exact B,?_⟩⟩,cV w g _ news,.inl rfl⟩;rw[Xt,<-a.newsLen,zC news _ cur G,F]
   .have holds:∀j u,xs[j]?=J u->w.cell? ((⟨g,0,U⟩:ZP).add j)=J u:=d.cells (g:=g) rfl;have b:=run_append_grow_src (P:=P) (w:=w) t tx ty e i z o h C (J ⟨g,0,U⟩) n cap xs (run_firstCells_some w.drew i.size n ⟨g,0,U⟩ n cap xs d.1 (ua holds)) x m news a V V (acL V y);have c:=grown cap (Value.ownBlock (Z5 (J ⟨g,0,U⟩) n cap));exact⟨_,_,b,c.1,c.2,.inr rfl⟩
def af(w:ZT){ops:Array Oper}{rest:List Oper}{o:Oper}{a:Act}{Q:Exit->Act->ZT->Prop}(g:o.guard=U)(s x:Operand)(t tx:ZN)(ho:o.op=.call {callee:=.builtin .append,args:=#[s,x],argTypes:=#[t,tx]})(base:Nat)(e:ZN)(i:TypeInfo)(z:ZS)(size bytes:Nat)(ht:P.underlying t=J (.slice e))(hi:P.info? e=J i)(hz:i.zero=J z)(h5:i.size=size)(h8:i.bytes=bytes)(ha:z.cells.size=size)(v:ZS)(n:Nat)(xs:List ZS)(hv:a.eval s=v)(h6:w.ownsRow base e size v n xs)(u:ZS)(hu:a.eval x=u)(m:Nat)(news:List ZS)(hs:Src P size tx u m news w)(h7:n+m<=maxLen)(h0:(n+m)*bytes<=140737488355328)(h1:base<=w.heap.size)(h:∀b w',w'.ownsRow base e size b (n+m) (xs++news)->w.grownBy w' v.ownBlock->(b.ownBlock=v.ownBlock\/b.ownBlock=J w.heap.size)->wpList P ops Q rest (a.put o.dst b) w'):wpList P ops Q (o::rest) a w:=by obtain⟨b,w',j,c,d,f⟩:=lW (P:=P) w base t tx o.type e i z size bytes ht hi hz h5 h8 ha v n xs h6 u m news hs h7 h0 h1;refine VZ g λK hK=>?_;unfold Oper.wp execOp;simp only[ho,resolve,invoke,builtin,UH,VN,UV,acQ,U5,Wi,hv,hu,j];exact hK _ _ (h b w' c d f)
def mid(f:Nat->ZS)(g F:Nat->Nat)(c off k j:Nat):ZS:=if off<=j/\j<off+k then I .u8 ((g j^^^gm c (F (j-off)):Nat):Int)else f j
def AdM(w:ZT)(b t N off k c tb fb foff:Nat)(f:Nat->ZS)(g F:Nat->Nat)(i:ZS)(wr:ZT):Prop:=∃j:Nat,j<=k/\i=I O j/\wr.rowIs b t N (mid f g F c off j)/\nj wr tb c/\(∀i,i<k->wr.cell? ⟨fb,foff+i,U⟩=J (I .u8 ((F i:Nat):Int)))/\w.grownBy wr (J b)
def Mq(f:Nat->ZS)(g F:Nat->Nat)(c off j x:Nat):mid f g F c off (j+1) x=if x=off+j then I .u8 ((g (off+j)^^^gm c (F j):Nat):Int)else mid f g F c off j x:=by
 unfold mid;by_cases h:x=off+j;.subst h;rw[TT rfl,TT V,WB]
 . rw[TS h];by_cases a:off<=x/\x<off+j;.rw[TT a,TT V]
   .rw[TS a,TS V]
theorem Mr(f:Nat->ZS)(g F:Nat->Nat)(c off:Nat):mid f g F c off 0=f:=by funext j;unfold mid;rw[TS V]
theorem Mt{f:Nat->ZS}{g F:Nat->Nat}{off:Nat}(a:∀j,off<=j->j<off+n->f j=I .u8 ((g j:Nat):Int))(j:Nat):mid f g F 0 off n j=f j:=by
 unfold mid;split;.rename_i h;rw[bO,UX,a j h.1 h.2]
 .rfl
theorem A5(b t N off n cap p d s c:Nat)(f:Nat->ZS)(g F:Nat->Nat)(w:ZT)(E:c<256)(B:w.rowIs b t N f)(C:∀j,off<=j->j<off+n->f j=I .u8 ((g j:Nat):Int))(P:∀j,g j<256)(L:∀j,F j<256)(hn:off+n<=N)(k6:n<=140737488355328)(V':∀i,i<n->w.cell? ⟨p,d+i,U⟩=J (I .u8 ((F i:Nat):Int)))(k7:p≠b\/d+n<=off\/off+n<=d):ZQ ZL 186 #[Z5 (J ⟨b,off,U⟩) n cap,Z5 (J ⟨p,d,U⟩) n s,I .u8 c] w λe w'=>e=Z3 (ZZ #[])/\w'.rowIs b t N (mid f g F c off n)/\w.grownBy w' (J b):=by
 by_cases J':c=0;.subst J';go_enter func186,ntmps186;go_wp2;exact Uv (v:=ZZ #[]) ZB rfl ⟨rfl,B.congr (λj _=>(Mt C j).symm),Wx _ _⟩
 . have ke:((c:Int)==0)=ZU:=vy;clear J';go_enter func186,ntmps186;go_wp2_with fail;refine(my c E _).mono ?_;rintro e w1⟨cs,rfl,kb,K,q⟩;have ka:=q.size;go_wp2_with(refine oC _ rfl (Z0 6) (Z0 11) rfl w1.heap.size c cs _ rfl rfl (UD w1 _) rfl kb K ?_;intro w2 Q r);have S:b<w.heap.size:=B.lt;have l:w.grownBy w2 U:=by
    refine⟨r.os.trans q.os,r.tape.trans q.tape,r.output.trans q.output,?_,λk H _=>?_⟩;.have:=r.size;rw[Uh]at this;omega
    .rw[r.block k G0 (by intro e;simp at e;omega),UE _ _ _ V,q.block k H]
   have Y:w2.rowIs b t N f:=B.of_block (l.block b S ej);have T:∀i,i<n->w2.cell? ⟨p,d+i,U⟩=J (I .u8 ((F i:Nat):Int)):=λi G=>by have:=V' i G;exact l.cell this ej
   have k0:w.grownBy w2 (J b):=⟨l.os,l.tape,l.output,l.size,λk H _=>l.block k H ej⟩;have kc:w1.heap.size≠b:=V;clear r l B V' K q ka S;go_loopw[17](λi wr=>AdM w b t N off n c w1.heap.size p d f g F i wr)(λi _=>n-(intOf i).toNat);case atStart=>exact⟨0,T8 _,rfl,by rw[Mr];exact Y,Q,T,k0⟩
   case round=>
    clear Q T k0 Y;obtain⟨j,R,rfl,u,z,A,D⟩:=hrel;by_cases k9:j<n
    . have c1:=u.cell (i:=off+j) V;have f1:=u.frozen (off+j);have c2:=A j k9;have o:mid f g F c off j (off+j)=I .u8 ((g (off+j):Nat):Int):=(by unfold mid;rw[TS V];exact C _ V V);rw[o]at c1;have X:=mv (g (off+j)) (gm c (F j)) (P _) (aV _ E);have Z:=(u.set (off+j) (I .u8 ((g (off+j)^^^gm c (F j):Nat):Int))).congr (λx _=>(Mq f g F c off j x).symm);have O':=sH z (a:=⟨b,off+j,U⟩) kc (I .u8 ((g (off+j)^^^gm c (F j):Nat):Int));have W:=fq D (off+j) (I .u8 ((g (off+j)^^^gm c (F j):Nat):Int));have U':∀i,i<n->(wr.setCell ⟨b,off+j,U⟩ (I .u8 ((g (off+j)^^^gm c (F j):Nat):Int))).cell? ⟨p,d+i,U⟩=J (I .u8 ((F i:Nat):Int)):=λi G=>by
       rw[<-A i G];by_cases k5:p=b;.exact adg _ _ _ _ (by intro e;have h1:off+j=d+i:=Uy Addr.off e;omega)
       .exact Uk (Uc _ _ _ _ k5)
      have M:=L j;have h:=aE Z O' U' W;have HT:=ak z;generalize F j=y at c2 X M h;generalize g (off+j)=x at c1 X h;clear o Z O' W U' u z A D P L C;go_wp2;go_region_with((go_at_call 208;refine(yY w1.heap.size c y E M _ (by exactλj R=>HT.o j R)).mono ?_;rintro e w'⟨rfl,m,rfl⟩));all_goals
       go_wp2;go_roundw;case rel=>exact⟨j+1,V,eT,h.o.1,h.o.2.1,h.o.2.2.1,⟨h.o.2.2.2.os,h.o.2.2.2.tape,h.o.2.2.2.output,h.o.2.2.2.size,h.o.2.2.2.block⟩⟩
       case measure=>simp[intOf];omega
    . have k8:j=n:=V;subst k8;clear z A;go_wp2;go_end0;exact⟨rfl,u,D⟩
def oP(C:Ck)(k:Nat):ZS:=if k<128 then I .u8 ((C.m (k/16) (k%16):Nat):Int)else if k=128 then I O (C.told:Int)else I O (C.count:Int)
def aH(w:ZT)(b:Nat)(C:Ck):Prop:=w.rowIs b 335 130 (oP C)
structure fh(C:Ck):Prop where
 byt:AD C
 le:C.told<=C.count
 Sg:C.count<=8
def aH.at(h:aH w b C)(r i:Nat)(c:r<8)(a:i<16):w.cell? ⟨b,r*16+i,U⟩=J (I .u8 ((C.m r i:Nat):Int)):=by have:=h.cell (i:=r*16+i) V;rw[this];unfold oP;rw[TT V,(V:(r*16+i)/16=r),(V:(r*16+i)%16=i)]
def aH.R9(h:aH w b C):w.cell? ⟨b,128,U⟩=J (I O (C.told:Int)):=h.cell (i:=128) ec
def aH.Sr(h:aH w b C):w.cell? ⟨b,129,U⟩=J (I O (C.count:Int)):=h.cell (i:=129) ec
def acr(C:Ck)(i:Nat)(wo:ZT)(v:ZS)(wr:ZT):Prop:=∃r:Nat,v=I O r/\C.told<=r/\r<=C.count/\(∀k,C.told<=k->k<r->C.m k i=0)/\wr=wo
def spV:Option Nat->ZS|some r=>ZZ #[I O (r:Int),Z1 ZV]|none=>ZZ #[I O 0,Z1 ZU]
theorem zD(b i:Nat)(C:Ck)(w:ZT)(h:aH w b C)(l:fh C)(s:i<16):ZQ ZL 223 #[Z6 (J ⟨b,0,U⟩),I O i] w λe w'=>e=Z3 (spV (dQ C i))/\w'=w:=by
 have ct:=h.R9;have u:=h.Sr;have n:=l.le;have x:=l.Sg;have y:(i:Int)<16:=V;go_enter func223,ntmps223;go_wp2;go_loopw[6](λv wr=>acr C i w v wr)(λv _=>C.count-(intOf v).toNat);case atStart=>exact⟨C.told,rfl,TV _,n,λk a b=>absurd b V,rfl⟩
 case round=>
  obtain⟨r,rfl,t,B,f,rfl⟩:=hrel;by_cases q:r<C.count
  . have c1:=h.at r i V s;have j:=ak f;clear f;have p:(r:Int)<C.count:=V;have A:(r:Int)<8:=V;by_cases d:C.m r i=0
    . rw[d]at c1;go_wp2;go_roundw;case rel=>exact⟨r+1,eT,V,V,λk a b=>by
       by_cases e:k=r;.rw[e];exact d
       .exact j.o k a V,rfl⟩
      case measure=>simp[intOf];omega
    .have z:((C.m r i:Nat):Int)≠0:=V;have c:=xN t q d j.o;have g:=ak c;clear c d;go_wp2;refine Uv (v:=ZZ #[I O (r:Int),Z1 ZV]) (by simp[results,results223]) rfl ?_;rw[g.o];exact⟨rfl,rfl⟩
  .have p:¬(r:Int)<C.count:=V;have c:=xO (C:=C) (i:=i) (λk a b=>f k a V);have g:=ak c;clear c f;go_wp2;refine Uv (v:=ZZ #[I O 0,Z1 ZU]) (by simp[results,results223]) rfl ?_;rw[g.o];exact⟨rfl,rfl⟩
def RdR(C:Ck)(i:Nat)(wo:ZT)(v:ZS)(wr:ZT):Prop:=∃r:Nat,v=I O r/\r<=C.told/\(∀k,k<r->C.m k i=0)/\wr=wo
theorem zE(b i:Nat)(C:Ck)(w:ZT)(j:aH w b C)(l:fh C)(s:i<16):ZQ ZL 227 #[Z6 (J ⟨b,0,U⟩),I O i] w λe w'=>e=Z3 (Z1 (cY C i))/\w'=w:=by
 have ct:=j.R9;have t:=l.le;have u:=l.Sg;have x:(i:Int)<16:=V;go_enter func227,ntmps227;go_wp2;go_loopw[10](λv wr=>RdR C i w v wr)(λv _=>C.told-(intOf v).toNat);case atStart=>exact⟨0,rfl,T8 _,λk h=>absurd h V,rfl⟩
 case round=>
  obtain⟨r,rfl,A,f,rfl⟩:=hrel;by_cases q:r<C.told
  . have c1:=j.at r i V s;have n:=ak f;clear f;have p:(r:Int)<C.told:=V;have z:(r:Int)<8:=V;by_cases d:C.m r i=0
    . rw[d]at c1;go_wp2;go_roundw;case rel=>exact⟨r+1,eT,V,λk b=>by
       by_cases e:k=r;.rw[e];exact d
       .exact n.o k V,rfl⟩
      case measure=>simp[intOf];omega
    .have y:((C.m r i:Nat):Int)≠0:=V;have c:=sB q d;have g:=ak c;clear c d;go_wp2;go_ret;rw[g.o];exact⟨rfl,rfl⟩
  .have p:¬(r:Int)<C.told:=V;have c:=(iK (C:=C) (i:=i)).2 (λk a=>f k V);have g:=ak c;clear c f;go_wp2;go_ret;rw[g.o];exact⟨rfl,rfl⟩
def mb(C:Ck)(k r i:Nat):Ck:=⟨dy C.m k r i,C.told,C.count⟩
theorem Jz(m:Nat->Nat->Nat)(r i:Nat):dy m 0 r i=m:=by funext k j;unfold dy;rw[TS V]
def JA(m:Nat->Nat->Nat)(k r i:Nat):dy m k r i r=m r:=oR V
def zF(m:Nat->Nat->Nat)(k r i:Nat):dy m k r i k=m k:=oR V
theorem JB(m:Nat->Nat->Nat)(r i:Nat):dy m (r+1) r i=dy m r r i:=by
 funext k j;unfold dy;by_cases h:k<r/\k≠r;.rw[TT h,TT V]
 .rw[TS h,TS V]
def Mu(C:Ck)(k r i:Nat)(e:k≠r)(f:k<8)(x:Nat):mid (oP (mb C k r i)) (λx=>dy C.m k r i (x/16) (x%16)) (λj=>C.m r j) (gm (C.m k i) (gi (C.m r i))) (k*16) 16 x=oP (mb C (k+1) r i) x:=by
 unfold mid;by_cases h:k*16<=x/\x<k*16+16
 . rw[TT h];have c:x/16=k:=V;have d:x-k*16=x%16:=V;unfold oP;rw[TT V];show Value.int .u8 ((dy C.m k r i (x/16) (x%16)^^^gm _ (C.m r (x-k*16)):Nat):Int)=I .u8 ((dy C.m (k+1) r i (x/16) (x%16):Nat):Int);rw[c,d,zF];have:dy C.m (k+1) r i k (x%16)=C.m k (x%16)^^^gm (gm (C.m k i) (gi (C.m r i))) (C.m r (x%16)):=by unfold dy;rw[TT ⟨V,e⟩]
   rw[this]
 . rw[TS h];unfold oP;by_cases a:x<128
   . rw[TT a,TT a];have:dy C.m k r i (x/16) (x%16)=dy C.m (k+1) r i (x/16) (x%16):=by
      unfold dy;by_cases b:x/16<k/\x/16≠r;.rw[TT b,TT V]
      .rw[TS b,TS V]
     show Value.int .u8 ((dy C.m k r i (x/16) (x%16):Nat):Int)=I .u8 ((dy C.m (k+1) r i (x/16) (x%16):Nat):Int);rw[this]
   .rw[TS a,TS a];rfl
def OfR(w:ZT)(b r i:Nat)(C:Ck)(v:ZS)(wr:ZT):Prop:=∃k:Nat,v=I O k/\k<=C.count/\aH wr b (mb C k r i)/\w.grownBy wr (J b)
theorem rp(w:ZT)(b o:Nat):(Instr.sliceAt 265 (Z6 (J ⟨b,o,U⟩)) U U U).run ZL w=.ok (Z5 (J ⟨b,o,U⟩) 16 16) w:=by go_simp
theorem zG(b r i:Nat)(C:Ck)(w:ZT)(g:aH w b C)(d:fh C)(n:r<8)(l:i<16):ZQ ZL 225 #[Z6 (J ⟨b,0,U⟩),I O r,I O i] w λe w'=>e=Z3 (ZZ #[])/\aH w' b (mb C C.count r i)/\w.grownBy w' (J b):=by
 have R:=g.Sr;have c0:=g.at r i n l;have z:=d.Sg;have q:=d.byt r i;have W:(i:Int)<16:=V;have Z:(r:Int)<8:=V;have s:=ak (show aH w b (mb C 0 r i)by unfold mb;rw[Jz];exact g);go_enter func225,ntmps225;go_wp2_with fail;refine(tI (C.m r i) q _).mono ?_;rintro e w1⟨rfl,P⟩;have Q:=P.symm;subst Q;go_wp2;go_loopw[21](λv wr=>OfR w b r i C v wr)(λv _=>C.count-(intOf v).toNat);case atStart=>exact⟨0,rfl,T8 _,s.o,Wx _ _⟩
 case round=>
  rename ZT=>wo;obtain⟨k,rfl,T,a,f⟩:=hrel;by_cases Y:k<C.count
  . have B:(k:Int)<C.count:=V;by_cases h:k=r
    . have A:(k:Int)=(r:Int):=V;have t:cL (aH wo b (mb C (k+1) r i)):=ak (by unfold mb at*;rw[h]at a⊢;rw[JB];exact a);go_wp2;go_roundw;case rel=>exact⟨k+1,eT,V,t.o,f⟩
      case measure=>simp[intOf];omega
    . have A:(k:Int)≠(r:Int):=V;have X:(k:Int)<8:=V;have c1:=a.at k i V l;have u:(mb C k r i).m k i=C.m k i:=(by show dy C.m k r i k i=_;rw[zF]);rw[u]at c1;have p:=d.byt k i;have H:∀j,j<16->wo.cell? ⟨b,r*16+j,U⟩=J (I .u8 ((C.m r j:Nat):Int)):=λj K=>by have:=a.at r j n K;have y:(mb C k r i).m r j=C.m r j:=(by show dy C.m k r i r j=_;rw[JA]);rwa[y]at this
      have o:gm (C.m k i) (gi (C.m r i))<256:=aV _ p;have O':=Mu C k r i h V;have G:∀x,dy C.m k r i (x/16) (x%16)<256:=λx=>oS d.byt _ _;have D:=ak H;have F:=ak O';have E:=ak a;have U':=λw=>rp w b (k*16);have V':=λw=>rp w b (r*16);go_wp2;go_region_with(first|(go_at_call 200;refine(m9 (C.m k i) (gi (C.m r i)) p (dH q) _).mono ?_;rintro e w'⟨rfl,rfl⟩)|(go_at_call 186;refine(A5 b 335 130 (k*16) 16 16 b (r*16) 16 (gm (C.m k i) (gi (C.m r i))) (oP (mb C k r i)) (λx=>dy C.m k r i (x/16) (x%16)) (λj=>C.m r j) _ o (by exact E.out) (λj S z=>by unfold oP;rw[TT V];rfl) G (λj=>d.byt r j) V V (by exact D.out) (.inr V)).mono ?_;rintro e w'⟨rfl,M,c⟩));all_goals
       have N:aH w' b (mb C (k+1) r i):=M.congr (λx _=>F.out x);have J':w.grownBy w' (J b):=gW f ⟨c.os,c.tape,c.output,c.size,c.block⟩;go_wp2;go_roundw;case rel=>exact⟨k+1,eT,V,N,J'⟩
       case measure=>simp[intOf];omega
  . have L:k=C.count:=V;rw[L]at a;have B:¬(k:Int)<C.count:=V;go_wp2;go_end0;exact⟨rfl,a,f⟩
def rq(m:Nat->Nat->Nat)(r i j:Nat):Nat->Nat->Nat:=λk x=>if k=r/\x<j then gm (m r x) (gi (m r i))else m k x
def Q4(C:Ck)(r i j:Nat):Ck:=⟨rq C.m r i j,C.told,C.count⟩
theorem JC(m:Nat->Nat->Nat)(r i:Nat):rq m r i 0=m:=by funext k x;unfold rq;rw[TS V]
def Px(C:Ck)(r i j:Nat)(d:r<8)(c:j<16)(x:Nat):oP (Q4 C r i (j+1)) x=if x=r*16+j then I .u8 ((gm (C.m r j) (gi (C.m r i)):Nat):Int)else oP (Q4 C r i j) x:=by
 unfold oP;by_cases h:x=r*16+j;.rw[TT h,TT V];show Value.int .u8 ((rq C.m r i (j+1) (x/16) (x%16):Nat):Int)=_;unfold rq;rw[TT V,(V:x%16=j)]
 . rw[TS h];by_cases a:x<128
   . rw[TT a,TT a];have:rq C.m r i (j+1) (x/16) (x%16)=rq C.m r i j (x/16) (x%16):=by
      unfold rq;by_cases b:x/16=r/\x%16<j;.rw[TT b,TT V]
      .rw[TS b,TS V]
     show Value.int .u8 ((rq C.m r i (j+1) (x/16) (x%16):Nat):Int)=I .u8 ((rq C.m r i j (x/16) (x%16):Nat):Int);rw[this]
   .rw[TS a,TS a];rfl
def aaI(C:Ck)(r i x:Nat):oP (Q4 C r i 16) x=oP ⟨fs C.m r i,C.told,C.count⟩ x:=by
 unfold oP;by_cases a:x<128
 . rw[TT a,TT a];have:rq C.m r i 16 (x/16) (x%16)=fs C.m r i (x/16) (x%16):=by
    unfold rq fs;by_cases b:x/16=r;.rw[TT b,TT V]
    .rw[TS b,TS V]
   show Value.int .u8 ((rq C.m r i 16 (x/16) (x%16):Nat):Int)=I .u8 ((fs C.m r i (x/16) (x%16):Nat):Int);rw[this]
 .rw[TS a,TS a];rfl
theorem JD(cs:List ZS)(k:Nat)(v:ZS)(a:k<16)(b:cs[k]?=J v)(w:ZT):(Instr.index 265 (.agg cs.toArray) (I O (k:Int))).run ZL w=.ok v w:=by simp[Instr.index,UP X5,asIntOf,go_sem,part];rw[TT a,b];rfl
def gd(f:Nat->Nat):List ZS:=(YF 16).map (λj=>Value.int .u8 ((f j:Nat):Int))
def kG(f:Nat->Nat):(gd f).length=16:=by unfold gd;rw[Uf,Vj]
def tL(f:Nat->Nat)(j:Nat)(a:j<16):(gd f)[j]?=J (I .u8 ((f j:Nat):Int)):=by unfold gd;rw[UJ,WE a];rfl
def uV(h:aH w b C)(r:Nat)(d:r<8):w.rangeAt b (r*16) (gd (C.m r)):=λj v a=>by
 have c:j<16:=by have:=(Vd.1 a).1;rwa[kG]at this
 rw[tL _ _ c]at a;rw[<-a];exact h.at r j d c
def Tryz.Sj(f:Nat->Nat):(ZL.info? 265).map (λi=>i.size)=J (gd f).length:=by rw[kG];exact Tryz.SD
def ScR(w:ZT)(b r i:Nat)(C:Ck)(v:ZS)(wr:ZT):Prop:=∃k:Nat,v=I O k/\k<=16/\aH wr b (Q4 C r i k)/\w.grownBy wr (J b)
theorem Dp(b r i:Nat)(C:Ck)(w:ZT)(g:aH w b C)(l:fh C)(f:r<8)(F:i<16):ZQ ZL 224 #[Z6 (J ⟨b,0,U⟩),I O r,I O i] w λe w'=>e=Z3 (ZZ #[])/\aH w' b ⟨fs C.m r i,C.told,C.count⟩/\w.grownBy w' (J b):=by
 have c0:=g.at r i f F;have n:=l.byt r i;have L:(i:Int)<16:=V;have M:(r:Int)<8:=V;have p:=ak (show aH w b (Q4 C r i 0)by unfold Q4;rw[JC];exact g);have s:=ak (uV g r f);have q:cL (∀j,j<16->(gd (C.m r))[j]?=J (I .u8 ((C.m r j:Nat):Int))):=ak (tL (C.m r));have o:=ak (kG (C.m r));have t:=ak (Tryz.Sj (C.m r));generalize gd (C.m r)=cs at*;go_enter func224,ntmps224;go_wp2_with fail;refine(tI (C.m r i) n _).mono ?_;rintro e w1⟨rfl,G⟩;have D:=G.symm;subst D;go_wp2_with(refine ac6 rfl 265 (Z0 22) rfl b (r*16) rfl cs _ s.o X5 rfl t.o ?_);go_loopw[24](λv wr=>ScR w b r i C v wr)(λv _=>16-(intOf v).toNat);case atStart=>exact⟨0,rfl,T8 _,p.o,Wx _ _⟩
 case round=>
  rename ZT=>wo;obtain⟨k,rfl,N,c,h⟩:=hrel;by_cases d:k<16;. have u:(k:Int)<16:=V;have E:=q.o k d;have c1:=c.at r k f d;have Q:=c.frozen (r*16+k);have H:=l.byt r k;have B:aH (wo.setCell ⟨b,r*16+k,U⟩ (I .u8 ((gm (C.m r k) (gi (C.m r i)):Nat):Int))) b (Q4 C r i (k+1)):=(c.set (r*16+k) (I .u8 ((gm (C.m r k) (gi (C.m r i)):Nat):Int))).congr (λx _=>(Px C r i k f d x).symm);have y:=fq h (r*16+k) (I .u8 ((gm (C.m r k) (gi (C.m r i)):Nat):Int));have a:=al B y;generalize(Q4 C r i k).m r k=z at c1;have K:=JD cs k _ d E;go_wp2;go_region_with((go_at_call 200;refine(m9 (C.m r k) (gi (C.m r i)) H (dH n) _).mono ?_;rintro e w'⟨rfl,rfl⟩));all_goals
     go_wp2;go_roundw;case rel=>exact⟨k+1,eT,V,a.o.1,⟨a.o.2.os,a.o.2.tape,a.o.2.output,a.o.2.size,a.o.2.block⟩⟩
     case measure=>simp[intOf];omega
  . have A:k=16:=V;rw[A]at c;have u:¬(k:Int)<16:=V;go_wp2;go_end0;exact⟨rfl,c.congr (λx _=>aaI C r i x),h⟩
theorem sM:∀(a:List ZS)(o:Nat)(w:ZT)(f:Nat->ZS),w.rowIs b t n f->(w.setCells b o a).rowIs b t n (λx=>if o<=x/\x<o+a.length then a.getD (x-o) ZY else f x)|[],o,w,f,h=>h.congr (λi _=>by rw[TS ej])|v::a,o,w,f,h=>(sM a (o+1) _ _ (h.set o v)).congr (λi _=>by
  by_cases c:i=o;.subst c;rw[TS V,TT rfl,TT ej];simp
  . by_cases d:o+1<=i/\i<o+1+a.length;.rw[TT d,TT ek,(V:i-o=(i-(o+1))+1)];simp
    .rw[TS d,TS c,TS ek])
def pK:∀(a:List ZS)(o:Nat)(w w':ZT),w.grownBy w' (J b)->w.grownBy (w'.setCells b o a) (J b)|[],_,_,_,h=>h|v::a,o,w,_,h=>pK a (o+1) w _ (fq h o v)
def tq(m:Nat->Nat->Nat)(q:Nat)(f:Nat->Nat):Nat->Nat->Nat:=λk=>if k=q then f else m k
theorem tM(h:aH w b C)(q:Nat)(d:q<8)(f:Nat->Nat):aH (w.setCells b (q*16) (gd f)) b ⟨tq C.m q f,C.told,C.count⟩:=by
 refine(sM (gd f) (q*16) w (oP C) h).congr (λx _=>?_);rw[kG];unfold oP;by_cases c:q*16<=x/\x<q*16+16;.rw[TT c,TT V];show(gd f).getD (x-q*16) ZY=I .u8 ((tq C.m q f (x/16) (x%16):Nat):Int);have e:x/16=q:=V;unfold tq;rw[TT e,Ub,tL _ _ V,(V:x-q*16=x%16)];rfl
 . rw[TS c];by_cases a:x<128;.rw[TT a,TT a];show _=Value.int .u8 ((tq C.m q f (x/16) (x%16):Nat):Int);unfold tq;rw[TS V]
   .rw[TS a,TS a]
def Mw(f:Nat->Nat):(gd f).toArray.all (λv=>v.oneCell')=ZV:=by
 rw[X4];intro i a;have b:i<16:=by simpa[kG]using a
 have:=tL f i b;have e:(gd f).toArray[i]?=J (I .u8 ((f i:Nat):Int)):=ua this;rw[V3 a]at e;simp only[UF]at e;rw[e];rfl
def uW(h:aH w b C)(q:Nat)(c:q<8):w.there b (q*16) 16:=λj a=>⟨by rw[h.at q j c a];rfl,h.frozen _⟩
def tN(h:aH w b C)(q:Nat)(a:q<8):(Instr.loadAt 265 (Z6 (J ⟨b,q*16,U⟩))).run ZL w=.ok (.agg (gd (C.m q)).toArray) w:=acT w b (q*16) 265 (gd (C.m q)) _ (uV h q a) X5 rfl (Tryz.Sj _)
theorem zH(h:aH w b C)(n:Nat):aH (w.setCell ⟨b,129,U⟩ (I O (n:Int))) b ⟨C.m,C.told,n⟩:=(h.set 129 (I O (n:Int))).congr (λx d=>by
  unfold oP;by_cases e:x=129;.subst e;rw[TT rfl,TS ec,TS ec]
  . rw[TS e];by_cases a:x<128;.rw[TT a,TT a]
    . rw[TS a,TS a];by_cases c:x=128;.rw[TT c,TT c]
      .omega)
theorem Mx(h:aH w b C)(n:Nat):aH (w.setCell ⟨b,128,U⟩ (I O (n:Int))) b ⟨C.m,n,C.count⟩:=(h.set 128 (I O (n:Int))).congr (λx c=>by
  unfold oP;by_cases e:x=128;.subst e;rw[TT rfl,TS ec,TT rfl]
  . rw[TS e];by_cases a:x<128;.rw[TT a,TT a]
    .rw[TS a,TS a,TS e,TS e])
def FU(k n:Nat):fG (k+1) n=fG k n++[YE n 0]:=by unfold fG;rw[List.replicate_succ']
def MkR(w:ZT)(B g r n:Nat)(i:ZS)(wr:ZT):Prop:=∃k T,k<=r/\i=I O (k:Nat)/\pJ wr B g r T/\dj T n (fG k n)/\ZR B w wr/\B<=wr.heap.size
def aaJ(r n:Nat)(w:ZT)(e:ZO)(w':ZT):Prop:=∃g T,e=Z3 (Z5 (J ⟨g,0,U⟩) r r)/\eS w' w.heap.size (Z5 (J ⟨g,0,U⟩) r r) T/\dj T n (fG r n)/\bW w w'
def ry(h:dj T D M):T.length=M.length:=ua (Uy List.length h)
theorem A6(r n:Nat)(w:ZT)(N:r<=32)(M:n<=4096):ZQ ZL 185 #[I O r,I O n] w λe w'=>aaJ r n w e w':=by
 go_enter func185,ntmps185;go_wp2_with(at_make;refine nX _ rfl (Z0 7) (Z0 7) rfl _ r rfl rfl rfl V ?_;intro wc u m H;clear H);have v:pJ wc w.heap.size w.heap.size r []:=⟨u.congr (λi _=>by simp[shv]),λp g=>by simp at g,ej⟩;have E:=m.size;go_loopw[11](λi wr=>MkR w w.heap.size w.heap.size r n i wr)(λi _=>r-(intOf i).toNat);case atStart=>exact⟨0,[],T8 _,rfl,v,rfl,m,E⟩
 case round=>
  rename ZT=>wo;obtain⟨k,T,L,rfl,f,d,q,F⟩:=hrel;have z:=ry d;have y:T.length=k:=by rw[z];simp[fG]
  by_cases D:k<r;. have a:=ak d;go_wp2_with (at_make;refine dq _ rfl (Z0 16) (Z0 16) rfl _ n rfl rfl rfl V ?_;intro w2 B j K;have c:=f.below j;have o:=c.tab.cell (i:=k) D;have Q:=c.tab.frozen k);have h:=c.push (b:=wo.heap.size) (n:=n) (l:=YE n 0) V B ej ek (by intro x G;have:=VG G;omega) (λp g e=>ia ((f.row p g).2.1.lt));rw[y,XW]at h;refine⟨⟨k+1,_,V,eT,h,?_,(q.trans (j.mono F)).setCell ej _,ek⟩,iE⟩;have s:=a.o;unfold dj at s⊢;rw[FU,Uz,Uz,s];rfl
  .have A:k=r:=V;subst A;have C:=f.done V lR eD;have t:=ak C;have a:=ak d;go_wp2;go_ret;exact⟨_,T,rfl,t.o,a.o,q⟩
def My(w:ZT)(ty:ZN)(g n cap:Nat)(old src:a7)(ao:Option ZP)(c:Nat)(d:aM w g old)(A:Bs w (.slice ao src.length c) src)(C:src.length=n)(ho:old.length=n):∃w',(Builtin.copy_ #[36,36] ty #[Z5 (J ⟨g,0,U⟩) n cap,.slice ao src.length c]).run ZL w=.ok (I O (n:Nat)) w'/\aM w' g src/\w.grownBy w' (J g):=by
 subst C;have m:(ZL.info? 5).map (λi=>i.size)=J 1:=ee;by_cases a:src.length=0;.have z:src=[]:=U2 a;have y:old=[]:=U2 V;subst z y;exact⟨w,run_copy_none (P:=ZL) w 36 36 ty 5 (J ⟨g,0,U⟩) ao 0 cap 0 c Ur m ej,d,Wx _ _⟩
 . obtain⟨r,D,e,_,_,F,t⟩:=A;simp at e;obtain⟨b,off,f,B⟩:=t Zr;rw[<-e.1]at f;subst f;have h:=run_copy_row (P:=ZL) w 36 36 ty 5 g 0 src.length cap ⟨b,off,U⟩ src.length c _ 5 (bv src) Ur m d.heap (by simp[bv]) (λj v o=>by
    have l:j<src.length:=by obtain⟨q,_⟩:=Vd.1 o;simpa[bv]using q
    rw[Vp,B j l,<-o];simp[bv,l]) (by simp[bv];omega) (by intro v p;simp[bv]at p;obtain⟨x,_,rfl⟩:=p;rfl);have s:(YJ 0 (List.map (λx=>Value.int .u8 ((x:Nat):Int)) old).toArray.toList++bv src++YM (0+(bv src).length) (List.map (λx=>Value.int .u8 ((x:Nat):Int)) old).toArray.toList)=src.map (λx=>Value.int .u8 ((x:Nat):Int)):=by simp[bv];omega
   rw[s]at h;refine⟨w.setRow g (src.map (λx=>Value.int .u8 ((x:Nat):Int))).toArray,by rw[h];simp[bv,goInt],?_,?_⟩;.exact aM.of_heap (Vw w g (old.map (λx=>Value.int .u8 ((x:Nat):Int))).toArray (src.map (λx=>Value.int .u8 ((x:Nat):Int))).toArray 5 _ d.heap)
   .refine⟨rfl,rfl,rfl,Ze,λk E u=>setRow_other w g k _ (λe=>u V2)⟩
def JE{ops:Array Oper}{o:Oper}{K:Act->ZT->Prop}{Q:Exit->Act->ZT->Prop}{E:Prop}(b:o.guard=U)(d s:Operand)(ho:o.op=.call {callee:=.builtin .copy,args:=#[d,s],argTypes:=#[36,36]})(vd vs v':ZS)(hd:a.eval d=vd)(hs:a.eval s=vs)(h0:(Builtin.copy_ #[36,36] o.type #[vd,vs]).run ZL w=.ok v' w')(h:K (a.put o.dst v') w'):if Region.wanted o (yielded ops a.tmps)=ZV then Oper.wp ZL o a w K Q else E:=by rw[TT (by simp[Region.wanted,b])];unfold Oper.wp;simp[execOp,ho,resolve,invoke,builtin,hd,hs,h0,Result.andThen];exact h
def A7{v:ZS}{xs:List ZS}(h:w.ownsRow base 256 2 v n xs){b:Nat}{l:a7}(i:aM w b l):v.ownBlock≠J b:=by
 intro e;rcases h.2 with⟨f,_⟩|⟨g,cap,cur,d,k,a,_⟩;.rw[f]at e;simp[Value.ownBlock]at e
 .rw[d]at e;simp[Value.ownBlock]at e;subst e;obtain⟨c,j,_⟩:=i;rw[j]at a;simp at a
def nJ.aside{v:ZS}{O':List (Int×Nat×Nat×a7)}(h:nJ 256 w base v O')(j:aM w b l)(f:w.grownBy w' (J b))(i:∀q∈O',q.2.1≠b):nJ 256 w' base v O':=⟨h.own.kept f (.inr (A7 h.own j)),λq g=>by obtain⟨a,c,d⟩:=h.row q g;exact⟨a,c.grown f (by intro e;simp at e;exact i q g e),d⟩,h.nodup⟩
def JF{R:List a7}(h:dj T n R)(i:Nat)(b:i<T.length)(l:a7):dj (T.set i (T[i].1,T[i].2.1,l)) n (R.set i l):=by have:=ry h;have a:=h.at b V;unfold dj at*;rw[List.map_set,List.map_set,h,a]
section
def uX(x y:a7)(c:Nat):(jf x y c).length=x.length:=by simp[jf]
def JG{x y:a7}(e:∀a∈x,a<256)(d:c<256):∀a∈jf x y c,a<256:=by intro a b;simp only[jf,T9,Ul]at b;obtain⟨j,_,rfl⟩:=b;exact V7 (n:=8) (dM e j) (aV _ d)
theorem A8(b d n c:Nat)(x y:a7)(w:ZT)(p:c<256)(r:aM w b x)(s:aM w d y)(f:x.length=n)(t:y.length=n)(l:d≠b)(m:∀a∈x,a<256)(o:∀a∈y,a<256)(z:n<=100000):ZQ ZL 186 #[Z5 (J ⟨b,0,U⟩) n n,Z5 (J ⟨d,0,U⟩) n n,I .u8 c] w λe w'=>e=Z3 (ZZ #[])/\aM w' b (jf x y c)/\w.grownBy w' (J b):=by
 have q:w.rowIs b 5 n (tv (λi=>x.getD i 0)):=by have:=r;unfold aM at this;rw[f]at this;exact this
 refine(jP b 5 n 0 n n d 0 n c (λi=>x.getD i 0) (λi=>y.getD i 0) w p q (λj=>dM m j) (λj=>dM o j) V V (λi u=>by rw[Uj];exact s.cell i V) (.inl l)).mono ?_;rintro e w'⟨rfl,g,h⟩;refine⟨rfl,?_,h⟩;unfold aM;rw[uX,f];refine g.congr λj v=>?_;have k:j<x.length:=V;unfold tv vb iF jf;rw[TT V];simp[k]
structure Rn(w0:ZT)(B:Nat)(P:List St)(D R0:List a7)(n r gR k:Nat)(vO:ZS)(T:List (Nat×Nat×a7))(O':List (Int×Nat×Nat×a7))(wr:ZT):Prop where
 tab:eS wr B (Z5 (J ⟨gR,0,U⟩) r r) T
 hold:dj T n (bZ P D R0 k)len:∀l∈bZ P D R0 k,l.length=n
 outs:nJ 256 wr B vO O'
 vals:O'.map (λq=>(q.1,q.2.2.2.take q.2.2.1))=dO P D R0 k
 apart:∀p∈T,∀q∈O',p.1≠q.2.1below:ZR B w0 wr
 size:B<=wr.heap.size
variable {w0:ZT}{B:Nat}{P:List St}{D R0:List a7}{n r gR k:Nat}{vO:ZS}{T:List (Nat×Nat×a7)}{O':List (Int×Nat×Nat×a7)}{w:ZT}
def Rn.next(h:Rn w0 B P D R0 n r gR k vO T O' w){w':ZT}(a:bW w w'):Rn w0 B P D R0 n r gR k vO T O' w':=⟨h.tab.below a,h.hold,h.len,h.outs.below a,h.vals,h.apart,h.below.trans (a.mono h.size),TU h.size a.size⟩
def Rn.tlen(h:Rn w0 B P D R0 n r gR k vO T O' w):T.length=r:=by
 rcases h.tab.shape with⟨e,_⟩|⟨g,cap,e,_⟩;.simp at e
 .simp at e;omega
def Rn.reg(h:Rn w0 B P D R0 n r gR k vO T O' w)(A:Nat)(C:A<r):∃g,(∃a:A<T.length,T[A]=(g,n,(bZ P D R0 k).getD A []))/\w.cell? ⟨gR,A,U⟩=J (Z5 (J ⟨g,0,U⟩) n n)/\aM w g ((bZ P D R0 k).getD A [])/\((bZ P D R0 k).getD A []).length=n/\(∀x∈(bZ P D R0 k).getD A [],x<256)/\g≠gR/\B<=g/\g<w.heap.size/\gR<w.heap.size/\B<=gR:=by
 have:=h.tlen;have a:A<T.length:=V;have:=ry h.hold;have c:A<(bZ P D R0 k).length:=V;have d:=h.hold.at a c;have o:(bZ P D R0 k).getD A []=(bZ P D R0 k)[A]:=ZA;have l:=h.len _ (T7 c);obtain⟨m,b,y,z,i⟩:=h.tab.row _ (T7 a);rw[o];have p:T[A]=(T[A].1,n,(bZ P D R0 k)[A]):=by rw[<-d]
 have j:T[A].2.2=(bZ P D R0 k)[A]:=by rw[d]
 have q:T[A].2.1=n:=by rw[d]
 rcases h.tab.shape with⟨e,_⟩|⟨g,cap,e,v,_,_,s,u,_,t⟩;.simp at e
 .simp at e;obtain⟨rfl,_⟩:=e;have f:=u A a;unfold fV at f;rw[j,q,l]at f;rw[j]at b i;exact⟨T[A].1,⟨a,p⟩,f,b,l,i,t _ (T7 a),m,b.lt,s,v⟩
def Rn.write(h:Rn w0 B P D R0 n r gR k vO T O' w){w':ZT}{A g:Nat}{l0 src:a7}(s:∃s:A<T.length,T[A]=(g,n,l0))(C:l0.length=n)(b:w.grownBy w' (J g))(y:aM w' g src)(hl:src.length=n)(z:∀x∈src,x<256)(t:bZ P D R0 (k+1)=(bZ P D R0 k).set A src)(ho:dO P D R0 (k+1)=dO P D R0 k):∃T',Rn w0 B P D R0 n r gR (k+1) vO T' O' w':=by
 obtain⟨f,e⟩:=s;have d:=T7 f;obtain⟨m,o,_⟩:=h.tab.row _ d;have a:T[A].1=g:=V2;have v:T[A].2.2=l0:=V2;rw[a]at m o;refine⟨T.set A (T[A].1,T[A].2.1,src),?_,?_,?_,?_,?_,?_,?_,?_⟩;.exact h.tab.wrote f (by rw[a];exact b) (by rw[a];exact y) (by rw[v];omega) z
 .rw[t];exact JF h.hold A f src
 . rw[t];intro l i;rcases X7 i with i|rfl;.exact h.len l i
   .exact hl
 .exact h.outs.aside o b (λq c u=>h.apart _ d q c (by rw[a,u]))
 .rw[ho];exact h.vals
 . intro p j q c;rcases X7 j with j|rfl;.exact h.apart p j q c
   .exact h.apart _ d q c
 .exact gX h.below b h.size m
 .exact TU h.size b.size
def Rn.reg_ne(h:Rn w0 B P D R0 n r gR k vO T O' w){A X g d:Nat}{l p:a7}(c:∃c:A<T.length,T[A]=(g,n,l))(a:∃c:X<T.length,T[X]=(d,n,p))(o:A≠X):d≠g:=by
 obtain⟨f,e⟩:=c;obtain⟨a,m⟩:=a;have i:=V0.1 h.tab.nodup;intro q;have j:T[A].1=T[X].1:=by rw[e,m];exact q.symm
 rcases YB o with b|b;.exact i A X (ua f) (ua a) b (ua j)
 .exact i X A (ua a) (ua f) b (ua j.symm)
def uY{w:ZT}{B B':Nat}{n:Nat}{xs ys:List ZS}{vO:ZS}(h:w.ownsRow B 36 1 (Z5 (J ⟨g,0,U⟩) c m) n xs){n':Nat}(l:w.ownsRow B' 256 2 vO n' ys):vO.ownBlock≠J g:=by
 intro e;rcases h.2 with⟨a,_⟩|⟨q,cap,cur,f,o,j,_⟩;.simp at a
 . simp at f;obtain⟨rfl,_⟩:=f;rcases l.2 with⟨a,_⟩|⟨r,b,d,k,p,i,_⟩;.rw[a]at e;simp[Value.ownBlock]at e
   .rw[k]at e;simp[Value.ownBlock]at e;subst e;rw[j]at i;simp at i
theorem zI(P:List St)(D R0:List a7):∀k,(dO P D R0 k).length<=k|0=>TV _|k+1=>by have:=zI P D R0 k;unfold dO iN;split<;>simp<;>omega
def Rn.olen(h:Rn w0 B P D R0 n r gR k vO T O' w):O'.length<=k:=by have:=Uy List.length h.vals;rw[Uf]at this;rw[this];exact zI P D R0 k
def Rn.put(h:Rn w0 B P D R0 n r gR k vO T O' w){w1 v:ZT}{o:Obj}{b m:Nat}{l:a7}{sh:Int}{vO':ZS}(G:bW w w1)(Q:w.heap.size<=b)(E:aM w1 b (l++YE m 0))(hl:l.length=n)(K:n<=100000)(Y:n+m<=9223372036854775807)(H:∀x∈l,x<256)(g:(w1.alloc o).grownBy v vO.ownBlock)(C:v.ownsRow B 256 2 vO' (O'.length+1) (ri O'++[I O sh,Z5 (J ⟨b,0,U⟩) n (n+m)]))(A:bZ P D R0 (k+1)=bZ P D R0 k)(ho:dO P D R0 (k+1)=dO P D R0 k++[(sh,l)]):Rn w0 B P D R0 n r gR (k+1) vO' T (O'++[(sh,b,n,l++YE m 0)]) v:=by
 have f:=(h.next G).next ((TW w1.heap.size w1).alloc lR o);have:=h.size;have hll:(l++YE m 0).length=n+m:=by simp[hl]
 have y:=E.alloc o;refine⟨?_,by rw[A];exact h.hold,by rw[A];exact h.len,?_,?_,?_,?_,?_⟩
 . refine⟨f.tab.own.kept g (.inr λe=>?_),λp s=>?_,f.tab.nodup⟩;.exact uY f.tab.own f.outs.own (by rw[<-e];rfl)
   .obtain⟨t,i,u⟩:=f.tab.row p s;exact⟨t,i.grown g (λe=>A7 f.outs.own i e.symm),u⟩
 . refine⟨?_,λq d=>?_,?_⟩;.rw[sJ];simpa[ri,fV,hll,hl]using C
   . rcases Ui.1 d with d|d;.obtain⟨t,i,u⟩:=f.outs.row q d;exact⟨t,i.grown g (λe=>A7 f.outs.own i e.symm),u⟩
     . simp at d;subst d;refine⟨by show B<=b;omega,y.grown g (λe=>A7 f.outs.own y e.symm),by show n<=(l++YE m 0).length;omega,⟨Zx,by show(l++YE m 0).length<=9223372036854775807;omega⟩,?_⟩;intro x j;rcases Ui.1 j with j|j;.exact H x j
       .have:=VG j;omega
   .rw[Uz,U3];refine⟨h.outs.nodup,ej,?_⟩;intro a F c z;obtain⟨q,d,rfl⟩:=T9.1 F;simp at z;subst z;have:=(h.outs.row q d).2.1.lt;omega
 .rw[ho,Uz,h.vals];simp[<-hl]
 . intro p s q d;rcases Ui.1 d with d|d;.exact h.apart p s q d
   .simp at d;subst d;have:=(h.tab.row p s).2.1.lt;show p.1≠b;omega
 .exact f.below.grown g f.size (λq d=>(f.outs.own.lt q d).1)
 .exact TU f.size g.size
end
def aR(L:List (ByteArray×ZS)):List ZS:=L.flatMap λq=>[.string q.1,q.2]
def lA(L:List (ByteArray×ZS)):(aR L).length=L.length*2:=by induction L with|nil=>rfl|cons q L ih=>simp only[aR,VJ,Ua,UC]at ih⊢;rw[ih];simp;omega
def uZ(L:List (ByteArray×ZS))(k:Nat)(a:k<L.length):(aR L)[k*2]?=J (.string L[k].1)/\(aR L)[k*2+1]?=J L[k].2:=by induction L generalizing k with|nil=>simp at a|cons q L ih=>
  have e:aR (q::L)=[.string q.1,q.2]++aR L:=by simp[aR]
  rw[e];cases k with|zero=>exact⟨rfl,rfl⟩|succ k=>
   simp at a;obtain⟨b,c⟩:=ih k a;refine⟨?_,?_⟩;.rw[U8 ek,(ek:(k+1)*2-[Value.string q.1,q.2].length=k*2)];exact b
   .rw[U8 ek,(ek:(k+1)*2+1-[Value.string q.1,q.2].length=k*2+1)];exact c
def jS(L M:List (ByteArray×ZS)):aR (L++M)=aR L++aR M:=by simp[aR]
structure mh(w:ZT)(r base:Nat)(v:ZS)(L:List (ByteArray×ZS)):Prop where top:w.heap[r]?=J (Z4 #[v] 65 (0,0))own:w.ownsRow base 82 2 v L.length (aR L)
def mh.shape{v:ZS}{L:List (ByteArray×ZS)}(h:mh w r base v L):(v=Z5 U 0 0/\L=[])\/∃g cap,v=Z5 (J ⟨g,0,U⟩) L.length cap/\base<=g/\L.length<=cap/\∀k(d:k<L.length),w.cell? ⟨g,k*2,U⟩=J (.string L[k].1)/\w.cell? ⟨g,k*2+1,U⟩=J L[k].2:=by
 rcases h.own.2 with⟨i,j⟩|⟨g,cap,cur,c,e,n,f,o,p,q⟩;.exact .inl ⟨i,U2 j⟩
 .refine .inr ⟨g,cap,c,e,f,λk d=>?_⟩;obtain⟨l,m⟩:=uZ L k d;have:=h.own.cells (g:=g) (by rw[c];rfl);have a:=this _ _ l;have b:=this _ _ m;rw[kl]at a b;exact⟨a,b⟩
def mh.cell{v:ZS}{L:List (ByteArray×ZS)}(h:mh w r base v L):w.cell? ⟨r,0,U⟩=J v/\w.frozen? ⟨r,0,U⟩=ZU:=by simp[World.cell?,World.frozen?,h.top]
def FiR(w:ZT)(L:List (ByteArray×ZS))(name:ByteArray)(i:ZS)(wr:ZT):Prop:=∃k:Nat,k<=L.length/\i=I O k/\wr=w/\∀j(hj:j<L.length),j<k->¬L[j].1.toList=name.toList
theorem kH{v:ZS}{L:List (ByteArray×ZS)}(h:mh w r base v L)(hl:L.length<=1000000)(name:ByteArray):ZQ ZL 49 #[Z6 (J ⟨r,0,U⟩),.string name] w λe w'=>w'=w/\((∃k,∃m:k<L.length,e=Z3 (I O (k:Nat))/\L[k].1.toList=name.toList/\∀j(a:j<L.length),j<k->¬L[j].1.toList=name.toList)\/(e=Z3 (I O (-1))/\∀j(a:j<L.length),¬L[j].1.toList=name.toList)):=by
 obtain⟨c0,_⟩:=h.cell;have t:=h.shape;go_enter func49,ntmps49;go_wp2;go_loopw[5](λi wr=>FiR w L name i wr)(λi _=>L.length-(intOf i).toNat);case atStart=>exact⟨0,T8 _,rfl,rfl,λj _ a=>absurd a V⟩
 case round=>
  obtain⟨k,m,rfl,rfl,l⟩:=hrel;rcases t with⟨rfl,rfl⟩|⟨g,cap,rfl,y,x,n⟩;.have q:k=0:=(ua m);subst q;go_wp2;go_ret;exact⟨rfl,.inr ⟨rfl,λj a=>absurd a ej⟩⟩
  . by_cases f:k<L.length
    . obtain⟨c1,u⟩:=n k f;have b:=ak l;by_cases c:L[k].1.toList=name.toList;.have p:(L[k].1.toList==name.toList)=ZV:=(by rw[c];exact beq_self_eq_true _);have d:=ak c;go_wp2;go_ret;exact⟨rfl,.inl ⟨k,f,rfl,d.o,b.o⟩⟩
      . have p:(L[k].1.toList==name.toList)=ZU:=(by rw[beq_eq_false_iff_ne];exact c);have d:=ak c;go_wp2;refine⟨⟨k+1,V,eT,rfl,λj a z=>?_⟩,iE⟩;by_cases e:j=k;.subst e;exact d.o
        .exact b.o j a V
    .have s:k=L.length:=V;subst s;have b:=ak l;go_wp2;go_ret;exact⟨rfl,.inr ⟨rfl,λj a=>b.o j a a⟩⟩
def fu(n:ByteArray):Prop:=1<=n.size/\n.size<=16
def Py(L:List (ByteArray×ZS))(name:ByteArray)(k:Nat):Prop:=∃hk:k<L.length,L[k].1.toList=name.toList/\∀j(hj:j<L.length),j<k->¬L[j].1.toList=name.toList
def rz(L:List (ByteArray×ZS))(name:ByteArray):Prop:=∀j(hj:j<L.length),¬L[j].1.toList=name.toList
def aaK(L:List (ByteArray×ZS))(name:ByteArray)(e:ZO):Prop:=(¬fu name/\e=Z3 (ZZ #[Z5 U 0 0,I O 6]))\/(fu name/\rz L name/\e=Z3 (ZZ #[Z5 U 0 0,I O 9]))\/(fu name/\∃k,Py L name k/\e=Z3 (ZZ #[(L.getD k (ByteArray.empty,ZY)).2,I O 0]))
theorem Dq{v:ZS}{L:List (ByteArray×ZS)}(h:mh w r base v L)(hl:L.length<=1000000)(name:ByteArray):ZQ ZL 23 #[Z6 (J ⟨r,0,U⟩),.string name] w λe w'=>w'=w/\aaK L name e:=by
 obtain⟨c0,_⟩:=h.cell;have j:=h.shape;have l:=kH h hl name;by_cases t:name.size=0;.have n0:(name.size:Int)=0:=V;go_enter func23,ntmps23;go_wp2;go_ret2;exact⟨rfl,.inl ⟨λq=>ia q.1,rfl⟩⟩
 . have n0:¬(name.size:Int)=0:=V;by_cases x:16<name.size;.have p:(16:Int)<(name.size:Int):=V;go_enter func23,ntmps23;go_wp2;go_ret2;exact⟨rfl,.inl ⟨λq=>ia q.2,rfl⟩⟩
   . have p:¬(16:Int)<(name.size:Int):=V;have c:fu name:=⟨V,V⟩;go_enter func23,ntmps23;go_wp2_with fail;refine l.mono ?_;rintro e w'⟨rfl,m⟩;rcases m with⟨k,b,rfl,n,d⟩|⟨rfl,i⟩
     . rcases j with⟨rfl,rfl⟩|⟨g,cap,rfl,y,u,f⟩;.exact absurd b ej
       .obtain⟨c1,s⟩:=f k b;have a:=al n d;go_wp2;go_ret2;exact⟨rfl,.inr (.inr ⟨c,k,⟨b,a.o.1,a.o.2⟩,adV⟩)⟩
     .have a:=ak i;go_wp2;go_ret2;exact⟨rfl,.inr (.inl ⟨c,a.o,rfl⟩)⟩
def Dr:ZS->Nat|.slice _ n _=>n|_=>0
def iy(v:ZS):Prop:=∃ao n c,v=.slice ao n c/\n<=1000000
def bY(L:List (ByteArray×ZS))(q k:Nat):Nat:=((L.take k).map λo=>Dr o.2/q+1).sum
def mD(L:List (ByteArray×ZS))(q k:Nat)(a:k<L.length):bY L q (k+1)=bY L q k+(Dr L[k].2/q+1):=by unfold bY;rw[Vl,Ud a];simp only[Uz,YD,adl,U5,Wi,XC,List.sum_nil,VO]
def pL(L:List (ByteArray×ZS))(q k:Nat)(h:∀o∈L,Dr o.2<=1000000)(c:k<=L.length):bY L q k<=k*1000001:=by induction k with|zero=>simp[bY]|succ k ih=>rw[mD L q k V];have:=ih V;have:=h L[k] (T7 _);have:Dr L[k].2/q<=Dr L[k].2:=VU _ _;omega
def jT(L:List (ByteArray×ZS))(data:Nat)(more:Int):Nat:=let q:=data*44;if 0<=more then bY L q L.length+(more.toNat/q+1)+2*((L.length+1)*200/q+1)else bY L q L.length+2*(L.length*200/q+1)
def NeR(w:ZT)(L:List (ByteArray×ZS))(q:Nat)(n i:ZS)(wr:ZT):Prop:=∃k:Nat,k<=L.length/\n=I O (bY L q k:Nat)/\i=I O k/\wr=w
theorem FV{v:ZS}{L:List (ByteArray×ZS)}(h:mh w r base v L)(hl:L.length<=1000)(E:∀o∈L,iy o.2)(data:Nat)(X:1<=data)(V':data<=1000)(more:Int)(Z:-1<=more)(hi:more<=1000000):ZQ ZL 29 #[Z6 (J ⟨r,0,U⟩),I O data,I O more] w λe w'=>w'=w/\e=Z3 (I O (jT L data more:Nat)):=by
 obtain⟨c0,_⟩:=h.cell;have p:=h.shape;have A:∀o∈L,Dr o.2<=1000000:=λo ho=>by obtain⟨ao,n,c,e,C⟩:=E o ho;rw[e];exact C
 obtain⟨q,D⟩:∃q,q=data*44:=⟨_,rfl⟩;have hj:1<=q:=V;have hp:q<=44000:=V;have hr:(data:Int)*44=(q:Int):=V;have x:=ak D;clear D;have B:v=Z5 U 0 0/\L.length=0\/∃g cap,v=Z5 (J ⟨g,0,U⟩) L.length cap:=by
  rcases p with⟨a,j⟩|⟨g,cap,a,_⟩;.exact .inl ⟨a,by rw[j];rfl⟩
  .exact .inr ⟨g,cap,a⟩
 obtain⟨ao,cap,F⟩:∃ao cap,v=.slice ao L.length cap:=by
  rcases B with⟨a,j⟩|⟨g,cap,a⟩;.exact⟨U,0,by rw[a,j]⟩
  .exact⟨_,_,a⟩
 rw[F]at c0;go_enter func29,ntmps29;go_wp2;go_loopw[8,10](λn i wr=>NeR w L q n i wr)(λ_ i _=>L.length-(intOf i).toNat);case atStart=>exact⟨0,T8 _,rfl,rfl,rfl⟩
 case round=>
  obtain⟨k,O',rfl,rfl,rfl⟩:=hrel;by_cases l:k<L.length
  . rcases p with⟨_,rfl⟩|⟨g,y,t,W,U',z⟩;.exact absurd l ej
    .rw[F]at t;simp at t;obtain⟨rfl,rfl⟩:=t;obtain⟨c1,H⟩:=z k l;obtain⟨P,n,Q,e,C⟩:=E L[k] (T7 _);have s:=mD L q k l;have N:=pL L q k A O';rw[e]at H s;have J':(n:Int)/(q:Int)=((n/q:Nat):Int):=V;have R:(n:Int).tdiv (q:Int)=((n/q:Nat):Int):=(by rw[XK V];exact J');have Y:n/q<=n:=VU _ _;have ho:NeR wr L q (I O ((bY L q k+(n/q+1):Nat):Int)) (I O ((k:Int)+1)) wr:=⟨k+1,V,by rw[s];rfl,rfl,rfl⟩;have G:=ak ho;clear ho s z;generalize bY L q k=S at*;generalize n/q=d at*;go_wp2;have:=G.o;rw[(V:((S+(d+1):Nat):Int)=(S:Int)+(d:Int)+1)]at this;exact⟨this,iE⟩
  . have M:k=L.length:=V;subst M;have N:=pL L q L.length A lR;clear p B;by_cases u:0<=more
    . obtain⟨m,rfl⟩:=Int.eq_ofNat_of_zero_le u;have b:jT L data (m:Int)=bY L q L.length+(m/q+1)+2*((L.length+1)*200/q+1):=by unfold jT;rw[TT u,<-x.o,VF]
      have T:(m:Int).tdiv (q:Int)=((m/q:Nat):Int):=(by rw[XK V];omega);have K:(((L.length:Int)+1)*200).tdiv (q:Int)=(((L.length+1)*200/q:Nat):Int):=by rw[XK V,(V:((L.length:Int)+1)*200=(((L.length+1)*200:Nat):Int))];omega
      have b5:m/q<=m:=VU _ _;have b6:(L.length+1)*200/q<=(L.length+1)*200:=VU _ _;have f:=ak b;clear b;generalize bY L q L.length=S at*;generalize m/q=d at*;generalize(L.length+1)*200/q=I' at*;go_wp2;go_ret;exact⟨rfl,by rw[f.o];congr 2⟩
    . have b:jT L data more=bY L q L.length+2*(L.length*200/q+1):=by unfold jT;rw[TS u,<-x.o]
      have K:((L.length:Int)*200).tdiv (q:Int)=((L.length*200/q:Nat):Int):=by rw[XK V,(V:(L.length:Int)*200=((L.length*200:Nat):Int))];omega
      have b6:L.length*200/q<=L.length*200:=VU _ _;have f:=ak b;clear b;generalize bY L q L.length=S at*;generalize L.length*200/q=I' at*;go_wp2;go_ret;exact⟨rfl,by rw[f.o];congr 2⟩
section
open Go.ChangeShapes Go.WideShapes
abbrev u9:List (String×DataW Unit):=[("math/bits.deBruijn64tab",Rows.laid_math_bits_deBruijn64tab),("errors.errorType",Rows.laid_errors_errorType),("stripes/record.halves",Rows.laid_stripes_record_halves)]
def Ib:List Int:=(YF 64).map λj=>((Lib.deBruijn64tab.getD j 0:Nat):Int)
def tP:List Int:=de.map λ(x:Nat)=>(x:Int)
def Tryz.bt3:ZL.globalNamed "math/bits.deBruijn64tab"=J 1:=ee
def Tryz.bt3Type:(ZL.globals[1]?).map (·.type)=J 118:=ee
def Tryz.TG:ZL.cellsOf 118=64:=ee
def Tryz.S4:ZL.cellsOf 5=1:=ee
def Tryz.hv3:ZL.globalNamed "stripes/record.halves"=J 2:=ee
def Tryz.hv3Type:(ZL.globals[2]?).map (·.type)=J 328:=ee
def Tryz.TA:ZL.cellsOf 328=16:=ee
def Tryz.Ts:ZL.cellsOf 308=1:=ee
def JH:(Rows.laid_math_bits_deBruijn64tab:DataW Unit)=Lib.tabData .u8 Ib:=um
def Mz:(Rows.laid_stripes_record_halves:DataW Unit)=Lib.tabData .u32 tP:=um
def JI{x:String×DataW Unit}{r:List (String×DataW Unit)}(h:laidMet P (x::r) w):laidMet P r w:=by obtain⟨ps,i,c,a⟩:=h;obtain⟨n,d⟩:=x;obtain⟨g,t,cs,fuel,p,q,_,_,_,_,f,rfl⟩:=i;exact⟨q,f,List.Nodup.sublist (adF _ _) c,λb off e=>a b off (VQ _ e)⟩
theorem Ds(h:laidMetH ZL u9 W):bK W/\aI W/\cJ W/\3<=W.heap.size:=by
 have d:laidMet ZL [("math/bits.deBruijn64tab",Rows.laid_math_bits_deBruijn64tab),("stripes/record.halves",Rows.laid_stripes_record_halves)] W/\handlesMet ZL [("errors.errorType",Rows.laid_errors_errorType)] W:=h;have l:bK W:=uU (show laidMetH ZL [("errors.errorType",Rows.laid_errors_errorType)] W from⟨⟨[],rfl,List.nodup_nil,λb off k=>by cases k⟩,d.2⟩);have c:=d.1;have e:=JI c;rw[JH]at c;rw[Mz]at e;have n:=Lib.tabIs_of_head Tryz.bt3 Tryz.bt3Type Yb Xq Tryz.S4 Tryz.TG c;have m:=Lib.tabIs_of_head Tryz.hv3 Tryz.hv3Type underlying328 underlying308 Tryz.Ts Tryz.TA e;have g:aI W:=λj a=>by have:=n.cell Tryz.bt3 j (by simpa[Ib]using a);rw[this];unfold Ib;simp[a]
 have f:cJ W:=λj a=>by have hl:de.length=16:=rfl;have:=m.cell Tryz.hv3 j (by unfold tP;rw[Uf,hl];exact a);rw[this];unfold tP;congr 2;rw[Ub,Ub,UJ,Ud V];rfl
 refine⟨l,g,f,?_⟩;have o:=Ue (g 0 ec);have i:=Ue (f 0 ec);have p:2<W.heap.size:=i;omega
noncomputable def ve(os:Os):ZT:={World.holding ZL os ⟨#[],#[],[]⟩with heap:=(((World.holding ZL os ⟨#[],#[],[]⟩).heap.modify 0 fun|Z4 _ t frozen=>Z4 #[.iface 167 (.agg #[Z6 (J ⟨3,51,U⟩)])] t frozen|o=>o).modify 1 fun|Z4 _ t frozen=>Z4 (Ib.map λz=>Value.int .u8 z).toArray t frozen|o=>o).modify 2 fun|Z4 _ t frozen=>Z4 (tP.map λz=>Value.int .u32 z).toArray t frozen|o=>o}
def vf(os:Os)(args:Array ZS):laidMetH ZL u9 ((ve os).forCall (λ_ _=>0) ⟨#[],args,[]⟩).memory:=laidMetH_of_parts (laidMet_of_run' 8 ee ee) ee
def Du{H:Type}{enc:ZN×ZS->H}{spare:Nat->Bool}{held:Bool}{t0 t1 t2 t3 t4:ZN}{v0 v1 v2 v3 v4:ZS}{d0 d1 d2 d3 d4:DataW H}{p0 p1 p2 p3 p4:List MemPlace}(a:DataW.Trod enc P w base spare held t0 v0 d0 p0)(b:DataW.Trod enc P w base spare held t1 v1 d1 p1)(c:DataW.Trod enc P w base spare held t2 v2 d2 p2)(d:DataW.Trod enc P w base spare held t3 v3 d3 p3)(e:DataW.Trod enc P w base spare held t4 v4 d4 p4):DataW.TrodAll enc P w base spare held [t0,t1,t2,t3,t4] [v0,v1,v2,v3,v4] [d0,d1,d2,d3,d4] (p0++(p1++(p2++(p3++p4)))):=⟨p0,p1++(p2++(p3++p4)),a,trodAll_mk4 b c d e,rfl⟩
end
