import Derived.Laws.Cover1
import Derived.Lib.Overlaps
import Derived.Laws.Externs
import Derived.Shelf.RegionOpenPlain
import Derived.Test.YtmpnnokoodjllaaGreatDoorM07
import Derived.Sort.QuietIn
import Derived.Sort.QuietTacIn
import Derived.Laws.CopyRow
import Derived.Laws.IdiomStrings
import Derived.Lib.LaidTab
import Derived.Carry
set_option maxRecDepth 100000
set_option linter.all false
set_option maxHeartbeats 8000000
open Go.IntKind renaming i64 -> Z9
open Go.Value renaming int -> Z8, pointer -> Z7, slice -> Z6, bool -> Z3, string -> Z0, tuple -> ZZ
open Go.Obj renaming cells -> Z5
open Go.Ending renaming returned -> Z4
open Go.Operand renaming tmp -> Z1
open Go renaming undef -> ZY, World -> ZT, Value -> ZS, Calls -> ZR, Addr -> ZQ, Ending -> ZP, TypeId -> ZO
open Option renaming none -> ZX, some -> ZW
open Bool renaming true -> ZV, false -> ZU
open UInt8 renaming ofNat -> YC
open List renaming range -> YD, filter_cons_of_pos -> YH, take_take -> YK, length -> YN, sublist_cons_self -> YO, filter_cons_of_neg -> YP, drop_length -> YU, mem_eraseIdx_iff_getElem -> YX
open ByteArray renaming empty -> YE, mk -> YI
open Go.Proofs.YtmpnnokoodjllaaGreatDoor renaming pgs -> YF
open Nat renaming min -> YG, le_of_lt_succ -> YR, le_max_left -> YV, div_le_iff_le_mul_add_pred -> YW
open List.Nodup renaming sublist -> YJ
open Int renaming natCast_add -> YL
open Int.ofNat renaming inj -> YM
open List.Sublist renaming length_le -> YQ
open Classical renaming byContradiction -> YS
open Array renaming toList_append -> YT
open Go.Proofs.Tryz renaming prog -> ZN
open Go.Proofs.Tryz
namespace Go.Proofs.YtmpnnokoodjllaaGreatDoor
def XU:=@Nat.div_le_div_left
def WX:=@Go.Calls.quiet_of_same
def abu:=@Nat.le_div_iff_mul_le
def WY:=@Go.Proofs.Tryz.underlying130
def UP:=@Go.Proofs.Tryz.underlying59
end Go.Proofs.YtmpnnokoodjllaaGreatDoor
namespace Go.Proofs.YtmpnnokoodjllaaGreatDoor
open Go.RowKit Go.Deep Gf Go.Shelf
variable {B A:aA} {ops:Array Oper} {cur:Array ZS} {rd:Bool} {Q:Exit->Act->ZT->Prop} {F:aR} {lost regs:Int} {L:List (ByteArray×ZS)} {Dl:List a9} {l P l':a9} {os:List Ob} {ys:List ZS} {a b n c base g cap i vb N D ar p G t off m k c1 sb d r gone sp q bl size:Nat} {K K':Nat->Prop} {f:Nat->ZS} {x:Ob×ZS} {xs:bP} {o:Oper} {ao:Option ZQ} {E:Prop} {α:Type} {e:ZO} {v u pg ob vp a' b' c':ZS} {w w' w2 w3 w1 w5 w6 w7 w8:ZT}
theorem mX (x:ByteArray) (w:ZT):ZR ZN 147 #[Z0 x] w λe w'=>e=Z4 (Z3 ZU)/\w'=w:=by
 go_enter func147,ntmps147;go_wp2;go_ret;exact ⟨ek,rfl⟩
def rQ (a b:ByteArray):Int:=if jx a b then -1 else if jx b a then 1 else 0
def FQ {a b:ByteArray}:rQ a b<0↔jx a b=ZV:=by
 unfold rQ;cases h1:jx a b<;>cases h2:jx b a<;>simp
theorem FR {a b:ByteArray}:rQ a b=0↔a=b:=by
 unfold rQ;constructor
 . intro h;cases h1:jx a b
   . cases h2:jx b a
     . exact sr h1 h2
     . simp [h1,h2] at h
   . simp [h1] at h
 . rintro rfl;simp [nR]
theorem Cl (x y:ByteArray) (w:ZT):ZR ZN 112 #[Z0 x,Z0 y] w λe w'=>e=Z4 (Z8 Z9 (rQ x y))/\w'=w:=by
 by_cases a:x=y
 . subst a;have f:Op.bytesLess x.toList x.toList=ZU:=nR x;have c:rQ x x=0:=FR.2 rfl;rw [c];go_enter func112,ntmps112;go_wp2_with fail;refine (mX x w).mono ?_;rintro e w1 ⟨rfl,rfl⟩;go_wp2_with fail;refine (mX x w1).mono ?_;rintro e w2 ⟨rfl,rfl⟩;go_wp2;go_ret;exact ⟨rfl,rfl⟩
 . have d:¬ x.toList=y.toList:=λe=>a (toList_inj e);have g:(!x.toList==y.toList)=ZV:=(by simp [d]);obtain ⟨lt,b⟩:=nM (jx x y);have f:Op.bytesLess x.toList y.toList=lt:=b;have c:rQ x y=if lt then -1 else 1:=by
    unfold rQ;rw [b];cases lt
    . cases hg:jx y x
      . exact absurd (sr b hg) a
      . rfl
    . rfl
   rw [c];clear c b;go_enter func112,ntmps112;go_wp2_with fail;refine (mX x w).mono ?_;rintro e w1 ⟨rfl,rfl⟩;go_wp2_with fail;refine (mX y w1).mono ?_;rintro e w2 ⟨rfl,rfl⟩;cases lt
   . go_wp2;go_ret;exact ⟨rfl,rfl⟩
   . go_wp2;go_ret;exact ⟨rfl,rfl⟩
theorem yu (nm x:ByteArray) (sz:Int) (a:ZS) (w:ZT):ZR ZN 111 #[.agg #[Z0 nm,Z8 Z9 sz,a],Z0 x] w λe w'=>e=Z4 (Z8 Z9 (rQ nm x))/\bW w w':=by
 have b:bW w (w.alloc (Z5 #[Z0 nm,Z8 Z9 sz,a] 130)):=bA w _;go_enter func111,ntmps111;go_wp2_with fail;refine (Cl nm x _).mono ?_;rintro e w1 ⟨rfl,rfl⟩;go_wp2;go_ret;exact ⟨rfl,b⟩
def mq (os:List Ob) (x:ByteArray):Bool:=match (aZ os)[aI (aZ os) x]? with
 | some n=>decide (n=x)
 | none=>ZU
theorem Cm (d:Up (aZ os)) (x:ByteArray):mq os x=ZV↔x∈aZ os:=by
 unfold mq;constructor
 . intro h;split at h
   . rename_i n c
     have:=of_decide_eq_true h;rw [<- this];exact List.mem_of_getElem? c
   . cases h
 . intro h;obtain ⟨a,b⟩:=ur d h;rw [T2 a,b];simp
def FdR (w:ZT) (os:List Ob) (x:ByteArray) (i j:ZS) (wr:ZT):Prop:=∃ a b:Nat,a<=b/\b<=os.length/\i=Z8 Z9 a/\j=Z8 Z9 b/\(∀ k (hk:k<os.length),k<a->jx os[k].name x=ZV)/\(∀ k (hk:k<os.length),b<=k->jx os[k].name x=ZU)/\bW w wr
def OU (a:Up (aZ os)) {i j:Nat} (b:i<os.length) (c:j<os.length) (h:i<j):jx os[i].name os[j].name=ZV:=by
 unfold Up at a;rw [Wg] at a;have:=a i j (by rw [bG];exact b) (by rw [bG];exact c) h;unfold aZ at this;rwa [Vf,Vf] at this
def fa.at' (h:fa K w (.slice ao n c) os) {k:Nat} (d:k<os.length):∃ b off a,ao=ZW ⟨b,off,ZX⟩/\b<w.heap.size/\K b/\w.cell? ⟨b,off+k*3,ZX⟩=ZW (Z0 os[k].name)/\w.cell? ⟨b,off+k*3+1,ZX⟩=ZW (Z8 Z9 (os[k].size:Nat))/\w.cell? ⟨b,off+k*3+2,ZX⟩=ZW a/\bp K w a os[k].RM:=by
 obtain ⟨f,c',e,_,g⟩:=h;obtain ⟨b,off,i,j,l,m⟩:=g (λe=>by rw [e] at d;simp at d);simp only [Vt] at e;obtain ⟨rfl,_,_⟩:=e;obtain ⟨a,o,p,q,r⟩:=m k d;exact ⟨b,off,a,i,l,j,o,p,q,r⟩
theorem EE (J:fa (λk=>k<w.heap.size) w v os) (kc:os.length<=10000) (R:Up (aZ os)) (x:ByteArray) :
 ZR ZN 110 #[v,Z0 x,.func (.func 111) #[] #[]] w λe w'=>e=Z4 (ZZ #[Z8 Z9 (aI (aZ os) x:Nat),Z3 (mq os x)])/\bW w w':=by
 obtain ⟨ao,c,rfl,k5,_⟩:=id J;obtain ⟨N,M⟩:=nM (os.length);have H:=au J R;clear J R;rw [M];go_enter func110,ntmps110;go_wp2;go_loopw [9,10] (λi j wr=>FdR w os x i j wr) (λi j _=>(intOf j).toNat-(intOf i).toNat)
 case atStart=>exact ⟨0,N,T3 _,eb,rfl,rfl,λk _ h=>eb,λk q h=>eb,TX _ w⟩
 case round=>
  obtain ⟨a,b,k9,T,rfl,rfl,o,n,f⟩:=hrel;by_cases ka:a<b
  . obtain ⟨m,C⟩:∃ m:Nat,m=(a+b)/2:=⟨_,rfl⟩;have Q:((a:Int)+(b:Int))/2=(m:Int):=eb;have K:m<os.length:=eb;obtain ⟨b0,off,L,rfl,hy,_,y,z,D,_⟩:=(H.out.1.keep (dN.RN f)).at' (k:=m) K;obtain ⟨nm,d⟩:=nM (os[m].name);obtain ⟨sz,B⟩:∃ sz:Int,((os[m].size:Nat):Int)=sz:=⟨_,rfl⟩;rw [d] at y;rw [B] at z;have k6:m<N:=eb;have k7:(m:Int)<(N:Int):=eb;have r:=a7 o n f d C;clear o n f d C B;go_wp2_with fail;refine (yu nm x sz L wr).mono ?_;rintro e w1 ⟨rfl,t⟩;obtain ⟨G,l⟩:=nM (rQ nm x);rw [l];obtain ⟨o,n,f,d,C⟩:=r.out;have g:bW w w1:=f.trans (t.mono f.size);by_cases O:G<0
    . have p:jx nm x=ZV:=FQ.1 (by rw [l];exact O);have E:Hid (FdR w os x (Z8 Z9 ((m+1:Nat):Int)) (Z8 Z9 (b:Nat)) w1):=al ⟨m+1,b,eb,T,rfl,rfl,(λk q h=>by
       rcases XQ (YR h) with e|I
       . subst e;rw [d];exact p
       . have:=OU H.out.2 q K I;rw [d] at this;exact mS this p),(λk q h=>n k q h),g⟩
      clear o n f d t g p l r y z D;dsimp only;have kb:m<=10000:=eb;have k8:a<=m:=eb;have X:m<b:=eb;clear C Q;go_wp2;refine ⟨vE E.out,?_⟩;show ((b:Int)).toNat-((m:Int)+1).toNat<((b:Int)).toNat-((a:Int)).toNat;omega
    . have p:jx nm x=ZU:=by
       cases h:jx nm x
       . rfl
       . exact absurd (FQ.2 h) (by rw [l];exact O)
      have E:Hid (FdR w os x (Z8 Z9 (a:Nat)) (Z8 Z9 (m:Nat)) w1):=al ⟨a,m,eb,eb,rfl,rfl,(λk q h=>o k q h),(λk q h=>by
       rcases XQ h with e|I
       . subst e;rw [d];exact p
       . have:=OU H.out.2 K q I;rw [d] at this;cases hx:jx os[k].name x
         . rfl
         . rw [mS this hx] at p;cases p),g⟩
      clear o n f d t g p l r y z D;dsimp only;have k8:a<=m:=eb;have X:m<b:=eb;clear C Q;go_wp2;refine ⟨E.out,?_⟩;show ((m:Int)).toNat-((a:Int)).toNat<((b:Int)).toNat-((a:Int)).toNat;omega
  . have S:a=b:=eb;subst S;have u:aI (aZ os) x=a:=gI _ _ _ (by rw [bG];omega) (λj W h=>by
     have k0:j<os.length:=(by rwa [bG] at W);simpa [aZ] using o j k0 h) (λV=>by
     have hz:a<os.length:=(by rwa [bG] at V);simpa [aZ] using n a hz lR)
    by_cases Y:a<N
    . have Z:a<os.length:=M.symm▸Y;obtain ⟨b0,off,L,rfl,hy,_,y,z,D,_⟩:=(H.out.1.keep (dN.RN f)).at' (k:=a) Z;obtain ⟨nm,d⟩:=nM (os[a].name);obtain ⟨sz,B⟩:∃ sz:Int,((os[a].size:Nat):Int)=sz:=⟨_,rfl⟩;have A:mq os x=decide (rQ nm x=0):=by
       unfold mq;rw [u,T2 (by rw [bG];omega)];simp only [aZ,Vf,d];exact decide_eq_decide.2 FR.symm
      rw [d] at y;rw [B] at z;have U:(a:Int)<(N:Int):=eb;have r:=al f;have F:=au u A;clear o n f d u A B;go_wp2_with fail;refine (yu nm x sz L wr).mono ?_;rintro e w1 ⟨rfl,t⟩;obtain ⟨G,l⟩:=nM (rQ nm x);have s:=au F.out.1 (F.out.2.trans (by rw [l]));rw [l];have g:Hid (bW w w1):=al (r.out.trans (t.mono r.out.size));clear t r F y z D l;by_cases P:G=0
      . subst P;go_wp2;go_ret2;refine ⟨?_,g.out⟩;rw [s.out.1,s.out.2];rfl
      . go_wp2;go_ret2;refine ⟨?_,g.out⟩;rw [s.out.1,s.out.2];simp [P]
    . have A:mq os x=ZU:=by
       unfold mq;rw [u,VJ (by rw [bG];omega)]
      have U:¬ (a:Int)<(N:Int):=eb;have g:Hid (bW w wr):=al f;have s:=au u A;clear o n f u A;go_wp2;go_ret2;refine ⟨?_,g.out⟩;rw [s.out.1,s.out.2];rfl
theorem LP (c:fa (λk=>k<w.heap.size) w v os) (g:os.length<=10000) (h:Up (aZ os)) (x:ByteArray) :
 ZR ZN 79 #[v,Z0 x] w λe w'=>e=Z4 (ZZ #[Z8 Z9 (aI (aZ os) x:Nat),Z3 (mq os x)])/\bW w w':=by
 have a:=EE c g h x;obtain ⟨n,f⟩:=nM (aI (aZ os) x);obtain ⟨i,d⟩:=nM (mq os x);rw [f,d] at a ⊢;clear f d;go_enter func79,ntmps79;go_wp2_with fail;refine a.mono ?_;rintro e w1 ⟨rfl,b⟩;have H:=al b;clear b a c;go_wp2;go_ret2;exact ⟨rfl,H.out⟩
theorem pj (a:fa K w v os) (R:os.length<=10000) :
 ZR ZN 118 #[v] w λe w'=>∃ u L,e=Z4 u/\L.map (·.1)=os/\NQ K w L/\w'.ownsRow w.heap.size 130 3 u L.length (bO L)/\bW w w':=by
 obtain ⟨L,i,l,f⟩:=NR a;obtain ⟨ao,c,rfl,Q,d⟩:=id a;have F:L.length=os.length:=by rw [<- i,TZ]
 obtain ⟨M,I,B,C,D⟩:=Ur Tryz.R7;cases ao with
 | none=>
  have t:os=[]:=YS λh=>by obtain ⟨b,off,e,_⟩:=d h;cases e
  subst t;have E:L=[]:=UK F;subst E;have G:=λm=>Xf (P:=ZN) m 113 130 ZX 0 c 0 0 Vk;simp only [UQ];clear d a f l;go_enter func118,ntmps118;go_wp2;go_ret;exact ⟨_,[],rfl,rfl,λx J=>by simp at J,UB _ _ _ _,TX _ _⟩
 | some s=>
  have G:=λm=>Xf (P:=ZN) m 113 130 (ZW s) os.length c 0 0 Vk;have g:bW w (w.alloc (Z5 #[] 130)):=bA _ _;have p:=f _ (dN.RN g);have r:(w.alloc (Z5 #[] 130)).ownsRow w.heap.size 130 3 (Z6 (ZW ⟨w.heap.size,0,ZX⟩) 0 0) 0 []:=⟨rfl,.inr ⟨w.heap.size,0,#[],rfl,TV _,UG w _,TV _,eD,rfl,rfl⟩⟩;have H:=a7 i l g p r;clear d a f l g p r i;go_enter func118,ntmps118;go_wp2_with (at_builtin;refine af _ rfl (Z1 5) (Z1 6) 113 113 rfl w.heap.size 130 M _ 3 48 Vk I B C D rfl _ 0 [] l3 (by exact H.out.2.2.2.2) _ l3 L.length (bO L) (by exact H.out.2.2.2.1) eD eb (by exact H.out.2.2.1.size) ?_;intro S w3 j q A;rw [Uc,Uk] at j;have n:=au j q;clear j q A);go_ret;obtain ⟨y,z,o,N,O⟩:=H.out;exact ⟨_,L,rfl,y,z,n.out.1,o.grown n.out.2 o.size (λk e=>D2)⟩
def pr {a:Act} {K:Act->ZT->Prop} (f:o.guard=ZX) (d x:Operand) (b c:ZO) (e:o.op=Op.call { callee:=Callee.builtin Builtin.copy,args:=#[d,x],argTypes:=#[b,c] })
 (v u:ZS) (hd:a.eval d=v) (hx:a.eval x=u) {v':ZS} {w':ZT} (hr:(Builtin.copy_ #[b,c] o.type #[v,u]).run ZN w=.ok v' w') (hK:K (a.put o.dst v') w'):if Region.wanted o (yielded ops a.tmps)=ZV then Oper.wp ZN o a w K Q else E:=by
 rw [if_pos (by simp [Region.wanted,f])];unfold Oper.wp;simp [execOp,e,resolve,invoke,builtin,hd,hx,hr,Result.andThen];exact hK
theorem LQ (cur c v:List α) (a m k:Nat) (g:cur.take k=c) (j:c.length=k) (hv:v.length=m) (f:a<=k) (l:k+m<=cur.length) :
 ((cur.take (a+m)++c.drop a++cur.drop (a+m+(c.drop a).length)).take a++v++(cur.take (a+m)++c.drop a++cur.drop (a+m+(c.drop a).length)).drop (a+v.length)).take (k+m)=c.take a++(v++c.drop a) /\
 ((cur.take (a+m)++c.drop a++cur.drop (a+m+(c.drop a).length)).take a++v++(cur.take (a+m)++c.drop a++cur.drop (a+m+(c.drop a).length)).drop (a+v.length)).length=cur.length:=by
 have b:(cur.take (a+m)).length=a+m:=KP
 have d:(cur.take (a+m)++c.drop a++cur.drop (a+m+(c.drop a).length)).take a=c.take a:=by
  rw [UI,XN eb,YK,VV eb,<- g,YK,VV f]
 have e:(cur.take (a+m)++c.drop a++cur.drop (a+m+(c.drop a).length)).drop (a+v.length)=c.drop a++cur.drop (a+m+(c.drop a).length):=by
  rw [hv,UI];exact List.drop_left' b
 have h:(c.take a).length=a:=KP
 have i:(c.drop a).length=k-a:=by rw [Ue];omega
 rw [d,e];constructor
 . rw [UI,<- UI v,<- UI (c.take a)];have:(c.take a++(v++c.drop a)).length=k+m:=by rw [T5,T5];omega
   rw [<- this,XJ]
 . simp only [T5,Ue,Ud];omega
def kS (b:Nat):∀ (a:List ZS) (o:Nat) (w:ZT),(w.drew.setCells b o a).heap=(w.setCells b o a).heap
 | [],_,_=>rfl
 | v::r,o,w=>kS b r (o+1) (w.setCell ⟨b,o,ZX⟩ v)
theorem FS (L:List (Ob×ZS)) (x:Ob×ZS) (i:Nat):(bO L).take (i*3)++(ju x++(bO L).drop (i*3))=bO (L.take i++x::L.drop i):=by
 rw [BV,uk,iQ];congr 1
def FT:(ZN.info? 130).map (·.size)=ZW 3:=ei
theorem Cn {L:List (Ob×ZS)} (z:w.heap[g]?=ZW (Z5 cur 130 (0,0))) (Q:base<=g) (B:cur.size=cap*3) (y:cur.toList.take (L.length*3)=bO L) (N:∀ u∈bO L,u.oneCell'=ZV) (T:∀ u∈ju x,u.oneCell'=ZV)
 (X:i<L.length) (V:L.length+1<=cap) (Y:L.length<=10000) (C:w.heap[vb]?=ZW (Z5 (ju x).toArray 130 (0,0))) (R:vb≠g) :
 ZR ZN 146 #[Z6 (ZW ⟨g,0,ZX⟩) L.length cap,Z8 Z9 i,Z6 (ZW ⟨vb,0,ZX⟩) 1 1] w λe w'=>e=Z4 (Z6 (ZW ⟨g,0,ZX⟩) (L.length+1) cap)/\Below base w w'/\∃ a,ay w' g 130 a/\a.length=cap*3/\a.take ((L.length+1)*3)=bO (L.take i++x::L.drop i):=by
 obtain ⟨n,O⟩:=nM (L.length);have m:ay w g 130 cur.toList:=by unfold ay;exact z
 have p:ay w vb 130 (ju x):=C;have h:cur.toList.length=cap*3:=vE B
 have r:((bO L).drop (i*3)).length=(n-i)*3:=by rw [Ue,bQ,O];omega
 have kg:(ju x).length=3:=rfl;have S:∀ lb v ob,(callFunc 168 #[Z6 (ZW ⟨vb,0,ZX⟩) 1 1,Z6 (ZW ⟨g,ob,ZX⟩) lb v]).run ZN w=.ok (.value (Z3 ZU)) w:=λlb v ob=>by
  rw [run_callFunc_extern func168 ei ei ei (e:=Extern.SlicesOverlaps.overlaps #[112,112] #[4]) ei,
   Lib.run_overlaps_apart w 112 4 130 underlying112 3 (λw=>by obtain ⟨io,kb,kc,hs,ke⟩:=Ur Tryz.R7;simp [sizeOf,typeInfo,kb,hs]) ⟨vb,0,ZX⟩ ⟨g,ob,ZX⟩ 1 1 lb v R 130 130 3 (cap*3) (by simp [World.shape?,C];rfl) (by simp [World.shape?,z,B]) eb (p.R8 _) (p.R8 _)]
  rfl
 have I:∀ c d l1 b D l2 E,d=i*3+3->l1=n-i->D=i*3->l2=n+1-i->(Builtin.copy_ #[113,113] c #[Z6 (ZW ⟨g,d,ZX⟩) l1 b,Z6 (ZW ⟨g,D,ZX⟩) l2 E]).run ZN w.drew=.ok (goInt (YG l2 l1)) (w.drew.setCells g (i*3+3) ((bO L).drop (i*3))):=by
  rintro c d l1 b D l2 E rfl rfl rfl rfl;refine dC w.drew _ _ c 130 3 g (i*3+3) _ b g (i*3) _ E 130 cur.toList _ Vk FT (by rw [r];show _=min _ _*3;rw [Nat.min_eq_right eb]) (λj u l=>?_) m (by rw [r,h];omega) (λu hu=>N u (UV hu));refine m.cell ?_;rw [VM] at l;have kf:i*3+j<L.length*3:=by obtain ⟨q,_⟩:=UT.1 l;rwa [bQ] at q
  rw [<- y,VP kf] at l;exact l
 have f:=m.set (i*3+3) ((bO L).drop (i*3)) (by rw [r,h];omega);have G:ay (w.setCells g (i*3+3) ((bO L).drop (i*3))) vb 130 (ju x):=p.keep (aU g _ _ _ _ R);obtain ⟨c1,A⟩:=nM (cur.toList.take (i*3+3)++(bO L).drop (i*3)++cur.toList.drop (i*3+3+((bO L).drop (i*3)).length));have K:=LQ cur.toList (bO L) (ju x) (i*3) 3 (L.length*3) y (bQ L) rfl eb (by rw [h];omega);rw [A] at f K;obtain ⟨s,t⟩:=K;have o:c1.length=cap*3:=by
  rw [<- A];simp only [T5,Ue,Ud,bQ,h];omega
 have J:∀ (W:ZT),W.heap=(w.setCells g (i*3+3) ((bO L).drop (i*3))).heap->∀ c d l1 b,d=i*3->l1=n+1-i->(Builtin.copy_ #[113,112] c #[Z6 (ZW ⟨g,d,ZX⟩) l1 b,Z6 (ZW ⟨vb,0,ZX⟩) 1 1]).run ZN W=.ok (goInt (YG 1 l1)) (W.setCells g (i*3) (ju x)):=by
  rintro W M c d l1 b rfl rfl;have k7:ay W g 130 c1:=by unfold ay;rw [M];exact f
  have Z:ay W vb 130 (ju x):=by unfold ay;rw [M];exact G
  refine dC W _ _ c 130 3 g (i*3) _ b vb 0 1 1 130 c1 _ Vk FT (by show _=min _ _*3;rw [VV eb];rfl) (λj u l=>?_) k7 (by rw [o,kg];omega) T;rw [Uc];exact Z.cell l
 have H:=aE f s t;have ka:=al m.lt;have o:=al o;have hr:=al h;have F:=au I J;have U:=al S;rw [O] at X V Y ⊢;have kr:IntKind.i64.wrap ((i:Int)+1)=(i:Int)+1:=iE
 have ks:¬ (cap:Int)<(n:Int)+1:=eb
 have ko:i<=n:=eb
 have ki:¬ (cap=i+1):=eb
 have kk:¬ (cap=i):=eb
 have kp:((i:Int)+1).toNat=i+1:=eb
 have kh:(0:Int)<=(i:Int)+1:=eb
 have kj:(i:Int)<=(n:Int)+1:=eb
 clear m p r S I J f G A s t h B y N T C z;go_enter func146,ntmps146;go_wp2_with (simp only [U.out]);go_region_law (refine pr rfl _ _ 113 113 rfl _ _ vm vm (F.out.1 _ ((i+1)*3) (n-i) (cap-(i+1)) (i*3) (n+1-i) (cap-i) eb eb eb eb) ?_)
 have k9:∀ c b,(Builtin.copy_ #[113,112] c #[Z6 (ZW ⟨g,i*3,ZX⟩) (n+1-i) b,Z6 (ZW ⟨vb,0,ZX⟩) 1 1]).run ZN (w.drew.setCells g (i*3+3) ((bO L).drop (i*3)))=.ok (goInt (YG 1 (n+1-i))) ((w.drew.setCells g (i*3+3) ((bO L).drop (i*3))).setCells g (i*3) (ju x)):=λc b=>F.out.2 _ (kS _ _ _ _) c (i*3) (n+1-i) b rfl rfl;go_wp2;go_ret;obtain ⟨f,s,t⟩:=H.out;have k8:ay (w.drew.setCells g (i*3+3) ((bO L).drop (i*3))) g 130 c1:=by unfold ay;rw [kS];exact f
 have km:g<w.heap.size:=ka.out;have P:Below base w (w.drew.setCells g (i*3+3) ((bO L).drop (i*3))):=(TX base w).drew.grown (b9 _ _ _ _) (by show base<=w.heap.size;omega) (λk e=>by cases e;exact Q);refine ⟨rfl,P.grown (b9 _ _ _ _) (TU eb P.size) (λk e=>by cases e;exact Q),_,k8.set (i*3) (ju x) (by have h1:c1.length=cap*3:=o.out;have h2:(ju x).length=3:=rfl;omega),?_,?_⟩
 . rw [t];exact hr.out
 . rw [(eb:(n+1)*3=L.length*3+3),s,FS]
theorem Co {L:List (Ob×ZS)} (Z:w.heap[g]?=ZW (Z5 cur 130 (0,0))) (kp:base<=w.heap.size) (kr:cur.size=cap*3) (P:cur.toList.take (L.length*3)=bO L) (hs:∀ u∈bO L,u.oneCell'=ZV) (ki:∀ u∈ju x,u.oneCell'=ZV)
 (hi:i<L.length) (ky:L.length<=cap) (hy:cap<L.length+1) (hl:L.length<=10000) (hx:w.heap[vb]?=ZW (Z5 (ju x).toArray 130 (0,0))) :
 ZR ZN 146 #[Z6 (ZW ⟨g,0,ZX⟩) L.length cap,Z8 Z9 i,Z6 (ZW ⟨vb,0,ZX⟩) 1 1] w λe w'=>∃ c,e=Z4 (Z6 (ZW ⟨w.heap.size,0,ZX⟩) (L.length+1) c)/\Below base w w'/\L.length+1<=c/\c<=9223372036854775807/\∃ d,ay w' w.heap.size 130 d/\d.length=c*3/\d.take ((L.length+1)*3)=bO (L.take i++x::L.drop i):=by
 obtain ⟨io,kg,hq,hr,R⟩:=Ur Tryz.R7;obtain ⟨n,I⟩:=nM (L.length);have v:ay w g 130 cur.toList:=by unfold ay;exact Z
 have S:ay w vb 130 (ju x):=hx;have z:((bO L).drop (i*3)).length=(n-i)*3:=by rw [Ue,bQ,I];omega
 have p:((bO L).take (i*3)).length=i*3:=by rw [Ud,bQ,I];omega
 have A:(ju x).length=3:=rfl;have X:∀ j u,(bO L)[j]?=ZW u->w.cell? ⟨g,j,ZX⟩=ZW u:=λj u b=>by
  refine v.cell ?_;have U:j<L.length*3:=Zl
  rw [<- P,VP U] at b;exact b
 have hold:(Builtin.firstCells io.size i (Z6 (ZW ⟨g,0,ZX⟩) i cap)).run ZN w.drew=.ok ((bO L).take (i*3)).toArray w.drew:=by
  rw [hr];exact run_firstCells_some w.drew 3 i ⟨g,0,ZX⟩ i cap _ p (λj u b=>by
   rw [Vj,Uc];rw [Xx] at b;split at b
   . exact X j u b
   . cases b)
 have kf:i+(n+1-i)=n+1:=eb
 have kh:(n:Int)+1-(i:Int)=((n+1-i:Nat):Int):=eb
 have r:=λh=>Lib.run_append_grow_zeros w 113 3 h 130 io _ .i64 .i64 Vk Xj kg hq (ZW ⟨g,0,ZX⟩) i cap _ hold (n+1-i) eb eb eb eb (by rw [R];omega) (by rw [R,kf];exact X9 eb eb);rw [kf] at r;obtain ⟨C,G⟩:=nM (grownCap w (n+1) cap 130);have km:n+1<=C:=by rw [<- G];exact Ya w _ _ _
 have ko:C<=9223372036854775807:=by
  have:=Yb w (n+1) cap 130 eD;rw [G] at this;unfold maxLen at this;omega
 rw [G] at r;obtain ⟨a,D⟩:∃ a:Array ZS,((bO L).take (i*3)).toArray++Builtin.zeroCells (Value.agg #[Z0 YE,Z8 Z9 0,Z6 ZX 0 0]).cells (n+1-i)++Builtin.zeroCells (Value.agg #[Z0 YE,Z8 Z9 0,Z6 ZX 0 0]).cells (C-(n+1))=a:=⟨_,rfl⟩;rw [D] at r;have kk:(Value.agg #[Z0 YE,Z8 Z9 0,Z6 ZX 0 0]).cells.size=3:=l3
 have J:a.toList.length=C*3:=by
  rw [<- D];simp only [Wm,Array.size_append,size_zeroCells,Uy,kk,p];omega
 have kc:a.toList.take (i*3)=(bO L).take (i*3):=by
  rw [<- D,YT,YT,UI,XN (by simp [p])];rw [UU (by simp [p])]
 obtain ⟨l,M⟩:=nM (w.drew.alloc (Z5 a 130));rw [M] at r;have T:ay l w.heap.size 130 a.toList:=by rw [<- M];exact Yh w.drew _
 have s:bW w l:=by rw [<- M];exact (TX _ w).drew.alloc lR _
 have kj:ay l vb 130 (ju x):=S.keep (s.block _ S.lt);have ke:ay l g 130 cur.toList:=v.keep (s.block _ v.lt);have t:∀ h o,(Builtin.copy_ #[113,112] h #[Z6 (ZW ⟨w.heap.size,i*3,ZX⟩) (n+1-i) o,Z6 (ZW ⟨vb,0,ZX⟩) 1 1]).run ZN l=.ok (goInt (YG 1 (n+1-i))) (l.setCells w.heap.size (i*3) (ju x)):=λh o=>by
  refine dC l _ _ h 130 3 w.heap.size (i*3) _ o vb 0 1 1 130 a.toList _ Vk FT (by show _=min _ _*3;rw [VV eb];rfl) (λj u b=>?_) T (by rw [J,A];omega) ki;rw [Uc];exact kj.cell b
 have y:=T.set (i*3) (ju x) (by rw [J,A];omega);obtain ⟨f,N⟩:=nM (l.setCells w.heap.size (i*3) (ju x));have kx:g<w.heap.size:=v.lt;have hp:ay f g 130 cur.toList:=by rw [<- N];exact ke.keep (aU _ _ _ _ _ eb)
 have Q:bW w f:=by rw [<- N];exact s.grown (b9 _ _ _ _) s.size (λk e=>D2)
 rw [N] at t y;obtain ⟨m,O⟩:=nM (a.toList.take (i*3)++ju x++a.toList.drop (i*3+(ju x).length));have F:m.length=C*3:=by rw [<- O];simp only [T5,Ue,Ud,J,A];omega
 have Y:m.take (i*3+3)=(bO L).take (i*3)++ju x:=by
  rw [<- O,kc];have:((bO L).take (i*3)++ju x).length=i*3+3:=by rw [T5,p,A]
  rw [<- this,XJ]
 rw [O] at y;have hh:∀ h o V,(Builtin.copy_ #[113,113] h #[Z6 (ZW ⟨w.heap.size,(i+1)*3,ZX⟩) (n-i) o,Z6 (ZW ⟨g,i*3,ZX⟩) (n-i) V]).run ZN f.drew=.ok (goInt (YG (n-i) (n-i))) (f.drew.setCells w.heap.size ((i+1)*3) ((bO L).drop (i*3))):=λh o V=>by
  refine dC f.drew _ _ h 130 3 w.heap.size ((i+1)*3) _ o g (i*3) _ V 130 m _ Vk FT (by rw [z];show _=min _ _*3;rw [Nat.min_self]) (λj u b=>?_) y (by rw [z,F];omega) (λu hu=>hs u (UV hu));have h2:f.cell? ⟨g,i*3+j,ZX⟩=ZW u:=by
   refine hp.cell ?_;rw [VM] at b;have U:i*3+j<L.length*3:=Zl;rw [<- P,VP U] at b;exact b
  exact h2
 have K:ay (f.drew.setCells w.heap.size ((i+1)*3) ((bO L).drop (i*3))) w.heap.size 130 _:=ay.set (w:=f.drew) y ((i+1)*3) ((bO L).drop (i*3)) (by rw [z,F];omega);have E:bW w (f.drew.setCells w.heap.size ((i+1)*3) ((bO L).drop (i*3))):=Q.drew.grown (b9 _ _ _ _) Q.size (λk e=>D2);have hm:(m.take ((i+1)*3)++(bO L).drop (i*3)++m.drop ((i+1)*3+((bO L).drop (i*3)).length)).length=C*3/\(m.take ((i+1)*3)++(bO L).drop (i*3)++m.drop ((i+1)*3+((bO L).drop (i*3)).length)).take ((n+1)*3)=bO (L.take i++x::L.drop i):=by
  constructor
  . simp only [T5,Ue,Ud,bQ,F,I];omega
  . rw [(eb:(i+1)*3=i*3+3),Y];have:((bO L).take (i*3)++ju x++(bO L).drop (i*3)).length=(n+1)*3:=by rw [T5,T5,p,A,z];omega
    rw [<- this,XJ,UI,FS]
 have H:=aE K E hm;have B:=aE r t hh;have W:=au km ko;rw [I] at hi hy hl ky ⊢;have q6:IntKind.i64.wrap ((i:Int)+1)=(i:Int)+1:=iE
 have q7:(cap:Int)<(n:Int)+1:=eb
 have q4:i<=n:=eb
 have q0:¬ (C=i+1):=eb
 have q2:¬ (cap=i):=eb
 have q3:¬ (C=i):=eb
 have q5:((i:Int)+1).toNat=i+1:=eb
 have kz:(0:Int)<=(i:Int)+1:=eb
 have q1:(i:Int)<=(n:Int)+1:=eb
 clear v S z p X hold r D J kc M T s kj ke t y N hp Q O F Y hh K E hm G kk kr P hs ki hx Z kx kg hq hr R;rw [<- kh] at B;go_enter func146,ntmps146;clear kh;have t:=B.out.2.1;go_wp2_with (at_builtin;refine Lib.wpList_append_run _ rfl _ _ _ _ rfl _ _ rfl rfl _ _ (B.out.1 _) ?_);clear t;go_region_law (refine pr rfl _ _ 113 113 rfl _ _ vm vm (B.out.2.2 _ (C-(i+1)) (cap-i)) ?_)
 go_wp2;go_ret;obtain ⟨K,E,ks,kv⟩:=H.out;exact ⟨C,rfl,E.mono kp,W.out.1,W.out.2,_,K,ks,kv⟩
def N5 (d:w.heap[vb]?=ZW (Z5 (ju x).toArray 130 (0,0))) (b:∀ u∈ju x,u.oneCell'=ZV):Src ZN 3 112 (Z6 (ZW ⟨vb,0,ZX⟩) 1 1) 1 (ju x) w:=by
 have a:ay w vb 130 (ju x):=d;exact U8 w underlying112 ⟨vb,0,ZX⟩ 1 1 (ju x) rfl (λj u c=>by rw [Vj,Uc];exact a.cell c) b
theorem EF {L:List (Ob×ZS)} (ho:w.ownsRow base 130 3 u L.length (bO L)) (d:base<=w.heap.size) (l:∀ u∈ju x,u.oneCell'=ZV) (v:L.length<=10000) (m:w.heap[vb]?=ZW (Z5 (ju x).toArray 130 (0,0))) :
 ZR ZN 146 #[u,Z8 Z9 (L.length:Nat),Z6 (ZW ⟨vb,0,ZX⟩) 1 1] w λe w'=>∃ u',e=Z4 u'/\w'.ownsRow base 130 3 u' (L.length+1) (bO (L++[x]))/\Below base w w':=by
 obtain ⟨z,t,p,q,r⟩:=Ur Tryz.R7;have i:=N5 m l;have h:∀ k,u.ownBlock=ZW k->base<=k:=λk e=>by
  rcases ho.2 with ⟨rfl,_⟩|⟨g,cap,cur,rfl,s,_⟩
  . cases e
  . cases e;exact s
 have H:=aE ho i h;obtain ⟨n,y⟩:=nM (L.length);have j:bO (L++[x])=bO L++ju x:=by rw [iQ];congr 1
 rw [j];rcases ho.2 with ⟨rfl,o⟩|⟨g,cap,cur,rfl,s,B,C,E,F,A⟩
 . rw [y] at o v H ⊢;subst o;clear ho i h m l j;go_enter func146,ntmps146;go_wp2_with (at_builtin;refine af _ rfl (Z1 23) (Z1 24) 113 112 rfl base 130 z _ 3 48 Vk t p q r rfl _ 0 (bO L) l3 abI _ l3 1 (ju x) (by exact H.out.2.1) eD eb d ?_;intro D w3 c b f;have a:=au c b;clear c b f);go_ret;exact ⟨_,rfl,a.out.1,(TX base w).grown a.out.2 d H.out.2.2⟩
 . rw [y] at v H C ⊢;clear ho i h m l j A B;go_enter func146,ntmps146;go_wp2_with (at_builtin;refine af _ rfl (Z1 23) (Z1 24) 113 112 rfl base 130 z _ 3 48 Vk t p q r rfl _ n (bO L) l3 abI _ l3 1 (ju x) (by exact H.out.2.1) eD eb d ?_;intro D w3 c b f;have a:=au c b;clear c b f);all_goals (go_ret;exact ⟨_,rfl,a.out.1,(TX base w).grown a.out.2 d H.out.2.2⟩)
def Ac {cur:List ZS} {L:List (Ob×ZS)} (h:ay w g 130 cur) (a:base<=g) (d:n=L.length) (b:n<=cap) (e:cap<=9223372036854775807) (c:cur.length=cap*3) (ht:cur.take (n*3)=bO L):w.ownsRow base 130 3 (Z6 (ZW ⟨g,0,ZX⟩) n cap) n (bO L):=
 ⟨by rw [bQ,d],.inr ⟨g,cap,cur.toArray,rfl,a,h,b,eD,vE c,vE ht⟩⟩
def EG {L:List (Ob×ZS)} (ho:w.ownsRow base 130 3 u L.length (bO L)) (f:base<=w.heap.size) (q:∀ u∈bO L,u.oneCell'=ZV) (j:∀ u∈ju x,u.oneCell'=ZV) (k:L.length<=10000) (l:w.heap[vb]?=ZW (Z5 (ju x).toArray 130 (0,0))) (E:u.ownBlock≠ZW vb) (B:i<=L.length) :
 ZR ZN 146 #[u,Z8 Z9 (i:Nat),Z6 (ZW ⟨vb,0,ZX⟩) 1 1] w λe w'=>∃ u',e=Z4 u'/\w'.ownsRow base 130 3 u' (L.length+1) (bO (L.take i++x::L.drop i))/\Below base w w':=by
 rcases XQ B with e|v
 . subst e;rw [VE,YU];exact EF ho f j k l
 . have p:L.length+1=(L.take i++x::L.drop i).length:=en;rcases ho.2 with ⟨rfl,F⟩|⟨g,cap,cur,rfl,r,s,D,C,t,o⟩
   . omega
   . have A:cap<=9223372036854775807:=(by unfold maxLen at C;omega);by_cases n:L.length+1<=cap
     . refine (Cn s r t o q j v n k l (λe=>E (by rw [e];rfl))).mono ?_;rintro e w' ⟨rfl,h,a,b,c,d⟩;exact ⟨_,rfl,Ac b r p n A c d,h⟩
     . refine (Co s f t o q j v D eb k l).mono ?_;rintro e w' ⟨m,rfl,h,y,z,a,b,c,d⟩;exact ⟨_,rfl,Ac b f p y z c d,h⟩
def Ad {xs:List ZS} (ho:w.ownsRow base 130 3 u n xs) (d:g<base):u.ownBlock≠ZW g:=λe=>by
 rcases ho.2 with ⟨rfl,_⟩|⟨a,cap,cur,rfl,c,_⟩
 . cases e
 . have:a=g:=Zh;omega
def Ae {xs:List ZS} (ho:w.ownsRow base 130 3 u n xs) (d:w.heap.size<=g):u.ownBlock≠ZW g:=λe=>by
 rcases ho.2 with ⟨rfl,_⟩|⟨a,cap,cur,rfl,c,h,_⟩
 . cases e
 . have:a=g:=Zh;have:=(TW.1 h).1;omega
def Ir {xs:List ZS} (ho:w.ownsRow base 130 3 u n xs) (o:Obj):(w.alloc o).ownsRow base 130 3 u n xs:=by
 refine ⟨ho.1,?_⟩;rcases ho.2 with h|⟨g,cap,cur,rfl,a,h,b⟩
 . exact .inl h
 . exact .inr ⟨g,cap,cur,rfl,a,(VN w o g (TW.1 h).1).trans h,b⟩
def uK (K:Nat->Prop) (w:ZT) (os:List Ob) (e:ZP) (w':ZT):Prop:=∃ u,e=Z4 u/\fa K w' u os/\bW w w'
theorem Cp (P:fa K w v os) (k9:os.length<=9999) (hK:∀ k,w.heap.size<=k->K k) {i:Nat} (hi:i<=os.length) (o:Ob) (a:ZS) (D:bp K w a o.RM) :
 ZR ZN 109 #[v,Z8 Z9 (i:Nat),.agg #[Z0 o.name,Z8 Z9 (o.size:Nat),a]] w (uK K w (os.take i++o::os.drop i)):=by
 obtain ⟨nm,T⟩:=nM (o.name);obtain ⟨sz,V⟩:∃ sz:Int,((o.size:Nat):Int)=sz:=⟨_,rfl⟩;have X:∀ u∈ju (o,a),u.oneCell'=ZV:=by
  obtain ⟨ao,c,e,_⟩:=D;exact FD ⟨ao,_,c,e⟩
 have Y:(ju (o,a)).toArray=#[Z0 nm,Z8 Z9 sz,a]:=by rw [<- T,<- V];rfl
 have R:∀ W,bW w W->ZR ZN 118 #[v] W λe w'=>∃ u L,e=Z4 u/\L.map (·.1)=os/\NQ K W L/\w'.ownsRow W.heap.size 130 3 u L.length (bO L)/\bW W w':=λW x=>pj (P.keep (dN.RN x)) eb;have S:∀ (W m:ZT) (u:ZS) (L:List (Ob×ZS)) (base vb:Nat),bW w W->bW W m->L.map (·.1)=os->NQ K W L->m.ownsRow base 130 3 u L.length (bO L)->w.heap.size<=base->W.heap.size<=base->base<=m.heap.size->m.heap[vb]?=ZW (Z5 #[Z0 nm,Z8 Z9 sz,a] 130 (0,0))->u.ownBlock≠ZW vb ->
  ZR ZN 146 #[u,Z8 Z9 (i:Nat),Z6 (ZW ⟨vb,0,ZX⟩) 1 1] m (uK K w (os.take i++o::os.drop i)):=λW m u L base vb x k5 f d ho ka hz k6 hx k7=>by
  have k8:L.length=os.length:=by rw [<- f,TZ]
  refine (EG ho k6 d.one X eb (by rw [Y];exact hx) k7 eb).mono ?_;rintro e w' ⟨u',rfl,U,k0⟩;have A:bW W w':=k5.trans (k0.mono hz);have M:bW w w':=x.trans (A.mono x.size);have N:L.length+1=(L.take i++(o,a)::L.drop i).length:=en
  rw [N] at U;refine ⟨u',rfl,?_,M⟩;have g:=uo (K:=K) (L:=L.take i++(o,a)::L.drop i) U (by rw [<- N];omega) (λk hk=>hK k eb) (λy Z=>by
   rw [Ub,Un] at Z;rcases Z with h|h|h
   . exact (d y (US h)).keep (dN.RN A)
   . subst h;exact D.keep (dN.RN M)
   . exact (d y (UV h)).keep (dN.RN A))
  have e:(L.take i++(o,a)::L.drop i).map (·.1)=os.take i++o::os.drop i:=by rw [Uu,UD,Wi,Wj,f]
  rwa [e] at g
 rw [T,V];have E:=al R;have F:=al S;clear R S P D X Y hK;go_enter func109,ntmps109;have t:bW w (w.alloc (Z5 #[Z0 nm,Z8 Z9 sz,a] 130)).drew:=(bA w _).drew;have Q:bW w ((w.alloc (Z5 #[Z0 nm,Z8 Z9 sz,a] 130)).drew.alloc (Z5 #[Z0 nm,Z8 Z9 sz,a] 130)):=t.alloc t.size _;have l:=au t Q;have J:=UG w (Z5 #[Z0 nm,Z8 Z9 sz,a] 130);have r:ay (w.alloc (Z5 #[Z0 nm,Z8 Z9 sz,a] 130)).drew w.heap.size 130 [Z0 nm,Z8 Z9 sz,a]:=J;have G:=r.cell (j:=0) (u:=Z0 nm) rfl;have g1:=r.cell (j:=1) (u:=Z8 Z9 sz) rfl;have H:=r.cell (j:=2) (u:=a) rfl;have I:=r.lt;have O:(w.alloc (Z5 #[Z0 nm,Z8 Z9 sz,a] 130)).drew.heap.size=w.heap.size+1:=by show (w.alloc _).heap.size=_;exact Ug _ _
 have C:((w.alloc (Z5 #[Z0 nm,Z8 Z9 sz,a] 130)).drew.alloc (Z5 #[Z0 nm,Z8 Z9 sz,a] 130)).heap[w.heap.size+1]?=ZW (Z5 #[Z0 nm,Z8 Z9 sz,a] 130):=by rw [<- O];exact UG _ _
 have B:=au C (show w.heap.size+1<((w.alloc (Z5 #[Z0 nm,Z8 Z9 sz,a] 130)).drew.alloc (Z5 #[Z0 nm,Z8 Z9 sz,a] 130)).heap.size from (TW.1 C).1);have s:=a5 I G g1 H;clear t Q I G g1 H J r C O;go_wp2_with fail;go_region_with (first
  | (go_at_call 118;first
   | (refine (E.out (w.alloc (Z5 #[Z0 nm,Z8 Z9 sz,a] 130)).drew l.out.1).mono ?_;rintro e w1 ⟨u,L,rfl,f,d,ho,n⟩;have b0:=λj=>n.cell (p:=⟨w.heap.size,j,ZX⟩) (s.out.1);have c0:w1.cell? ⟨w.heap.size,0,ZX⟩=ZW (Z0 nm):=(b0 0).trans s.out.2.1;have c1:w1.cell? ⟨w.heap.size,1,ZX⟩=ZW (Z8 Z9 sz):=(b0 1).trans s.out.2.2.1;have c2:w1.cell? ⟨w.heap.size,2,ZX⟩=ZW a:=(b0 2).trans s.out.2.2.2;clear b0;have b:=a5 f d ho n;clear f d ho n)
   | (refine (E.out ((w.alloc (Z5 #[Z0 nm,Z8 Z9 sz,a] 130)).drew.alloc (Z5 #[Z0 nm,Z8 Z9 sz,a] 130)) l.out.2).mono ?_;rintro e w1 ⟨u,L,rfl,f,d,ho,n⟩;have b:=a5 f d ho n;clear f d ho n))
  | (go_at_call 146;first
   | (refine (F.out (w.alloc (Z5 #[Z0 nm,Z8 Z9 sz,a] 130)).drew (w1.alloc (Z5 #[Z0 nm,Z8 Z9 sz,a] 130)) u L (w.alloc (Z5 #[Z0 nm,Z8 Z9 sz,a] 130)).drew.heap.size w1.heap.size l.out.1 (b.out.2.2.2.alloc b.out.2.2.2.size _) b.out.1 b.out.2.1 (Ir b.out.2.2.1 _) l.out.1.size lR (b.out.2.2.2.alloc b.out.2.2.2.size _).size (UG w1 _) (Ae b.out.2.2.1 lR)).mono ?_;rintro e w2 ⟨u2,rfl,g,q⟩;have z:=au g q;clear g q)
   | (refine (F.out ((w.alloc (Z5 #[Z0 nm,Z8 Z9 sz,a] 130)).drew.alloc (Z5 #[Z0 nm,Z8 Z9 sz,a] 130)) w1 u L ((w.alloc (Z5 #[Z0 nm,Z8 Z9 sz,a] 130)).drew.alloc (Z5 #[Z0 nm,Z8 Z9 sz,a] 130)).heap.size (w.heap.size+1) l.out.2 b.out.2.2.2 b.out.1 b.out.2.1 b.out.2.2.1 l.out.2.size lR b.out.2.2.2.size ((b.out.2.2.2.block _ B.out.2).trans B.out.1) (Ad b.out.2.2.1 B.out.2)).mono ?_;rintro e w2 ⟨u2,rfl,g,q⟩;have z:=au g q;clear g q)))
 all_goals (go_wp2;go_ret;exact ⟨_,rfl,z.out.1,z.out.2⟩)
def ji {a:Act} {K:Act->ZT->Prop} (f:o.guard=ZX) (d x:Operand) (b c:ZO) (e:o.op=Op.call { callee:=Callee.builtin Builtin.append,args:=#[d,x],argTypes:=#[b,c] })
 (v u:ZS) (hd:a.eval d=v) (hx:a.eval x=u) {v':ZS} {w':ZT} (hr:(Builtin.append_ #[b,c] o.type #[v,u]).run ZN w=.ok v' w') (hK:K (a.put o.dst v') w'):if Region.wanted o (yielded ops a.tmps)=ZV then Oper.wp ZN o a w K Q else E:=by
 rw [if_pos (by simp [Region.wanted,f])];unfold Oper.wp;simp [execOp,e,resolve,invoke,builtin,hd,hx,hr,Result.andThen];exact hK
theorem LR (cur:List ZS) (L:List (Ob×ZS)) (i N:Nat) (c:L.length=N+1) (j:i<=N) (e:cur.take (L.length*3)=bO L) (k:(N+1)*3<=cur.length) (a:List ZS) (h:a.length=3) :
 ((cur.take (i*3)++(bO L).drop ((i+1)*3)++cur.drop (i*3+((bO L).drop ((i+1)*3)).length)).take (N*3)++a++(cur.take (i*3)++(bO L).drop ((i+1)*3)++cur.drop (i*3+((bO L).drop ((i+1)*3)).length)).drop (N*3+a.length)).take (N*3)=bO (L.take i++L.drop (i+1)) /\
 ((cur.take (i*3)++(bO L).drop ((i+1)*3)++cur.drop (i*3+((bO L).drop ((i+1)*3)).length)).take (N*3)++a++(cur.take (i*3)++(bO L).drop ((i+1)*3)++cur.drop (i*3+((bO L).drop ((i+1)*3)).length)).drop (N*3+a.length)).length=cur.length:=by
 have g:((bO L).drop ((i+1)*3)).length=(N-i)*3:=by rw [Ue,bQ,c];omega
 have d:cur.take (i*3)=bO (L.take i):=by
  rw [<- BV,<- e,YK,VV eb]
 have f:(cur.take (i*3)++(bO L).drop ((i+1)*3)).length=N*3:=by rw [T5,Ud,g];omega
 have b:(cur.take (i*3)++(bO L).drop ((i+1)*3)++cur.drop (i*3+((bO L).drop ((i+1)*3)).length)).take (N*3)=cur.take (i*3)++(bO L).drop ((i+1)*3):=by
  conv=>lhs;rw [<- f]
  exact XJ
 constructor
 . rw [b,UI,XN eb,UU eb,d,uk,iQ]
 . rw [b];simp only [T5,Ue,Ud,bQ,h,c];omega
theorem EH {L:List (Ob×ZS)} (T:w.heap[g]?=ZW (Z5 cur 130 (0,0))) (X:base<=g) (Z:cur.size=cap*3) (C:cur.toList.take (L.length*3)=bO L) (R:∀ u∈bO L,u.oneCell'=ZV) (F:L.length=N+1) (U:i<=N) (k8:L.length<=cap) (kc:cap<=9223372036854775807) (hl:L.length<=10000) :
 ZR ZN 117 #[Z6 (ZW ⟨g,0,ZX⟩) L.length cap,Z8 Z9 (i:Nat),Z8 Z9 ((i:Int)+1)] w λe w'=>e=Z4 (Z6 (ZW ⟨g,0,ZX⟩) N cap)/\Below base w w'/\∃ a,ay w' g 130 a/\a.length=cap*3/\a.take (N*3)=bO (L.take i++L.drop (i+1)):=by
 obtain ⟨Y,K,Q,t,hr⟩:=Ur Tryz.R7;have l:ay w g 130 cur.toList:=by unfold ay;exact T
 have n:cur.toList.length=cap*3:=vE Z
 have s:((bO L).drop ((i+1)*3)).length=(N-i)*3:=by rw [Ue,bQ,F];omega
 have O:∀ u∈(bO L).drop ((i+1)*3),u.oneCell'=ZV:=λu A=>R u (UV A);have M:∀ j u,(bO L)[j]?=ZW u->w.drew.cell? ⟨g,j,ZX⟩=ZW u:=λj u b=>by
  have h2:w.cell? ⟨g,j,ZX⟩=ZW u:=by
   refine l.cell ?_;have kb:j<L.length*3:=Zl;rw [<- C,VP kb] at b;exact b
  exact h2
 have S:∀ d,Src ZN 3 113 (Z6 (ZW ⟨g,if cap=i+1 then 0 else (i+1)*3,ZX⟩) (N-i) d) (N-i) ((bO L).drop ((i+1)*3)) w.drew:=λd=>by
  refine U8 w.drew Vk _ (N-i) d _ s (λj u b=>?_) O;rw [Vj];split
  . rename_i v
    have:N-i=0:=eb
    rw [this] at s;have:=UK (by omega:((bO L).drop ((i+1)*3)).length=0);rw [this] at b;simp at b
  . rw [VM] at b;exact M _ _ b
 have D:∀ m d,(Builtin.append_ #[113,113] m #[Z6 (ZW ⟨g,0,ZX⟩) i cap,Z6 (ZW ⟨g,if cap=i+1 then 0 else (i+1)*3,ZX⟩) (N-i) d]).run ZN w.drew=.ok (Z6 (ZW ⟨g,0,ZX⟩) N cap) (w.drew.setCells g (i*3) ((bO L).drop ((i+1)*3))):=λm d=>by
  have hs:Src ZN Y.size 113 (Z6 (ZW ⟨g,if cap=i+1 then 0 else (i+1)*3,ZX⟩) (N-i) d) (N-i) ((bO L).drop ((i+1)*3)) w.drew:=by rw [t];exact S d
  have h:=run_append_room_src (P:=ZN) (w:=w.drew) 113 113 m 130 Y Vk K g 0 i cap _ (N-i) _ hs eb (λj b=>by
   rw [t];have:=l.cell (T2 (by rw [n];rw [s] at b;omega:0+i*3+j<cur.toList.length));show (w.cell? _).isSome=ZV;rw [this];rfl) (λj b=>l.R8 _)
  rw [t,Uc,(eb:i+(N-i)=N)] at h;exact h
 have r:ay (w.drew.setCells g (i*3) ((bO L).drop ((i+1)*3))) g 130 _:=ay.set (w:=w.drew) l (i*3) ((bO L).drop ((i+1)*3)) (by rw [s,n];omega);obtain ⟨p,G⟩:=nM (w.drew.setCells g (i*3) ((bO L).drop ((i+1)*3)));have I:Below base w p:=by rw [<- G];exact (TX base w).drew.grown (b9 _ _ _ _) (by show base<=w.heap.size;have:=l.lt;omega) (λk e=>by cases e;exact X)
 rw [G] at D r;obtain ⟨c1,J⟩:=nM (cur.toList.take (i*3)++(bO L).drop ((i+1)*3)++cur.toList.drop (i*3+((bO L).drop ((i+1)*3)).length));obtain ⟨f,y,x,k9⟩:∃ f,(Builtin.zeroCells (Value.agg #[Z0 YE,Z8 Z9 0,Z6 ZX 0 0]).cells 1).toList=f/\f.length=3/\∀ u∈f,u.oneCell'=ZV:=by
  refine ⟨[Z0 YE,Z8 Z9 0,Z6 ZX 0 0],ei,rfl,?_⟩;intro u A;simp only [Un,W4,or_false] at A;rcases A with rfl|rfl|rfl<;>rfl
 have B:=LR cur.toList L i N F U C (by rw [n];omega) f x;rw [J] at r B;have E:c1.length=cap*3:=by rw [<- J];simp only [T5,Ue,Ud,bQ,n];omega
 have ka:∀ m c,(Builtin.clear_ #[113] m #[Z6 (ZW ⟨g,N*3,ZX⟩) 1 c]).run ZN p=.ok (ZZ #[]) (p.setCells g (N*3) f):=λm c=>by
  have h:=uj (P:=ZN) p 113 130 m g (N*3) 1 c 130 c1 Vk (z:=.agg #[Z0 YE,Z8 Z9 0,Z6 ZX 0 0]) (λw=>by simp [zeroValue,typeInfo,K,Q]) eb r (by rw [y,x,E];omega) (by rw [y];exact k9);rw [y] at h;exact h
 have V:=r.set (N*3) f (by rw [x,E];omega);have W:Below base w (p.setCells g (N*3) f):=I.grown (b9 _ _ _ _) (TU (eT l.lt) I.size) (λk e=>by cases e;exact X);have H:=a5 V W B n;have o:=al D;rw [F] at k8 hl ⊢;have k1:(0:Int)<=(i:Int)+1:=eb
 have k2:((i:Int)+1).toNat=i+1:=eb
 have k3:¬ cap=N:=eb
 have k4:i<=N+1:=eb
 have k5:(i:Int)<=(N:Int)+1:=eb
 clear l n s O M S D r G I J y x k9 B E V W T Z C R K Q t hr;by_cases v:cap=i+1
 . rw [if_pos v] at o;obtain rfl:i=N:=eb;subst v;rw [Wp] at o;clear k8 U k3;go_enter func117,ntmps117;go_wp2;go_region_law (refine ji rfl _ _ 113 113 rfl _ _ vm vm (o.out _ 0) ?_)
   go_wp2;go_ret;exact ⟨rfl,H.out.2.1,_,H.out.1,H.out.2.2.1.2.trans H.out.2.2.2,H.out.2.2.1.1⟩
 . rw [if_neg v] at o;have k6:i<=cap:=eb;have k7:(i:Int)<=(cap:Int):=eb;go_enter func117,ntmps117;go_wp2;go_region_law (refine ji rfl _ _ 113 113 rfl _ _ vm vm (o.out _ (cap-(i+1))) ?_)
   go_wp2;go_ret;exact ⟨rfl,H.out.2.1,_,H.out.1,H.out.2.2.1.2.trans H.out.2.2.2,H.out.2.2.1.1⟩
theorem uL (o:fa K w v os) (S:os.length<=9999) (hK:∀ k,w.heap.size<=k->K k) {i:Nat} (Q:i<os.length) :
 ZR ZN 84 #[v,Z8 Z9 (i:Nat)] w (uK K w (os.take i++os.drop (i+1))):=by
 have s:=pj o eb;have t:∀ (W:ZT) (u:ZS) (L:List (Ob×ZS)),L.map (·.1)=os->NQ K w L->W.ownsRow w.heap.size 130 3 u L.length (bO L)->bW w W->ZR ZN 117 #[u,Z8 Z9 (i:Nat),Z8 Z9 ((i:Int)+1)] W (uK K w (os.take i++os.drop (i+1))):=λW u L b a ho c=>by
  have R:L.length=os.length:=by rw [<- b,TZ]
  rcases ho.2 with ⟨rfl,P⟩|⟨g,cap,cur,rfl,q,H,O,J,M,F⟩
  . omega
  . have n:cap<=9223372036854775807:=(by unfold maxLen at J;omega);obtain ⟨N,G⟩:∃ N,L.length=N+1:=⟨L.length-1,eb⟩;refine (EH H q M F a.one G eb O n eb).mono ?_;rintro e w' ⟨rfl,I,l,C,D,E⟩;have d:bW w w':=c.trans I;have f:N=(L.take i++L.drop (i+1)).length:=en;refine ⟨_,rfl,?_,d⟩;have x:=Ac C q f eb n D E;have B:(L.take i++L.drop (i+1)).map (·.1)=os.take i++os.drop (i+1):=(by rw [Uu,Wi,Wj,b]);rw [<- B,f];rw [f] at x;refine uo x eb hK (λy z=>?_);rw [Ub] at z;rcases z with h|h
    . exact (a y (US h)).keep (dN.RN d)
    . exact (a y (UV h)).keep (dN.RN d)
 have A:=al t;clear t o hK;go_enter func84,ntmps84;go_wp2_with fail;refine s.mono ?_;rintro e w1 ⟨u,L,rfl,b,a,ho,c⟩;have r:=A.out w1 u L b a ho c;clear s b a ho c;go_wp2_with fail;refine r.mono ?_;rintro e w2 ⟨u2,rfl,m,p⟩;have j:=au m p;clear m p r;go_wp2;go_ret;exact ⟨_,rfl,j.out.1,j.out.2⟩
section
structure uM (D L G:Nat):Prop where
 r:cJ D L G=ZV
 d1:1<=D
 d:D<=12
 l1:1<=L
 l4:L<=4
 g:G<=4
 div:D%L=0
 s:D+L+G<=16
def jP (T:ZO):Prop:=T=191\/T=239\/T=236\/T=288
structure aN where
 ps:Nat
 ho:Nat
 bl:Nat->Prop
 S:ZT->Prop
 keep:∀ w w',S w->(∀ k,bl k->w'.heap[k]?=w.heap[k]?)->S w'
 kd:∀ w,S w->∀ k,bl k->∀ cs T z,w.heap[k]?=ZW (Z5 cs T z)->jP T
 lt:∀ w,S w->∀ k,bl k->k<w.heap.size
 cl:∀ w,S w->∀ k,bl k->k+2=ps\/∃ cs T z,w.heap[k]?=ZW (Z5 cs T z)
structure aO (w:ZT) (ar v p:Nat) (ps:aN) (D L G t:Nat) (pg ob:ZS) (P:a9) (xs:bP) (A:aA) (F:aR):Prop where
 R3:bf w ar v D L G t (P.getD 0 0) (aG xs.os).length pg ob ZU
 vol:rp w v p D L G ps.ps ps.ho A F
 free:m8 F p A.n v
 Si:¬ F.has p A.n ar
 Sf:3<=v/\v<ar
 arK:3<=ar
 fit:A.fit
 par:uM D L G
 RV:gU A D L G P xs
 pgs:bp (λk=>ar<k/\¬ F.has p A.n k/\¬ ps.bl k) w pg P
 cat:fa (λk=>ar<k/\¬ F.has p A.n k/\¬ ps.bl k) w ob xs.os
 nb:A.nb<=1000
 turn:t<18446744073709551616
 kit:ps.S w
 apt:∀ k,ps.bl k->3<=k/\k≠ar/\k≠v/\¬ F.has p A.n k
def bp.any (h:bp K w v l):bp (λk=>k<w.heap.size) w v l:=by
 obtain ⟨ao,c,d,e,f⟩:=h;refine ⟨ao,c,d,e,λg=>?_⟩;obtain ⟨b,off,i,m,a,j⟩:=f g;exact ⟨b,off,i,a,a,j⟩
def fa.any (h:fa K w v os):fa (λk=>k<w.heap.size) w v os:=by
 obtain ⟨ao,c,d,e,f⟩:=h;refine ⟨ao,c,d,e,λj=>?_⟩;obtain ⟨b,off,l,s,a,m⟩:=f j;refine ⟨b,off,l,a,a,λi g=>?_⟩;obtain ⟨r,n,o,p,q⟩:=m i g;exact ⟨r,n,o,p,q.any⟩
def Cq:∀ {xs:bP},(∀ x∈xs,uB D x)->xs.os.length<=(an xs.os).length
 | [],_=>TV _
 | x::xs,h=>by
  have:=Cq (xs:=xs) (λy c=>h y ZB);have b:=(h x ek).st;have:1<=x.1.RM.length:=by rw [b];exact YV _ _
  have e:an (bP.os (x::xs))=x.1.RM++an (bP.os xs):=by simp [an,bP.os]
  have a:(bP.os (x::xs)).length=(bP.os xs).length+1:=YZ
  rw [e,a,T5];omega
section
variable {w:ZT} {ar v p D L G t:Nat} {ps:aN} {pg ob:ZS} {P:a9} {xs:bP} {A:aA} {F:aR}
def aO.vne (h:aO w ar v p ps D L G t pg ob P xs A F):v≠ar:=eT h.Sf
def aO.n0 (h:aO w ar v p ps D L G t pg ob P xs A F):0<A.n:=by have:=h.RV.n;have:=h.par.d1;omega
def aO.SA (h:aO w ar v p ps D L G t pg ob P xs A F):xs.os.length<=1000/\(an xs.os).length<=1000/\P.length<=1000:=by
 have:=Cq h.RV.fits;have a:=l9 h.RV.nod h.RV.inb;rw [T5] at a;have:=h.nb;omega
def aO.packL_le (h:aO w ar v p ps D L G t pg ob P xs A F):(aG xs.os).length<=1000000:=by
 have:=mn h.par.d1 h.RV.fits;have:=h.SA.1;have:xs.os.length=xs.length:=YZ
 have:1500/(D*44)<=34:=by
  have:=h.par.d1;have:1500/(D*44)<=1500/44:=XU eb ec;omega
 have:xs.length*(19+4*(1500/(D*44)+1))<=1000*(19+4*(34+1)):=WT eb eb;omega
def aO.below (h:aO w ar v p ps D L G t pg ob P xs A F) {w':ZT} (a:bW w w'):aO w' ar v p ps D L G t pg ob P xs A F:=
 ⟨h.R3.keep (a.block _ h.R3.lt),h.vol.below a lR,h.free,h.Si,h.Sf,h.arK,h.fit,h.par,h.RV,h.pgs.keep (dN.RN a),h.cat.keep (dN.RN a),h.nb,h.turn,ps.keep _ _ h.kit λk b=>a.block k (ps.lt _ h.kit k b),h.apt⟩
def ea (xs:bP):aZ xs.os=xs.names:=by simp [aZ,bP.os,bP.names]
def aO.find (h:aO w ar v p ps D L G t pg ob P xs A F) (x:ByteArray) :
 ZR ZN 79 #[ob,Z0 x] w λe w'=>e=Z4 (ZZ #[Z8 Z9 (aI xs.names x:Nat),Z3 (mq xs.os x)])/\bW w w':=by
 have a:Up (aZ xs.os):=by rw [ea];exact h.RV.up
 have:=LP h.cat.any (eT h.SA.1) a x;rwa [ea] at this
def aO.there (h:aO w ar v p ps D L G t pg ob P xs A F) {x:ByteArray} (b:x∈xs.names):mq xs.os x=ZV:=by
 have a:Up (aZ xs.os):=by rw [ea];exact h.RV.up
 exact (Cm a x).2 (by rw [ea];exact b)
def aO.Sr (h:aO w ar v p ps D L G t pg ob P xs A F) {x:ByteArray} (b:x∉xs.names):mq xs.os x=ZU:=by
 have a:Up (aZ xs.os):=by rw [ea];exact h.RV.up
 cases hi:mq xs.os x
 . rfl
 . exact absurd ((Cm a x).1 hi) (by rw [ea];exact b)
end
def bp.wk (h:bp K w v l) (g:∀ k,K k->k<w.heap.size->K' k):bp K' w v l:=by
 obtain ⟨ao,c,d,e,f⟩:=h;refine ⟨ao,c,d,e,λi=>?_⟩;obtain ⟨b,off,j,m,a,n⟩:=f i;exact ⟨b,off,j,g _ m a,a,n⟩
def fa.wk (h:fa K w v os) (a:∀ k,K k->k<w.heap.size->K' k):fa K' w v os:=by
 obtain ⟨ao,c,e,f,g⟩:=h;refine ⟨ao,c,e,f,λl=>?_⟩;obtain ⟨b,off,m,n,d,o⟩:=g l;refine ⟨b,off,m,a _ n d,d,λi j=>?_⟩;obtain ⟨t,p,q,r,s⟩:=o i j;exact ⟨t,p,q,r,s.wk a⟩
end
theorem gk (n m:Nat) (h:n<=1000000) (f:1<=m/\m<=1000000) (w:ZT):ZR ZN 104 #[Z8 Z9 n,Z8 Z9 m] w λe w'=>e=Z4 (Z8 Z9 ((max 1 ((n+m-1)/m):Nat):Int))/\w'=w:=by
 have a:=ub n m eb f w;obtain ⟨q,b⟩:=nM ((n+m-1)/m);rw [b] at a;rw [b];have g:∀ (d:ZO) (w:ZT),(Builtin.max_ #[3,3] d #[Z8 Z9 1,Z8 Z9 (q:Int)]).run ZN w=.ok (Z8 Z9 ((max 1 q:Nat):Int)) w:=λd w=>by
  rw [lH];congr 2;split<;>omega
 clear b;go_enter func104,ntmps104;go_wp2_with fail;refine a.mono ?_;rintro e w' ⟨rfl,c⟩;obtain rfl:w=w':=c.symm;clear a c;go_wp2;go_ret;exact ⟨rfl,rfl⟩
section
attribute [local go_sem] Oper.semAt_some
def qN (K:Nat->Prop) (n b1:Nat) (v:ZS) (os:List Ob) (w:ZT) (i:b1<w.heap.size) (b:w.cell? ⟨b1,0,ZX⟩=ZW v) (j:fa K w v os) :
 SeqStopsK Fence.wide n ZN 153 #[Z7 (ZW ⟨b1,0,ZX⟩)] nJ (dN K) (λys=>ys=an os) (λpre=>pre<+:an os) (an os).length w:=λl J d W c m _ o f=>by
 refine (tn K n l b1 v os J d (λpre A B h a=>m pre A B ZX h ⟨a.os,a.tape,a.output,a.size,λk q _=>a.block k q⟩ (λr e=>Za)) (an os).length o [] ek W ((c.cell (p:=⟨b1,0,ZX⟩) i).trans b) (j.keep (dN.RN c)) f).mono ?_;rintro e u ⟨b,g⟩;refine ⟨b,?_⟩;rcases g with h|⟨pre,s,t⟩
 . exact .inl ⟨_,rfl,vE h⟩
 . exact .inr ⟨pre,s,vE t⟩
structure RmI (w:ZT) (B:Nat) (pre:a9) (X:ZT):Prop where
 box:Boxed X w.heap.size 3 (Z8 Z9 (pre.length:Nat))
 below:bW w X
 size:B<=X.heap.size
def RmI.To {B:Nat} (h:w.heap.size<B):OwnFrom B (RmI w B):=by
 rintro pre X Y row ⟨f,b,g⟩ a d;have c:∀ k,k<B->Y.heap[k]?=X.heap[k]?:=λk c=>a.block k eb (λe=>eT ((d k e.symm).1));exact ⟨(c _ eb).trans f,b.grown a b.size (λk e=>eT ((d k e).1)),TU g a.size⟩
theorem rH {v L ps ho D' L' G' f nn:Nat} {off:Bool} (j:bf w ar v D' L' G' t f nn pg ob off) (m:bk w v p D L G ps ho) (h:aj w p A F) (hf:A.fit) (hn:0<A.n) (os:List Ob) (u:fa (λk=>k<w.heap.size) w ob os) (hz:(an os).length<=1000000) (count pages:Nat) (he:count<=1000000) (hh:pages<=1000000) :
 ZR ZN 106 #[Z7 (ZW ⟨ar,0,ZX⟩),Z8 Z9 (count:Nat),Z8 Z9 (pages:Nat)] w λe w'=>e=Z4 (Z3 (decide ((an os).length+count+2*pages+2<=A.nb)))/\bW w w':=by
 obtain ⟨n,HN⟩:∃ n:Nat,Hid (9<=n):=⟨9,TV _⟩;obtain ⟨P,_,_,_,Q⟩:=j.cells;obtain ⟨d,c,rfl,hol,_⟩:=id u;have H:=a5 j m h u;clear j m h u;refine (U6 (n:=n)).1 ?_;refine VS func106 rfl trivial ?_ rfl;simp only [ntmps106,Uy,Um,UQ,Nat.reduceAdd,Nat.reduceSub,UX,UY,UZ,U0,Uk,UH];have g:bW w (w.alloc (Z5 #[Z8 Z9 0] 3)):=bA w _;have R:=(g.cell (p:=⟨ar,8,ZX⟩) H.out.1.lt).trans Q;have r:Boxed (w.alloc (Z5 #[Z8 Z9 0] 3)) w.heap.size 3 (Z8 Z9 0):=Uj w _ _;have y:(w.alloc (Z5 #[Z8 Z9 0] 3)).heap.size=w.heap.size+1:=ek
 have I:=aE g r y;clear g r y;gi_wp2;refine bX (lW d os.length c (w.alloc (Z5 #[Z8 Z9 0] 3))) ?_;rintro e w' ⟨rfl,rfl⟩;obtain ⟨w1,k0⟩:=nM (w.alloc (Z5 #[Z8 Z9 0] 3));rw [k0] at I R ⊢;have C:bW w1 (w1.alloc (Z5 #[.slice d os.length c] 113)):=bA w1 _;have z:(w1.alloc (Z5 #[.slice d os.length c] 113)).cell? ⟨w1.heap.size,0,ZX⟩=ZW (.slice d os.length c):=(Uj w1 _ _).cell;have N:(w1.alloc (Z5 #[.slice d os.length c] 113)).heap.size=w1.heap.size+1:=ek
 obtain ⟨w2,k5⟩:=nM (w1.alloc (Z5 #[.slice d os.length c] 113));rw [k5] at C z N ⊢;obtain ⟨g,r,y⟩:=I.out;have B:bW w w2:=g.trans (C.mono g.size);have Y:RmI w w2.heap.size [] w2:=⟨(C.block _ eb).trans r,B,TV _⟩;have hq:fa (λk=>k<w.heap.size) w2 (.slice d os.length c) os:=H.out.2.2.2.keep (dN.RN B);have hy:=qN (λk=>k<w.heap.size) (n-1) w1.heap.size _ os w2 eb z hq;have O:=aE Y hy B;have U:w1.heap.size=w.heap.size+1:=y;have V:w2.heap.size=w.heap.size+2:=eb
 have HZ:=au U V;clear Y hy B hq g r y C z N k5 k0 R U V I Q;gi_wp2;obtain ⟨kf,N⟩:=HZ.out;refine VT rfl (eT HN.out) (gf:=153) (lb:=#[Z7 (ZW ⟨w1.heap.size,0,ZX⟩)]) rfl trivial (UR func153 ei rfl)
  O.out.2.1 (λh k=>h.trans k) (λW l o o' hl _ _ _=>⟨W7,λk _ E=>UE eb⟩) (TX _ _) (λ_=>rfl)
  (RmI w w2.heap.size) (λ_ _ _=>False) (RmI.To eb) (λ_ _ _ _ _ h _ _=>h.elim) O.out.1
  (λx=>{ tmps:=#[Z7 (ZW ⟨ar,0,ZX⟩),Z8 Z9 (count:Nat),Z8 Z9 (pages:Nat),ZY,ZY,ZY,Z3 ZU,Z7 (ZW ⟨w.heap.size,0,ZX⟩),Z7 (ZW ⟨ar,0,ZX⟩),Z7 (ZW ⟨ar,0,ZX⟩),Z7 (ZW ⟨ar,8,ZX⟩),.slice d os.length c,.func (.func 153) #[] #[Z7 (ZW ⟨w1.heap.size,0,ZX⟩)],Z8 Z9 (x:Nat),ZY,ZY,ZY,ZY,ZY,ZY,ZY,ZY,ZY,ZY,ZY,ZY,ZY,ZY,ZY],defers:=[] }) ?assign ?body ?done ?stop
 case assign=>
  intro l2 x X Kk hK;unfold nJ;gi_wp2;simpa using hK
 case body=>
  rintro l2 pre x X b T;have c1:=b.box.cell;have f1:=b.box.frozen;obtain ⟨pl,s⟩:=nM (pre.length);rw [s] at c1 T;have kb:pl<=1000000:=eb
  have i:=au b s;clear b s T hz hol;gi_wp2;obtain ⟨b,s⟩:=i.out;have h6:((pre++[x]).length:Nat)=pl+1:=by rw [T5,s];rfl
  have hs:∀ k,k≠w.heap.size->(X.setCell ⟨w.heap.size,0,ZX⟩ (Z8 Z9 ((pl:Int)+1))).heap[k]?=X.heap[k]?:=λk E=>T7 _ _ _ _ E;refine ⟨⟨l7,λk o E ho _=>?_⟩,⟨l7,λk E hK=>?_⟩,?_,?_,?_⟩
  . exact (hs k eb).trans ho
  . exact hs k eb
  . rw [h6];exact b.box.set _
  . exact WR (p:=⟨w.heap.size,0,ZX⟩) b.below lR _
  . have:=b.size;simp [World.setCell];omega
 case done=>
  rintro D1 xs X k8 k6 b hK;have hm:xs=an os:=k6;subst hm;have c1:=b.box.cell;obtain ⟨xl,M⟩:=nM ((an os).length);rw [M] at c1 hz;have HL:=al M;clear M;have q:=b.below;obtain ⟨j,m,h,u⟩:=H.out;have cX:=(q.cell (p:=⟨ar,0,ZX⟩) j.lt).trans P;have S:∀ W,bW w W->ZR ZN 143 #[Z7 (ZW ⟨v,0,ZX⟩)] W λe w'=>e=Z4 (Z8 Z9 A.nb)/\w'=W:=λW Z=>jt (m.keep (Z.block _ m.lt)) (h.below Z lR) hf hn;have i:=a5 b hK S q;obtain ⟨nb,J⟩:=nM (A.nb);have ka:=hf.nb;rw [J] at i ka;have k7:=al J;clear J;clear b hK k6 S q j m h u P;gi_wp2;have k1:IntKind.i64.wrap ((xl:Int)+(count:Int))=(xl:Int)+(count:Int):=iE
  have k2:IntKind.i64.wrap (2*(pages:Int))=2*(pages:Int):=iE
  have k3:IntKind.i64.wrap ((xl:Int)+(count:Int)+2*(pages:Int))=(xl:Int)+(count:Int)+2*(pages:Int):=iE
  have k4:IntKind.i64.wrap ((nb:Int)-2)=(nb:Int)-2:=iE
  refine wpIn_region_quiet_lit rfl ei ei ?_;repeat (quiet_step_in (fail))
  refine wpQuietIn_step (by go_simp;intros;trivial) (λK hK=>?_);go_simp;refine ⟨Z8 Z9 (nb:Nat),λa=>⟨λh=>Bf,CallsIn.quiet_of_same (U6.2 (i.out.2.2.1 _ (i.out.2.2.2.trans ⟨rfl,rfl,rfl,TV _,λ_ _=>rfl⟩)))⟩,hK _ ?_⟩;clear hK K;repeat (quiet_step_in (fail))
  refine wpQuietIn_nil ?_;intro _ ke;obtain ⟨nq,rfl⟩:=ke;gi_wp2;obtain ⟨b,hK,_,q⟩:=i.out;have hr:(X.drewN nq).heap[D1]?=ZW (.deferred (ZW [])):=hK;have k9:bW w (X.drewN nq):=q.trans ⟨rfl,rfl,rfl,TV _,λ_ _=>rfl⟩;refine Fp (t:=6) (x:=Z3 (decide ((xl:Int)+(count:Int)+2*(pages:Int)<=(nb:Int)-2))) results106 rfl rfl hr ⟨?_,?_⟩
  . rw [HL.out,k7.out];congr 2;exact decide_eq_decide.2 ⟨λh=>eb,λh=>eb⟩
  . exact Below.RY k9 eb (TW.1 hr).1 _
 case stop=>
  rintro D1 z pre X k8 kc hx hK;exact hx.elim
end
def iS (n:Int):ZS:=.iface 54 (Z8 Z9 n)
def mr (w:ZT) (n:Int) (e:ZP) (w':ZT):Prop:=e=Z4 (iS n)/\bW w w'
theorem Cr {v L:Nat} {ps:aN} (h:aO w ar v p ps D L G t pg ob P xs A F) (x:ByteArray) (j:ZS) (g:de x=ZU) :
 ZR ZN 78 #[Z7 (ZW ⟨ar,0,ZX⟩),Z0 x,j] w (mr w 6):=by
 obtain ⟨_,_,_,_,f⟩:=h.R3.cells;have a:=h.find x;obtain ⟨k,d⟩:=nM (aI xs.names x);obtain ⟨i,c⟩:=nM (mq xs.os x);rw [d,c] at a;clear d c h;go_enter func78,ntmps78;go_wp2_with fail;refine a.mono ?_;rintro e w1 ⟨rfl,b⟩;have H:=al b;clear b a f;go_wp2_with fail;refine (dg x w1).mono ?_;rintro e w2 ⟨rfl,rfl⟩;rw [g];dsimp only;go_wp2;go_ret;exact ⟨rfl,H.out⟩
theorem Cs {v L:Nat} {ps:aN} (h:aO w ar v p ps D L G t pg ob P xs A F) (x:ByteArray) (ao:Option ZQ) (n c:Nat) (j:de x=ZV) (m:1500<n) :
 ZR ZN 78 #[Z7 (ZW ⟨ar,0,ZX⟩),Z0 x,.slice ao n c] w (mr w 7):=by
 obtain ⟨_,_,_,_,g⟩:=h.R3.cells;have a:=h.find x;obtain ⟨k,f⟩:=nM (aI xs.names x);obtain ⟨i,d⟩:=nM (mq xs.os x);rw [f,d] at a;have l:(1500:Int)<(n:Int):=eb
 clear f d h;go_enter func78,ntmps78;go_wp2_with fail;refine a.mono ?_;rintro e w1 ⟨rfl,b⟩;have H:=al b;clear b a g;go_wp2_with fail;refine (dg x w1).mono ?_;rintro e w2 ⟨rfl,rfl⟩;rw [j];dsimp only;go_wp2;go_ret;exact ⟨rfl,H.out⟩
theorem we {v L:Nat} {ps:aN} (h:aO w ar v p ps D L G t pg ob P xs A F) (x:ByteArray) (ao:Option ZQ) (n c:Nat) (i:de x=ZV) (j:n<=1500) (f:x∈xs.names) :
 ZR ZN 78 #[Z7 (ZW ⟨ar,0,ZX⟩),Z0 x,.slice ao n c] w (mr w 8):=by
 obtain ⟨_,_,_,_,g⟩:=h.R3.cells;have a:=h.find x;obtain ⟨k,d⟩:=nM (aI xs.names x);rw [d,h.there f] at a;clear d h f;go_enter func78,ntmps78;go_wp2_with fail;refine a.mono ?_;rintro e w1 ⟨rfl,b⟩;have H:=al b;clear b a g;go_wp2_with fail;refine (dg x w1).mono ?_;rintro e w2 ⟨rfl,rfl⟩;rw [i];dsimp only;go_wp2;go_ret;exact ⟨rfl,H.out⟩
def nV (D n:Nat):Nat:=max 1 ((n+D*44-1)/(D*44))
def uN (D m n:Nat):Nat:=YF D (m+(19+4*nV D n))
def sB (g:1<=D) (d:n<=1500):nV D n<=36:=by
 unfold nV;have e:(n+D*44-1)/(D*44)<=n/(D*44)+1:=by
  have:=LC (D*44) n eb;exact TU (Nat.le_max_right _ _) this
 have f:n/(D*44)<=1500/44:=by
  have a:=XS (c:=D*44) d;have b:1500/(D*44)<=1500/44:=XU eb ec;omega
 omega
def EJ (c:1<=D) (d:m<=2000000):YF D m<=1000000:=by
 unfold YF;have:(m+(D*44-4)-1)/(D*44-4)<=(m+(D*44-4)-1)/40:=XU eb ec;have:(m+(D*44-4)-1)/(D*44-4)<=m/40+1:=by
  refine TU ((YW eb).2 ?_) lR;have:40*(m/40+1)<=(D*44-4)*(m/40+1):=Xd _ eb;omega
 omega
theorem Ct {v L:Nat} {ps:aN} (h:aO w ar v p ps D L G t pg ob P xs A F) (x:ByteArray) (ao:Option ZQ) (n c:Nat) (hx:de x=ZV) (hn:n<=1500) (U:x∉xs.names) (g:A.nb<(an xs.os).length+nV D n+2*uN D (aG xs.os).length n+2) :
 ZR ZN 78 #[Z7 (ZW ⟨ar,0,ZX⟩),Z0 x,.slice ao n c] w (mr w 10):=by
 obtain ⟨_,_,_,_,Y⟩:=h.R3.cells;have z:=h.find x;obtain ⟨k,T⟩:=nM (aI xs.names x);rw [T,h.Sr U] at z;have y:=h.par.d1;have k0:=h.par.d;have k5:=h.packL_le;have hz:=sB y hn;have S:uN D (aG xs.os).length n<=1000000:=EJ y eb;have hy:=h.SA.2.1;obtain ⟨len,o⟩:=nM ((aG xs.os).length);obtain ⟨cnt,m⟩:=nM (nV D n);obtain ⟨pgn,r⟩:=nM (uN D len n);rw [o] at S g k5;rw [r] at S g;rw [m] at hz g;have b:=a7 h m r o g;clear T h U o m r g;go_enter func78,ntmps78;go_wp2_with fail;refine z.mono ?_;rintro e w1 ⟨rfl,N⟩;have H:=al N;clear N z Y;go_wp2_with fail;refine (dg x w1).mono ?_;rintro e w2 ⟨rfl,rfl⟩;rw [hx];dsimp only;have f:=b.out.1.below H.out;obtain ⟨Z,_,K,_,_⟩:=f.R3.cells;rw [b.out.2.2.2.1] at K;have E:=cG f.vol.vol eb;obtain ⟨q,I⟩:=nM (D*44);rw [I] at E;have C:=gk n q eb ⟨eb,eb⟩ w2;have Q:max 1 ((n+q-1)/q)=cnt:=by rw [<- b.out.2.1,<- I];rfl
 rw [Q] at C;have B:=λW=>dY cnt eb W;obtain ⟨pk,s⟩:=nM (19+4*cnt);have V:∀ W,W.heap=w2.heap->ZR ZN 86 #[Z7 (ZW ⟨ar,0,ZX⟩),Z8 Z9 ((len:Int)+(pk:Int))] W λe w'=>e=Z4 (Z8 Z9 (pgn:Nat))/\w'=W:=λW M=>by
  have:=gG (w:=W) (f.R3.keep (by rw [M])) (f.vol.vol.keep (by rw [M])) y eb (len+(19+4*cnt)) eb;have e:YF D (len+(19+4*cnt))=pgn:=by rw [<- b.out.2.2.1,<- b.out.2.1];rfl
  rw [e,s,YL] at this;exact this
 rw [s] at B;have k6:pk<=200:=eb
 have k7:IntKind.i64.wrap ((len:Int)+(pk:Int))=(len:Int)+(pk:Int):=iE
 have l:=aE f B V;clear f B V Q I s;go_wp2_with fail;refine E.mono ?_;rintro e w3 ⟨rfl,rfl⟩;clear E;go_wp2_with fail;refine C.mono ?_;rintro e J ⟨rfl,rfl⟩;clear C;go_wp2_with fail;go_quiet (first|(go_at_call 105;refine WX (l.out.2.1 _))|(go_at_call 86;refine WX (l.out.2.2 _ rfl)));have u:bW J (J.drewN nq):=⟨rfl,rfl,rfl,TV _,λ_ _=>rfl⟩;have a:=l.out.1.below u;have i:=rH a.R3 a.vol.vol a.vol.arr a.fit a.n0 xs.os a.cat.any eb cnt pgn eb eb;have R:decide ((an xs.os).length+cnt+2*pgn+2<=A.nb)=ZU:=decide_eq_false (eT b.out.2.2.2.2);rw [R] at i;have j:=al (H.out.trans (u.mono H.out.size));clear u a R Z K;obtain ⟨w5,X⟩:=nM (J.drewN nq);rw [X] at i j ⊢;clear X;go_wp2_with fail;refine i.mono ?_;rintro e w6 ⟨rfl,O⟩;have hs:=al (j.out.trans (O.mono j.out.size));clear O i;dsimp only;go_wp2;go_ret;exact ⟨rfl,hs.out⟩
def yw {v L:Nat} {ps:aN} {vo:ZS} {P':a9} {xs':bP} (h:aO w ar v p ps D L G t pg ob P xs A F) (m:bf w' ar v D L G (nx t) (P'.getD 0 0) (aG xs'.os).length vp vo ZU) (i:aj w' p B F) (a:aa (λk=>k=ar\/F.has p A.n k) w w') (b:B.n=A.n) (d:B.nb=A.nb) (r:B.fit)
 (o:gU B D L G P' xs') (l:bp (λk=>ar<k/\¬ F.has p A.n k/\¬ ps.bl k) w' vp P') (j:fa (λk=>ar<k/\¬ F.has p A.n k/\¬ ps.bl k) w' vo xs'.os):aO w' ar v p ps D L G (nx t) vp vo P' xs' B F:=by
 have:=h.arK;have hv:=a.block _ h.vol.vol.lt (λe=>e.elim h.vne h.free.v);have s:=a.block _ h.vol.laid.lt (λe=>e.elim (λq=>eb) h.free.g);have f:=a.block _ h.vol.RZ.lt (λe=>e.elim (λq=>eb) h.free.t);exact ⟨m,⟨h.vol.vol.keep hv,i,h.vol.laid.keep s,h.vol.RZ.keep f,TU h.vol.room a.size⟩,by rw [b];exact h.free,by rw [b];exact h.Si,h.Sf,h.arK,r,h.par,o,by rw [b];exact l,by rw [b];exact j,by rw [d];exact h.nb,FC t,ps.keep _ _ h.kit λk c=>a.block k (ps.lt _ h.kit k c) (λq=>q.elim (h.apt k c).2.1 (h.apt k c).2.2.2),by rw [b];exact h.apt⟩
def uO (h:B.fit) {D L G t f m:Nat} (a:uM D L G) (c:B.n=D+L+G) (ht:t<18446744073709551616) (j:f<B.nb) (o:m<=2000000) (P l:a9) (k:Nat):((B.RT D L G P l k).putAt (YD B.n) 0 (λ_=>(bx.root D L G t f m).blk)).fit:=by
 have:=h.nb;have b:(bx.root D L G t f m).ok:=by
  have:=a.d;have:=a.l4;have:=a.g;exact ⟨eb,eb,eb,eb,eb,eb⟩
 exact (gH h a.d a.g c P l k).putAt _ _ _ λi _=>⟨dJ b,fO b⟩
def Cu (c:1<=D) (h:k<YF D m):k*(D*44-4)<=m:=by
 unfold YF at h;rcases WQ k with rfl|d
 . simp
 . have a:k<(m+(D*44-4)-1)/(D*44-4):=eb;have b:(k+1)*(D*44-4)<=m+(D*44-4)-1:=(abu eb).1 a;rw [Wz] at b;omega
def Cv (c:1<=D) (h:k<nV D n):k*(D*44)<=n:=by
 unfold nV at h;rcases WQ k with rfl|d
 . simp
 . have a:k<(n+D*44-1)/(D*44):=eb;have b:(k+1)*(D*44)<=n+D*44-1:=(abu eb).1 a;rw [Wz] at b;omega
def yA (ho:w.ownsRow base 3 1 (Z6 (ZW ⟨g,0,ZX⟩) (a+b) cap) (a+b) (jJ l)) (s:l.length=a+b) (hK:K g) (q:a+b<=100000):bp K w (Z6 (ZW ⟨g,0,ZX⟩) a c1) (l.take a):=by
 rcases ho.2 with ⟨e,_⟩|⟨j,c,cur,e,m,h,p,n,o,k⟩
 . cases e
 . simp only [Vt,UC,XO] at e;obtain ⟨⟨rfl,_,_⟩,_,rfl⟩:=e;have f:(l.take a).length=a:=KP;refine ⟨_,c1,by rw [f],eb,λ_=>⟨g,0,rfl,hK,(TW.1 h).1,λi r=>?_⟩⟩;have d:=ho.cells (g:=g) rfl i (Z8 Z9 ((l[i]' eb:Nat):Int)) (by unfold jJ;rw [Ul,T2 eb];rfl);rw [jU] at d;rw [Uc,WW];exact d
def Is (ho:w.ownsRow base 3 1 (Z6 (ZW ⟨g,0,ZX⟩) (a+b) cap) (a+b) (jJ l)) (s:l.length=a+b) (hK:K g) (q:a+b<=100000):bp K w (Z6 (ZW ⟨g,a,ZX⟩) b c1) (l.drop a):=by
 rcases ho.2 with ⟨e,_⟩|⟨j,c,cur,e,m,h,p,n,o,k⟩
 . cases e
 . simp only [Vt,UC,XO] at e;obtain ⟨⟨rfl,_,_⟩,_,rfl⟩:=e;have f:(l.drop a).length=b:=(by rw [Ue];omega);refine ⟨_,c1,by rw [f],eb,λ_=>⟨g,a,rfl,hK,(TW.1 h).1,λi r=>?_⟩⟩;have d:=ho.cells (g:=g) rfl (a+i) (Z8 Z9 ((l[a+i]' eb:Nat):Int)) (by unfold jJ;rw [Ul,T2 eb];rfl);rw [jU] at d;rw [WV];exact d
structure wg (w w2:ZT) (D L G lost:Int) (rd:Bool):Prop where
 par:w2.heap[w.heap.size]?=ZW (Z5 #[Z8 Z9 D,Z8 Z9 L,Z8 Z9 G,Z8 .u64 lost,Z3 rd] 186 (0,0))
 res:w2.heap[w.heap.size+1]?=ZW (Z5 #[Z8 Z9 0,Z6 ZX 0 0] 189 (0,0))
 below:bW w w2
 size:w.heap.size+2<=w2.heap.size
def wg.new (w:ZT) (D L G lost:Int) (rd:Bool):wg w ((w.alloc (Z5 #[Z8 Z9 D,Z8 Z9 L,Z8 Z9 G,Z8 .u64 lost,Z3 rd] 186)).alloc (Z5 #[Z8 Z9 0,Z6 ZX 0 0] 189)) D L G lost rd:=by
 refine ⟨(Ut _ _ _ ek).trans (T9 _ _),?_,(bA w _).alloc ek _,ek⟩;have:=T9 (w.alloc (Z5 #[Z8 Z9 D,Z8 Z9 L,Z8 Z9 G,Z8 .u64 lost,Z3 rd] 186)) (Z5 #[Z8 Z9 0,Z6 ZX 0 0] 189);rwa [Ua] at this
def wg.mono {D L G:Int} (h:wg w w2 D L G lost rd) (a:bW w2 w3):wg w w3 D L G lost rd:=by
 have:=h.size;exact ⟨(a.block _ eb).trans h.par,(a.block _ eb).trans h.res,h.below.trans (a.mono h.below.size),TU h.size a.size⟩
def wg.cells {D L G:Int} (h:wg w w2 D L G lost rd):w2.cell? ⟨w.heap.size,0,ZX⟩=ZW (Z8 Z9 D)/\w2.cell? ⟨w.heap.size,1,ZX⟩=ZW (Z8 Z9 L)/\w2.cell? ⟨w.heap.size,2,ZX⟩=ZW (Z8 Z9 G)/\w2.cell? ⟨w.heap.size,3,ZX⟩=ZW (Z8 .u64 lost)/\w2.cell? ⟨w.heap.size,4,ZX⟩=ZW (Z3 rd):=by
 have a:=h.par;simp [World.cell?,a]
def aa.after {T:Nat->Prop} (a:bW w w2) (b:aa T w2 w3):aa T w w3:=⟨b.os.trans a.os,b.tape.trans a.tape,b.output.trans a.output,TU a.size b.size,λk c d=>(b.block k (TY c a.size) d).trans (a.block k c)⟩
def kT (D L G s:Nat) (ao:Option ZQ) (m c:Nat) (e:ZP):Prop:=e=Z4 (ZZ #[.agg #[Z8 Z9 (1+((ae (aC (D+L+G) s)).length:Int)),.slice ao m c],.nilIface])
def pW.parts {room:Int} (h:pW w sb room):fA w sb room/\(∃ n,w.heap[sb+1]?=ZW (.map #[] n))/\aab w sb sb/\w.cell? ⟨sb+1+1+1,0,ZX⟩=ZW (Z7 (ZW ⟨sb+1+1,0,ZX⟩)):=by
 refine ⟨h.list,h.map,h.ends,?_⟩;have a:=h.Sc;simp [World.cell?,a]
structure OV (w wx:ZT) (O:List (Int×Nat×Nat×a9)) (gg:Nat):Prop where
 ge:w.heap.size<=gg
 lt:gg<wx.heap.size
 cells:∀ i (hi:i<O.length),wx.cell? ⟨gg,i*2,ZX⟩=ZW (Z8 Z9 O[i].1)/\wx.cell? ⟨gg,i*2+1,ZX⟩=ZW (jT O[i].2)
 row:∀ q∈O,w.heap.size<=q.2.1/\aM wx q.2.1 q.2.2.2/\q.2.2.1<=q.2.2.2.length/\∀ x∈q.2.2.2,x<256
 below:bW w wx
def LS {P:List St} {lost:Nat} {Ms:List (Int×a9)} (D:Ps .u8 w vp P) (z:∀ s∈P,zj s) (x:In w g Dl lost) (B:g<w.heap.size) (y:Dl.length=N) (o:∀ l∈Dl,l.length<=100000) (C:P.length<=5000) (u:iI regs P N) (r:ja P Dl lost) (ho:dM P Dl (eZ regs.toNat (gN P Dl)) P.length=Ms) (i:Ms≠[]) :
 ZR ZN 155 #[.agg #[Z8 Z9 regs,vp],Z6 (ZW ⟨g,0,ZX⟩) N N] w λe w'=>∃ O b cap,e=Z4 (ZZ #[Z6 (ZW ⟨b,0,ZX⟩) O.length cap,.nilIface])/\O.map (λq=>(q.1,q.2.2.2.take q.2.2.1))=Ms/\OV w w' O b:=by
 subst y;refine (NX regs vp P g Dl.length Dl lost w D z x B o C).mono ?_;rintro e w' ⟨n,_,_,A⟩;obtain ⟨v,O,rfl,f,c⟩:=n u r;rw [ho] at c;rcases f.cases with ⟨d,_⟩|⟨b,cap,rfl,j⟩
 . rw [d] at c;exact absurd c.symm i
 . have p:O≠[]:=λq=>i (by rw [<- c,q];rfl);have t:b<w'.heap.size:=T8 (j 0 (Xl.2 p)).1;refine ⟨O,b,cap,rfl,c,?_,t,j,λq E=>?_,A⟩
   . rcases f.own.2 with ⟨d,_⟩|⟨G,F,cur,a,h,_⟩
     . cases d
     . injection a with a;injection a with a;injection a with a;omega
   . obtain ⟨a,h,k,_,m⟩:=f.row q E;exact ⟨a,h,k,m⟩
def Fd (f0 f:Nat->ZS) (O:List (Int×Nat×Nat×a9)) (k:Nat):Prop:=(∀ i:Nat,(∀ q∈O.take k,q.1≠(i:Int))->f i=f0 i)/\∀ i:Nat,(∃ q∈O.take k,q.1=(i:Int))->∃ q∈O,q.1=(i:Int)/\f i=jT q.2
def aaT (w2:ZT) (r v b g N gone sp:Nat) (f0:Nat->ZS) (O:List (Int×Nat×Nat×a9)) (iv:ZS) (wr:ZT):Prop:=∃ k:Nat,k<=O.length/\iv=Z8 Z9 k/\∃ f,wr.rowIs g 31 N f/\Fd f0 f O k/\cP wr r v b g N gone sp/\aa (λk=>k=g) w2 wr
theorem Fd.step {f0:Nat->ZS} {O:List (Int×Nat×Nat×a9)} (h:Fd f0 f O k) (g:k<O.length) (c:O[k].1=(d:Int)):Fd f0 (λi=>if i=d then jT O[k].2 else f i) O (k+1):=by
 have ht:O.take (k+1)=O.take k++[O[k]]:=by rw [Vd,T2 g];rfl
 constructor
 . intro i b;rw [ht] at b;have j:i≠d:=λe=>b O[k] (Wn _ (U9.2 rfl)) (by rw [c,e]);show (if i=d then _ else f i)=f0 i;rw [if_neg j];exact h.1 i λq a=>b q (UN _ a)
 . rintro i ⟨q,a,e⟩;show ∃ q∈O,q.1=(i:Int)/\(if i=d then jT O[k].2 else f i)=jT q.2;by_cases b:i=d
   . rw [if_pos b];exact ⟨O[k],T4 g,by rw [c,b],rfl⟩
   . rw [if_neg b];rw [ht] at a;rcases Ub.1 a with a|a
     . exact h.2 i ⟨q,a,e⟩
     . rw [U9] at a;rw [a,c] at e;exact absurd (YM e).symm b
structure LU (w:ZT) (r v b g N gone sp:Nat) (f:Nat->ZS) (M:a9) (R:Nat->a9) (w':ZT):Prop where
 rd:cP w' r v b g N gone sp
 row:∃ f',w'.rowIs g 31 N f'/\(∀ i,i∉M->f' i=f i)/\∀ i,i∈M->∃ bl m l,f' i=Z6 (ZW ⟨bl,0,ZX⟩) m l.length/\w.heap.size<=bl/\m<=l.length/\aM w' bl l/\l.take m=R i/\∀ x∈l,x<256
 out:aa (λk=>k=g) w w'
theorem Cw {P:List St} {pm pc:Nat} {v lost:Nat} {M:a9} {R:Nat->a9} (Z:cP w r v b g N gone sp) (K:w.rowIs g 31 N f) (kz:r≠g) (hp:Ps .u8 w (.slice ao pm pc) P) (hP:∀ s∈P,zj s) (hI:In w g Dl lost) (hN:Dl.length=N) (k6:∀ l∈Dl,l.length<=100000) (hl:P.length<=5000) (J:iI regs P N) (kj:ja P Dl lost) (ho:dM P Dl (eZ regs.toNat (gN P Dl)) P.length=M.map (λd:Nat=>((d:Int),R d))) (hM:M≠[]) (km:∀ d∈M,d<N) (q4:M.length<=16) :
 ZR ZN 128 #[Z7 (ZW ⟨r,0,ZX⟩),.agg #[Z8 Z9 regs,.slice ao pm pc]] w λe w'=>e=Z4 .nilIface/\LU w r v b g N gone sp f M R w':=by
 obtain ⟨w1,ke⟩:=nM (w.alloc (Z5 #[Z8 Z9 regs,.slice ao pm pc] 189));have a:bW w w1:=by rw [<- ke];exact bA w _
 have kf:w1.heap[w.heap.size]?=ZW (Z5 #[Z8 Z9 regs,.slice ao pm pc] 189 (0,0)):=by rw [<- ke];exact T9 _ _
 have k0:w1.cell? ⟨w.heap.size,0,ZX⟩=ZW (Z8 Z9 regs):=by simp [World.cell?,kf]
 have k1:w1.cell? ⟨w.heap.size,1,ZX⟩=ZW (.slice ao pm pc):=by simp [World.cell?,kf]
 have E:=Z.keep (a.block _ Z.lt);have I:=K.of_block (a.block _ K.lt);have cs:=E.cells.2.2.1;have k7:=LS (w:=w1.drew) (hp.mono a.drew) hP (hI.mono a.drew) (TY K.lt a.size) hN k6 hl J kj ho (λq=>hM (List.map_eq_nil_iff.1 q));have HG:=al (show g<w1.heap.size from TY K.lt a.size);have H:=a5 a E I k7;clear Z K hp hI a kf E I k7 J kj ho k6 hP hM;go_enter func128,ntmps128;go_upto_region 1 with fail;go_cut [5,6] from 9 to 17 (λv5 v6 wx=>∃ O n cap,v5=Z6 (ZW ⟨n,0,ZX⟩) O.length cap/\v6=.nilIface/\O.map (λq=>(q.1,q.2.2.2.take q.2.2.1))=M.map (λd:Nat=>((d:Int),R d))/\OV w1.drew wx O n)
 case first=>
  go_region_with (go_at_call 155;refine H.out.2.2.2.mono ?_;rintro e w2 ⟨O,n,cap,rfl,u,y⟩;have c:=au u y;clear u y);all_goals (go_wp2_with fail;go_meet;case rel=>exact ⟨O,n,cap,rfl,rfl,c.out.1,c.out.2⟩)
 case rest=>
  rename ZT=>w2;clear k0 k1 cs ke;obtain ⟨O,n,cap,rfl,rfl,u,y⟩:=hcut;obtain ⟨a,E,I,_⟩:=H.out;have U:bW w1 w2:=((TX _ w1).drew).trans y.below;have kk:=E.keep (U.block _ E.lt);have hf:=I.of_block (U.block _ I.lt);have kg:O.length=M.length:=by have:=congrArg YN u;simpa using this
  have Q:∀ k (Y:k<O.length),∃ d,d∈M/\O[k].1=(d:Int)/\O[k].2.2.2.take O[k].2.2.1=R d:=λk Y=>by
   have e:=congrArg (λl=>l[k]?) u;simp only [Ul,T2 Y,T2 (eb:k<M.length),Wv,UC,WH] at e;exact ⟨M[k],T4 _,e.1,e.2⟩
  have c:=hide7 y kk hf (a.trans (U.mono a.size)) u kg Q;clear y a E I U kk hf u Q;go_wp2;go_loopw [20] (λiv wr=>aaT w2 r v b g N gone sp f O iv wr) (λiv _=>O.length-(intOf iv).toNat)
  case atStart=>exact ⟨0,T3 _,rfl,f,c.out.2.2.1,⟨λ_ _=>rfl,λi ⟨q,L,_⟩=>by cases L⟩,c.out.2.1,aa.refl _ _⟩
  case round=>
   rename ZT=>wo;obtain ⟨k,Y,rfl,fk,C,o,F,A⟩:=hrel;by_cases kc:k<O.length
   . obtain ⟨d,ka,D,_⟩:=c.out.2.2.2.2.2.2 k kc;have kp:=km d ka;obtain ⟨q0,q1⟩:=c.out.1.cells k kc;have kh:=HG.out;have kr:n≠g:=(by have:=c.out.1.ge;have:w1.drew.heap.size=w1.heap.size:=rfl;omega);have k5:=c.out.1.lt;have J:=A.block n k5 kr;have d0:wo.cell? ⟨n,k*2,ZX⟩=ZW (Z8 Z9 (d:Int)):=(Uh J).trans (by rw [q0,D]);have d1:wo.cell? ⟨n,k*2+1,ZX⟩=ZW (jT O[k].2):=(Uh J).trans q1;have B:=o.step kc D;obtain ⟨hv,kb⟩:=nM (jT O[k].2);rw [kb] at d1 B;obtain ⟨p,x,t,q2⟩:∃ p x t,hv=.slice p x t:=⟨_,_,_,kb.symm⟩;subst q2;have V:bW wo (wo.alloc (Z5 #[Z8 Z9 (d:Int),.slice p x t] 270)):=bA wo _;have G:(wo.alloc (Z5 #[Z8 Z9 (d:Int),.slice p x t] 270)).heap[wo.heap.size]?=ZW (Z5 #[Z8 Z9 (d:Int),.slice p x t] 270 (0,0)):=T9 _ _;have m:=F.keep (V.block _ F.lt);have h:=C.of_block (V.block _ C.lt);have z:aa (λk=>k=g) w2 (wo.alloc (Z5 #[Z8 Z9 (d:Int),.slice p x t] 270)):=A.trans (aa.RO V _);obtain ⟨w3,S⟩:=nM (wo.alloc (Z5 #[Z8 Z9 (d:Int),.slice p x t] 270));have T:=a8 m h z G B S;clear o B q0 q1 J kb V G m h z F C A D kh k5 S;go_wp2;obtain ⟨m,h,z,G,B,S⟩:=T.out;rw [S] at m h z G ⊢;have k0:w3.cell? ⟨wo.heap.size,0,ZX⟩=ZW (Z8 Z9 d):=(by simp [World.cell?,G]);have k1:w3.cell? ⟨wo.heap.size,1,ZX⟩=ZW (.slice p x t):=(by simp [World.cell?,G]);have cs:=m.cells.2.2.1;have cg:=h.cell (i:=d) kp;have fg:=h.frozen d;have H4:=a5 m h z B;clear m h z G B S T d0 d1;go_region;go_wp2;go_roundw
     case rel=>
      obtain ⟨m,h,z,B⟩:=H4.out;have hO:aa (λk=>k=g) w3 (w3.setCell ⟨g,d,ZX⟩ (.slice p x t)):=aa.setCell _ _ _ rfl;exact ⟨k+1,eb,e8,_,h.set d _,B,m.keep (hO.block _ m.lt kz),z.trans (hO.trans (aa.drew _))⟩
     case measure=>simp [intOf]<;>omega
   . have kv:k=O.length:=eb;subst kv;have T:=a5 C o F A;clear C o F A;go_wp2;go_ret;obtain ⟨C,o,F,A⟩:=T.out;obtain ⟨y,_,_,ko,u,kg,Q⟩:=c.out;unfold Fd at o;rw [VE] at o;have q3:=H.out.1.size;refine ⟨rfl,F,⟨fk,C,λi W=>o.1 i λq L e=>?_,λi W=>?_⟩,(aa.RO ko _).trans A⟩
     . obtain ⟨j,X,rfl⟩:=Va L;obtain ⟨d,ka,D,_⟩:=Q j X;rw [D] at e;exact W (YM e▸ka)
     . obtain ⟨j,X,rfl⟩:=Va W;have ks:j<O.length:=eb;have kx:O[j].1=((M[j]:Nat):Int):=by
        have e:=congrArg (λl=>l[j]?) u;simp only [Ul,T2 ks,T2 X,Wv,UC,WH] at e;exact e.1
       obtain ⟨q,L,e1,e2⟩:=o.2 M[j] ⟨O[j],T4 _,kx⟩;obtain ⟨j2,ki,rfl⟩:=Va L;obtain ⟨d,_,D,ky⟩:=Q j2 ki;rw [D] at e1;obtain ⟨r1,r2,r3,r4⟩:=y.row _ (T4 ki);have kh:=HG.out;have q5:w1.drew.heap.size=w1.heap.size:=rfl;exact ⟨_,_,_,e2,eb,r3,Vo r2 (A.block _ (aM.lt r2) eb),by rw [ky,YM e1],r4⟩
section
structure Pq where
 lost:Nat
 nb:Nat
 s:Nat
 C:Ck
 ao:Option ZQ
 m:Nat
 c:Nat
def Pq.cn (D L G:Nat) (q:Pq):Ev:=⟨D,L,G,(dP q.lost:Nat),fC q.lost,1+((ae (aC (D+L+G) q.s)).length:Int),.slice q.ao q.m q.c⟩
def jQ (qs:List Pq):a9:=qs.map (·.nb)
def pt (sb:Nat) (qs:List Pq) (a:Nat):Prop:=a=sb\/a∈jQ qs
structure gJ (w:ZT) (sb:Nat) (room:Int) (D L G:Nat) (es:List (Nat×Nat×Nat)) (qs:List Pq):Prop where
 list:fA w sb room
 Sc:w.heap[sb+1+1+1]?=ZW (Z5 #[Z7 (ZW ⟨sb+1+1,0,ZX⟩)] 191 (0,0))
 map:∃ n,w.heap[sb+1]?=ZW (.map (dB D L G es).toArray n)
 ring:∃ cn nw ol,pH w (pt sb qs) cn nw ol/\vz nw ol sb (jQ qs) sb/\∀ q∈qs,cn q.nb=q.cn D L G
 nd:(sb::jQ qs).Nodup
 lo:(cC es).Nodup
 TF:∀ e∈es,∃ q∈qs,q.lost=e.1/\q.nb=e.2.1
 qs_es:∀ q∈qs,∃ e∈es,e.1=q.lost/\e.2.1=q.nb
 len:es.length=qs.length
 SZ:∀ q∈qs,sb+1+1+1<q.nb
 own:∀ q∈qs,w.ownsRow 0 288 4 (.slice q.ao q.m q.c) (di D L G q.s q.C).length (dW .u8 (di D L G q.s q.C))
 Th:∀ q∈qs,∀ i,(dP q.lost).testBit i=ZV->q.s.testBit i=ZV
 told:∀ q∈qs,tells (lS D L G) (ae (aC (D+L+G) q.s))=ZW q.C
section
variable {w w':ZT} {sb:Nat} {room:Int} {D L G:Nat} {es:List (Nat×Nat×Nat)} {qs:List Pq}
def gJ.apart (h:gJ w sb room D L G es qs) (a:Nat) (b:pt sb qs a):a≠sb+1/\a≠sb+1+1/\a≠sb+1+1+1/\a<w.heap.size/\∃ cs,w.heap[a]?=ZW (Z5 cs 236 (0,0)):=by
 obtain ⟨cn,nw,ol,d,_,_⟩:=h.ring;have c:=d a b;refine ⟨?_,?_,?_,c.lt,_,c⟩;all_goals
  rcases b with rfl|b
  . omega
  . obtain ⟨q,e,rfl⟩:=T1.1 b;have:=h.SZ q e;omega
def gJ.steps (h:gJ w sb room D L G es qs) {q:Pq} (f:q∈qs) {k:Nat} (d:(Value.slice q.ao q.m q.c).ownBlock=ZW k):¬ pt sb qs k:=λe=>by
 obtain ⟨_,_,_,_,cs,b⟩:=h.apart k e;obtain ⟨cur,a⟩:=bL (h.own q f) d;rw [b] at a;simp only [UC,U1] at a;exact absurd a.2.1 ec
def LV (qs l r:List Pq) (q:Pq) (h:qs=l++q::r):jQ qs=jQ l++q.nb::jQ r:=by rw [h];simp [jQ]
theorem Qp (h:gJ w sb room D L G es qs) {x:Nat} (hx:x∈cC es) :
 ∃ q t,q∈qs/\q.lost=x/\(∀ p,p∈t↔p∈qs)/\∀ W,gJ W sb room D L G es qs->ZR ZN 170 #[Z7 (ZW ⟨sb+1+1,0,ZX⟩),bH D L G (dP x:Nat) (fC x)] W λe w'=>e=Z4 (ZZ #[.agg #[Z8 Z9 (1+((ae (aC (D+L+G) q.s)).length:Int)),.slice q.ao q.m q.c],Z3 ZV])/\gJ w' sb room D L G es t/\aa (pt sb qs) W w':=by
 obtain ⟨e,u,f⟩:=T1.1 hx;obtain ⟨k,I,N⟩:=Va u;obtain ⟨q,v,P,hz⟩:=h.TF e u;obtain ⟨l,r,B⟩:=List.append_of_mem v;have d:∀ p,p∈q::(l++r)↔p∈qs:=λp=>by rw [B];simp only [Un,Ub];constructor<;>(intro h;rcases h with h|h|h<;>simp [h])
 refine ⟨q,q::(l++r),v,P.trans f,d,λW h=>?_⟩;obtain ⟨cn,nw,ol,T,E,M⟩:=h.ring;obtain ⟨n,Q⟩:=h.map;have O:=LV qs l r q B;have i:=h.nd;rw [O] at E i;have H:sb∉jQ l++q.nb::jQ r:=(UF.1 i).1;obtain ⟨V,Y,Z⟩:=vz.take E i H;have hy:∀ a,pt sb (q::(l++r)) a↔pt sb qs a:=λa=>by
  unfold pt jQ;simp only [T1];constructor
  . rintro (e|⟨p,b,e⟩)
    . exact .inl e
    . exact .inr ⟨p,(d p).1 b,e⟩
  . rintro (e|⟨p,b,e⟩)
    . exact .inl e
    . exact .inr ⟨p,(d p).2 b,e⟩
 have F:∀ a,a∈sb::(jQ l++q.nb::jQ r)->pt sb qs a:=λa g=>by
  rcases Un.1 g with e|e
  . exact .inl e
  . exact .inr (by rw [O];exact e)
 have J:pt sb qs (nw q.nb):=F _ (by
  rcases Un.1 Y with e|e
  . rw [e];exact UO ..
  . exact Ux _ (UN _ e))
 have K:pt sb qs (ol q.nb):=by
  rcases Z with e|e
  . exact F _ (Ux _ (Wn _ (Ux _ e)))
  . exact .inl e
 have S:pt sb qs (ol sb):=by
  rcases E.Ss with e|e
  . exact .inl e.1
  . exact F _ (Ux _ e)
 have C:q.nb∉sb::(jQ l++jQ r):=by
  intro o;have A:=(UF.1 i).2;rcases Un.1 o with e|e
  . exact H (by rw [<- e];simp)
  . rw [Vc] at A;rcases Ub.1 e with e|e
    . exact A.2.2 _ e _ (UO ..) rfl
    . exact (UF.1 A.2.1).1 e
 have z:(sb::(jQ l++jQ r)).Nodup:=by
  refine UF.2 ⟨λe=>H ?_,?_⟩
  . rcases Ub.1 e with e|e
    . exact UN _ e
    . exact Wn _ (Ux _ e)
  . exact YJ (List.Sublist.append_left (YO _ _) _) (UF.1 i).2
 have U:=V.put z C;refine (Ia h.list Q I h.lo (by rw [N];exact f) (by rw [N];exact hz.symm) T (λa g=>⟨(h.apart a g).1,(h.apart a g).2.1⟩) (.inr (T1.2 ⟨q,v,rfl⟩)) J K (.inl rfl) S (by rw [M q v,Pq.cn,P.trans f])).mono ?_;rintro e w' ⟨rfl,X,j⟩;have y:∀ a,sb<a->a<=sb+1+1+1->¬ pt sb qs a:=λa J K q=>by
  obtain ⟨q1,q2,q3,_⟩:=h.apart a q;rcases q with q|q
  . omega
  . obtain ⟨p,b,rfl⟩:=T1.1 q;have:=h.SZ p b;omega
 have hll:sb+1+1+1<W.heap.size:=(TW.1 h.Sc).1;refine ⟨rfl,⟨(j.block _ eb (y _ eb eb)).trans h.list,(j.block _ hll (y _ eb eb)).trans h.Sc,⟨n,(j.block _ eb (y _ eb eb)).trans Q⟩,⟨cn,_,_,λa g=>X a ((hy a).1 g),?_,λp b=>M p ((d p).1 b)⟩,?_,h.lo,λe u=>?_,λp b=>h.qs_es p ((d p).1 b),?_,λp b=>h.SZ p ((d p).1 b),λp b=>bZ (h.own p ((d p).1 b)) j (λk I q=>h.steps ((d p).1 b) I q),λp b=>h.Th p ((d p).1 b),λp b=>h.told p ((d p).1 b)⟩,j⟩
 . have e:jQ (q::(l++r))=q.nb::(jQ l++jQ r):=(by simp [jQ]);rw [e];exact U
 . have e:jQ (q::(l++r))=q.nb::(jQ l++jQ r):=(by simp [jQ]);rw [e,UF];refine ⟨λo=>?_,UF.2 ⟨λo=>C (Ux _ o),(UF.1 z).2⟩⟩;rcases Un.1 o with e|e
   . exact C (by rw [<- e];exact UO ..)
   . exact (UF.1 z).1 e
 . obtain ⟨p,b,R⟩:=h.TF e u;exact ⟨p,(d p).2 b,R⟩
 . rw [h.len,B];simp;omega
end
end
section
section
variable {w w':ZT} {sb:Nat} {room:Int} {D L G:Nat} {es:List (Nat×Nat×Nat)} {qs:List Pq}
theorem uP:∀ (es:List (Nat×Nat×Nat)) (j:Nat),cC (es.eraseIdx j)=(cC es).eraseIdx j
 | [],_=>rfl
 | _::_,0=>rfl
 | e::es,j+1=>congrArg (e.1::·) (uP es j)
def EK (h:l.Nodup) {i j:Nat} (a:i<l.length) (b:j<l.length) (e:l[i]=l[j]):i=j:=by
 rcases Nat.lt_trichotomy i j with q|q|q
 . exact absurd e (Wg.1 h i j a b q)
 . exact q
 . exact absurd e.symm (Wg.1 h j i b a q)
def Af (q:Pq) (qs:List Pq):jQ (q::qs)=q.nb::jQ qs:=rfl
theorem Qq (h:gJ w sb room D L G es qs) {x:Nat} (hx:x∉cC es) {s m c:Nat} {C:Ck} {ao:Option ZQ} (ho:w.ownsRow 0 288 4 (.slice ao m c) (di D L G s C).length (dW .u8 (di D L G s C))) (hr:∀ i,(dP x).testBit i=ZV->s.testBit i=ZV) (ht:tells (lS D L G) (ae (aC (D+L+G) s))=ZW C) :
 ZR ZN 172 #[Z7 (ZW ⟨sb+1+1,0,ZX⟩),bH D L G (dP x:Nat) (fC x),.agg #[Z8 Z9 (1+((ae (aC (D+L+G) s)).length:Int)),.slice ao m c]] w λe w'=>e=Z4 (ZZ #[])/\(∃ f S,gJ w' sb room D L G f S/\∀ q∈S,q∈qs\/q=⟨x,w.heap.size+1+1,s,C,ao,m,c⟩)/\aa (λk=>pt sb qs k\/k=sb+1) w w':=by
 obtain ⟨cn,nw,ol,hN,hL,q9⟩:=h.ring;obtain ⟨n,hm⟩:=h.map;have hll:sb+1+1+1<w.heap.size:=(TW.1 h.Sc).1;obtain ⟨N,ky⟩:∃ N,N=w.heap.size+1+1:=⟨_,rfl⟩;obtain ⟨g,z⟩:∃ g:Pq,g=⟨x,N,s,C,ao,m,c⟩:=⟨_,rfl⟩;have q6:∀ a,pt sb qs a->a<w.heap.size:=λa r=>(h.apart a r).2.2.2.1;have Z:N∉sb::jQ qs:=λe=>by
  have:=q6 N (by rcases Un.1 e with e|e;exact .inl e;exact .inr e);omega
 have W:=hL.put h.nd Z;obtain ⟨A,kb⟩:∃ A,A=ir (ir nw N sb) (ol sb) N:=⟨_,rfl⟩;obtain ⟨F,kc⟩:∃ F,F=ir (ir ol N (ol sb)) sb N:=⟨_,rfl⟩;obtain ⟨cn',k5⟩:∃ cn',cn'=cnN cn N (g.cn D L G):=⟨_,rfl⟩;obtain ⟨f,I⟩:∃ f,f=es++[(x,N,n)]:=⟨_,rfl⟩;rw [<- kb,<- kc] at W;have h3:pt sb qs (ol sb):=by
  rcases hL.Ss with e|e
  . exact .inl e.1
  . exact .inr e
 have J:g.nb=N:=by rw [z]
 have kr:∀ q∈g::qs,cn' q.nb=q.cn D L G:=λq d=>by
  rw [k5];unfold cnN;rcases Un.1 d with e|e
  . rw [e,J,if_pos rfl]
  . rw [if_neg (show ¬ q.nb=N from λt=>Z (Ux _ (by rw [<- t];exact T1.2 ⟨q,e,rfl⟩))),q9 q e]
 have ko:(cC f).Nodup:=by
  have e:cC f=cC es++[x]:=by rw [I];simp [cC]
  rw [e,Vc];exact ⟨h.lo,ek,λa r b hb e=>hx (by rw [U9] at hb;rw [<- hb,<- e];exact r)⟩
 have kx:∀ q∈g::qs,∃ e∈f,e.1=q.lost/\e.2.1=q.nb:=λq d=>by
  rcases Un.1 d with e|e
  . exact ⟨(x,N,n),by rw [I];simp,by rw [e,z],by rw [e,z]⟩
  . obtain ⟨y,hy,o⟩:=h.qs_es q e;exact ⟨y,by rw [I];exact UN _ hy,o⟩
 have ks:∀ e∈f,∃ q∈g::qs,q.lost=e.1/\q.nb=e.2.1:=λe B=>by
  rw [I] at B;rcases Ub.1 B with o|o
  . obtain ⟨q,d,t⟩:=h.TF e o;exact ⟨q,Ux _ d,t⟩
  . rw [U9] at o;exact ⟨g,UO ..,by rw [o,z],by rw [o,z]⟩
 have k8:f.length=qs.length+1:=by rw [I,T5,h.len];rfl
 have U:(sb::jQ (g::qs)).Nodup:=by
  rw [Af,J];refine UF.2 ⟨λe=>?_,UF.2 ⟨λe=>Z (Ux _ e),(UF.1 h.nd).2⟩⟩;rcases Un.1 e with e|e
  . exact Z (by rw [<- e];exact UO ..)
  . exact (UF.1 h.nd).1 e
 rw [<- J,<- Af] at W;obtain ⟨l,u,R⟩:∃ l u,g::qs=l++[u]:=⟨(g::qs).dropLast,(g::qs).getLast ek,(List.dropLast_concat_getLast ek).symm⟩;have hz:u∈g::qs:=by rw [R];simp
 have T:jQ (g::qs)=jQ l++u.nb::jQ []:=by rw [R];simp [jQ]
 have kp:=W;have V:=U;rw [T] at kp V;have H:A sb=u.nb:=by
  rw [kp.last ek];simp [jQ]
 obtain ⟨hT,q7,q8⟩:=vz.take kp V (UF.1 V).1;have kk:∀ a,a∈sb::jQ (g::qs)->a=N\/pt sb qs a:=λa r=>by
  rw [Af,J] at r;rcases Un.1 r with e|e
  . exact .inr (.inl e)
  . rcases Un.1 e with e|e
    . exact .inl e
    . exact .inr (.inr e)
 have k7:∀ q∈g::qs,q.nb=u.nb->q∉l:=λq d e qe=>by
  have q4:=(UF.1 V).2;rw [Vc] at q4;exact q4.2.2 q.nb (T1.2 ⟨q,qe,rfl⟩) u.nb ek e
 have ke:∀ q∈g::qs,q∈l\/q=u:=λq d=>by
  rw [R] at d;rcases Ub.1 d with e|e
  . exact .inl e
  . exact .inr (U9.1 e)
 refine (Ex (cn':=cn') (regs:=1+((ae (aC (D+L+G) s)).length:Int)) (ao:=ao) (m:=m) (c:=c) h.list hm hx hN (λa r=>⟨(h.apart a r).1,(h.apart a r).2.1⟩) (.inl rfl) h3 ky (by rw [k5,z];rfl) kb kc I (λ_=>⟨ko,?_⟩)).mono ?_
 . obtain ⟨e,B,o,t⟩:=kx u hz;obtain ⟨j,M,q5⟩:=Va B;refine ⟨j,M,by rw [q5,t,H],⟨_,_,by rw [H,kr u hz,q5,o];rfl⟩,?_,?_,?_⟩
   . rw [H];exact kk _ (Ux _ (T1.2 ⟨u,hz,rfl⟩))
   . rw [H];refine kk _ ?_;rw [T];rcases Un.1 q7 with e|e
     . rw [e];exact UO ..
     . exact Ux _ (UN _ e)
   . rw [H];rcases q8 with e|e
     . cases e
     . rw [e];exact .inr (.inl rfl)
 . rintro e w' ⟨rfl,hA,K⟩;have hh:∀ {v:ZS} {nn:Nat} {xs:List ZS},w.ownsRow 0 288 4 v nn xs->∀ k,v.ownBlock=ZW k->¬ (pt sb qs k\/k=sb+1):=λhw k O q=>by
    obtain ⟨cur,P⟩:=bL hw O;rcases q with q|q
    . obtain ⟨_,_,_,_,cs,hc⟩:=h.apart k q;rw [hc] at P;simp only [UC,U1] at P;exact absurd P.2.1 ec
    . rw [q,hm] at P;cases P
   have k9:∀ a,sb+1<a->a<=sb+1+1+1->¬ (pt sb qs a\/a=sb+1):=λa h1 h2 q=>by
    rcases q with q|q
    . obtain ⟨q1,q2,q3,_⟩:=h.apart a q;rcases q with q|q
      . omega
      . obtain ⟨p,hp,rfl⟩:=T1.1 q;have:=h.SZ p hp;omega
    . omega
   have hn:=(K.block (sb+1+1) eb (k9 _ eb eb)).trans h.list;have h6:=(K.block _ hll (k9 _ eb eb)).trans h.Sc;have kz:∀ q∈g::qs,sb+1+1+1<q.nb:=λq d=>by
    rcases Un.1 d with e|e
    . rw [e,J];omega
    . exact h.SZ q e
   have kf:∀ q∈g::qs,w'.ownsRow 0 288 4 (.slice q.ao q.m q.c) (di D L G q.s q.C).length (dW .u8 (di D L G q.s q.C)):=λq d=>by
    rcases Un.1 d with e|e
    . subst z;rw [e];exact bZ ho K (λk O q=>hh ho k O q)
    . exact bZ (h.own q e) K (λk O q'=>hh (h.own q e) k O q')
   have X:∀ q∈g::qs,(∀ i,(dP q.lost).testBit i=ZV->q.s.testBit i=ZV)/\tells (lS D L G) (ae (aC (D+L+G) q.s))=ZW q.C:=λq d=>by
    rcases Un.1 d with e|e
    . subst z;rw [e];exact ⟨hr,ht⟩
    . exact ⟨h.Th q e,h.told q e⟩
   have kh:∀ q∈g::qs,q∈qs\/q=⟨x,w.heap.size+1+1,s,C,ao,m,c⟩:=λq d=>by
    rcases Un.1 d with e|e
    . right;rw [e,z,ky]
    . exact .inl e
   refine ⟨rfl,?_,K⟩;by_cases kg:((f.length:Nat):Int)<=room
   . obtain ⟨kv,Y⟩:=hA.1 kg;exact ⟨f,g::qs,⟨hn,h6,kv,⟨cn',A,F,λa r=>Y a (kk a (by rcases r with e|e;rw [e];exact UO ..;exact Ux _ e)),W,kr⟩,U,ko,ks,kx,by rw [k8];rfl,kz,kf,λq d=>(X q d).1,λq d=>(X q d).2⟩,kh⟩
   . obtain ⟨j,M,km,kv,Y⟩:=hA.2 eb;rw [H] at Y km;have E:∀ q∈l,q∈g::qs:=λq d=>by rw [R];exact UN _ d
     have qb:f[j].1=u.lost:=by
      obtain ⟨q,d,o,t⟩:=ks _ (T4 M);rcases ke q d with e|e
      . exact absurd e (k7 q d (by rw [t,km]))
      . rw [<- o,e]
     have e0:cC (f.eraseIdx j)=(cC f).eraseIdx j:=uP _ _;have qd:jQ l++jQ []=jQ l:=(by simp [jQ]);rw [qd] at hT;refine ⟨f.eraseIdx j,l,⟨hn,h6,kv,⟨cn',_,_,λa r=>Y a (kk a ?_),hT,λq d=>kr q (E q d)⟩,?_,?_,λe B=>?_,λq d=>?_,?_,λq d=>kz q (E q d),λq d=>kf q (E q d),λq d=>(X q (E q d)).1,λq d=>(X q (E q d)).2⟩,λq d=>kh q (E q d)⟩
     . rw [T];rcases r with e|e
       . rw [e];exact UO ..
       . exact Ux _ (UN _ e)
     . rw [T] at U;exact YJ (List.Sublist.cons_cons _ (List.sublist_append_left _ _)) U
     . rw [e0];exact YJ (List.eraseIdx_sublist _ _) ko
     . obtain ⟨i,hi,qc,Q⟩:=YX.1 B;obtain ⟨q,d,o,t⟩:=ks e (by rw [<- Q];exact T4 _);refine ⟨q,(ke q d).resolve_right λeq=>?_,o,t⟩;subst eq;have qa:(cC f)[i]'(by simpa [cC] using hi)=(cC f)[j]'(by simpa [cC] using M):=by
        simp only [cC,Vf,Q,qb,o]
       exact qc (EK ko _ _ qa)
     . obtain ⟨e,B,o,t⟩:=kx q (E q d);obtain ⟨i,hi,Q⟩:=Va B;refine ⟨e,YX.2 ⟨i,hi,λhd=>?_,Q⟩,o,t⟩;subst hd;rw [Q,t] at km;exact k7 q (E q d) km d
     . have:(g::qs).length=l.length+1:=by rw [R];simp
       rw [List.length_eraseIdx_of_lt M,k8];simp at this;omega
def N6 (sb:Nat) (qs:List Pq) (k:Nat):Prop:=(sb<=k/\k<=sb+1+1+1)\/k∈jQ qs\/∃ q∈qs,(Value.slice q.ao q.m q.c).ownBlock=ZW k
def Cx {qs:List Pq} (h:pt sb qs k):N6 sb qs k:=h.elim (λe=>.inl eb) λe=>.inr (.inl e)
def gJ.keep (h:gJ w sb room D L G es qs) (b:∀ k,N6 sb qs k->w'.heap[k]?=w.heap[k]?):gJ w' sb room D L G es qs:=by
 obtain ⟨cn,nw,ol,i,g,f⟩:=h.ring;obtain ⟨n,j⟩:=h.map;exact ⟨(b _ (.inl ⟨eb,eb⟩)).trans h.list,(b _ (.inl ⟨eb,eb⟩)).trans h.Sc,⟨n,(b _ (.inl ⟨eb,eb⟩)).trans j⟩,⟨cn,nw,ol,λa c=>(i a c).keep (b a (Cx c)),g,f⟩,h.nd,h.lo,h.TF,h.qs_es,h.len,h.SZ,λq d=>Hu (h.own q d) λk e=>b k (.inr (.inr ⟨q,d,e⟩)),h.Th,h.told⟩
def gJ.blt (h:gJ w sb room D L G es qs) (k:Nat) (a:N6 sb qs k):k<w.heap.size:=by
 have:sb+1+1+1<w.heap.size:=(TW.1 h.Sc).1;rcases a with e|e|⟨q,b,e⟩
 . omega
 . exact (h.apart k (.inr e)).2.2.2.1
 . exact P5 (h.own q b) e
def nu (sb:Nat) (room:Int) (D L G:Nat) (es:List (Nat×Nat×Nat)) (qs:List Pq) (ho:Nat):aN where
 ps:=sb+1+1+1
 ho:=ho
 bl:=N6 sb qs
 S:=λw=>gJ w sb room D L G es qs
 keep:=λ_ _ h hk=>h.keep hk
 kd:=λw h k hk cs T z e=>by
  rcases hk with ⟨h1,h2⟩|hk|⟨q,hq,hk⟩
  . have hx:k=sb\/k=sb+1\/k=sb+1+1\/k=sb+1+1+1:=by omega
    rcases hx with rfl|rfl|rfl|rfl
    . obtain ⟨_,_,_,_,cs',q⟩:=h.apart k (.inl rfl)
      rw [q] at e;injection e with e;injection e with _ e;exact .inr (.inr (.inl e.symm))
    . obtain ⟨n,q⟩:=h.map;rw [q] at e;injection e with e;cases e
    . have q:w.heap[sb+1+1]?=_:=h.list
      rw [q] at e;injection e with e;injection e with _ e;exact .inr (.inl e.symm)
    . rw [h.Sc] at e;injection e with e;injection e with _ e;exact .inl e.symm
  . obtain ⟨_,_,_,_,cs',q⟩:=h.apart k (.inr hk)
    rw [q] at e;injection e with e;injection e with _ e;exact .inr (.inr (.inl e.symm))
  . obtain ⟨cur,q⟩:=bL (h.own q hq) hk
    rw [q] at e;injection e with e;injection e with _ e;exact .inr (.inr (.inr e.symm))
 lt:=λ_ h=>h.blt
 cl:=λw h k hk=>by
  rcases hk with ⟨h1,h2⟩|hk|⟨q,hq,hk⟩
  . have hx:k=sb\/k=sb+1\/k=sb+1+1\/k=sb+1+1+1:=by omega
    rcases hx with rfl|rfl|rfl|rfl
    . obtain ⟨_,_,_,_,cs',q⟩:=h.apart k (.inl rfl)
      exact .inr ⟨_,_,_,q⟩
    . exact .inl rfl
    . exact .inr ⟨_,_,_,h.list⟩
    . exact .inr ⟨_,_,_,h.Sc⟩
  . obtain ⟨_,_,_,_,cs',q⟩:=h.apart k (.inr hk)
    exact .inr ⟨_,_,_,q⟩
  . obtain ⟨cur,q⟩:=bL (h.own q hq) hk
    exact .inr ⟨_,_,_,q⟩
def lg (sb:Nat) (room:Int) (D L G:Nat) (ps:aN):Prop:=∃ es qs ho,ps=nu sb room D L G es qs ho
end
end
def Qr (T gone sp:Nat) (ds:a9):a9:=vY ds (ae (Db (Db T gone) sp))
def lh (A:aA) (N gone:Nat):Nat:=((YD N).filter λi=>A.lost i && !gone.testBit i).length
def yB {p q:α->Bool}:∀ {l:List α},(∀ x∈l,q x=ZV->p x=ZV)->(∃ x∈l,p x=ZV/\q x=ZU)->(l.filter q).length<(l.filter p).length
 | [],_,⟨_,h,_⟩=>Bf
 | a::l,h,⟨x,d,f,g⟩=>by
  have k:(l.filter q).length<=(l.filter p).length:=by
   clear d f g;have i:∀ y∈l,q y=ZV->p y=ZV:=λy c=>h y (Ux _ c);clear h;induction l with
   | nil=>exact TV _
   | cons b l ih=>
    have j:=i b (UO ..);have:=ih λy c=>i y (Ux _ c);cases e:q b
    . rw [YP (by rw [e];decide)];exact TU this (YQ ((YO b l).filter _))
    . rw [YH e,YH (j e),Um,Um];omega
  rcases Un.1 d with rfl|d
  . rw [YP (by rw [g];decide),YH f,Um];omega
  . have ih:=yB (λy c=>h y (Ux _ c)) ⟨x,d,f,g⟩;cases e:q a
    . rw [YP (by rw [e];decide)];exact TY ih (YQ ((YO a l).filter _))
    . rw [YH e,YH (h a (UO ..) e),Um,Um];omega
theorem N7 (A:aA) (N gone x:Nat):lh A N (gone|||x)<=lh A N gone:=by
 unfold lh;refine YQ ?_;have:((YD N).filter λi=>A.lost i && !(gone|||x).testBit i)=((YD N).filter λi=>A.lost i && !gone.testBit i).filter λi=>!(gone|||x).testBit i:=by
  rw [Ys];refine List.filter_congr λi _=>?_;rw [VA];cases A.lost i<;>cases gone.testBit i<;>cases x.testBit i<;>rfl
 rw [this];exact List.filter_sublist
def N8 {x:Nat} (c:i<N) (b:A.lost i=ZV) (a:gone.testBit i=ZU) (d:x.testBit i=ZV):lh A N (gone|||x)<lh A N gone:=by
 unfold lh;refine yB (λj _ q=>?_) ⟨i,Uq.2 c,?_,?_⟩
 . rw [VA] at q;revert q
   cases A.lost j<;>cases gone.testBit j<;>cases x.testBit j<;>decide
 . rw [b,a];rfl
 . rw [VA,b,a,d];rfl
def EL {g1 x:Nat} (c:∀ i,x.testBit i=ZV->i<N/\A.lost i=ZV) (d:(g1|||x)|||sp≠g1|||sp):lh A N (g1|||x)<lh A N g1:=by
 obtain ⟨i,b⟩:∃ i,((g1|||x)|||sp).testBit i≠(g1|||sp).testBit i:=by
  rcases Classical.em (∃ i,((g1|||x)|||sp).testBit i≠(g1|||sp).testBit i) with h|h
  . exact h
  . exact absurd (WD λi=>YS λq=>h ⟨i,q⟩) d
 simp only [VA] at b;have a:x.testBit i=ZV/\g1.testBit i=ZU:=by
  revert b
  cases g1.testBit i<;>cases x.testBit i<;>cases sp.testBit i<;>decide
 exact N8 (c i a.1).1 (c i a.1).2 a.2 a.1
def It (A:aA) (N gone:Nat):lh A N gone<=N:=by
 have:=Wq (λi=>A.lost i && !gone.testBit i) (YD N);rwa [Uv] at this
noncomputable def aaf:Array Oper:=((Tryz.f161.body.bind (nZ · 14))).getD #[]
def aag:List (Op×Option Nat×a9):=[(Op.load 130 (Z1 4),ZW 70,[]),
 (Op.move (Z1 0),ZW 71,[]),
 (Op.move (Z1 9),ZW 72,[]),
 (Op.call { callee:=Callee.value (Operand.func 105),args:=#[Z1 72],argTypes:=#[3] },ZW 73,[2]),
 (Op.slice 31 (Z1 71) (ZW (Z1 73)) ZX ZX,ZW 74,[1,3]),
 (Op.store 130 (Z1 4) (Z1 70),ZX,[0,3,0]),
 (Op.assign (Z1 74),ZW 5,[4,5,0,1,2,3,4,5]),
 (Op.assign (Operand.const (Value.bool ZV)),ZW 6,[6,0,1,2,3,4,5,6])]
def EM:aL aaf 5 75 aag:=bj ei ei
def aah (b off bl c m lo sz sc:Nat) (nm:ByteArray) (sa ra:Option ZQ):List ZS:=[.agg #[Z0 nm,Z8 Z9 (sz:Int),.slice sa m sc],Z6 (ZW ⟨b,off,ZX⟩) bl c,Z8 Z9 m,Z8 Z9 (lo:Nat),.slice ra (bl-lo) (c-lo),ZY,.slice ra (bl-lo) (c-lo),Z3 ZV]
theorem rR {a:Act} {lo sz sc:Nat} {nm:ByteArray} {sa ra:Option ZQ} (z:w.heap[q]?=ZW (Z5 #[Z0 nm,Z8 Z9 (sz:Int),.slice sa m sc] 130 (0,0))) (L:19+4*m=lo) (T:lo<=bl) (S:bl<=c) (P:m<=100000) (M:(c=lo/\ra=ZW ⟨b,off,ZX⟩)\/(c≠lo/\ra=ZW ⟨b,off+lo,ZX⟩)) (J:aaf=ops) (U:a.tmps.size=75)
 (D:a.eval (Z1 0)=Z6 (ZW ⟨b,off,ZX⟩) bl c) (A:a.eval (Z1 4)=Z7 (ZW ⟨q,0,ZX⟩)) (E:a.eval (Z1 9)=Z8 Z9 m)
 (I:∀ (w':ZT),w'=w.drew->Q .normal (Act.RL (Act.RL a 5 [.slice ra (bl-lo) (c-lo),Z3 ZV]) 70 [.agg #[Z0 nm,Z8 Z9 (sz:Int),.slice sa m sc],Z6 (ZW ⟨b,off,ZX⟩) bl c,Z8 Z9 m,Z8 Z9 (lo:Nat),.slice ra (bl-lo) (c-lo)]) w'):(Code.region 14 ops ZV).wp ZN Q a w:=by
 subst J;have B:(ZN.info? 130).map (·.size)=ZW 3:=ei
 have K:(Instr.loadAt 130 (Z7 (ZW ⟨q,0,ZX⟩))).run ZN w.drew=.ok (.agg #[Z0 nm,Z8 Z9 (sz:Int),.slice sa m sc]) w.drew:=by simp only [Instr.loadAt,Instr.sureAddr,Uo,UW,Uz,WE w.drew q 130 130 #[Z0 nm,Z8 Z9 (sz:Int),.slice sa m sc] (0,0) _ z WY rfl B]
 have N:(Instr.storeAt 130 (Z7 (ZW ⟨q,0,ZX⟩)) (.agg #[Z0 nm,Z8 Z9 (sz:Int),.slice sa m sc])).run ZN w.drew=.ok () w.drew:=by
  simp only [Instr.storeAt,Instr.sureAddr,Uo,UW,Uz,Xt w.drew q 130 130 #[Z0 nm,Z8 Z9 (sz:Int),.slice sa m sc] #[Z0 nm,Z8 Z9 (sz:Int),.slice sa m sc] z B rfl Zm];rw [setRow_self w.drew q _ 130 (0,0) z]
 refine lG ei EM a w eb (λi u _=>u=(aah b off bl c m lo sz sc nm sa ra).getD i ZY) (λ_ w'=>w'=w.drew) rfl ?_ ?_
 . intro i y;match i,y with
   | 0,_=>
    intro o a' w' l s ho h t k p r j g d;have u0:a'.eval (Z1 4)=Z7 (ZW ⟨q,0,ZX⟩):=(k 4 ec).trans A;have x:w'=w.drew:=g;exact ag (v:=.agg #[Z0 nm,Z8 Z9 (sz:Int),.slice sa m sc]) (by rw [x];(conv at ho=>rhs;whnf);simp [execOp,ho,u0,K]) h ⟨x,rfl,kq⟩
   | 1,_=>
    intro o a' w' l s ho h t k p r j g d;have u0:a'.eval (Z1 0)=Z6 (ZW ⟨b,off,ZX⟩) bl c:=(k 0 ec).trans D;exact ag (ah ho u0 w') h ⟨g,rfl,kq⟩
   | 2,_=>
    intro o a' w' l s ho h t k p r j g d;have u0:a'.eval (Z1 9)=Z8 Z9 m:=(k 9 ec).trans E;exact ag (ah ho u0 w') h ⟨g,rfl,kq⟩
   | 3,_=>
    intro o a' w' l s ho h t k p r j g d;have u0:a'.eval (Z1 72)=Z8 Z9 m:=d 2 (j 2 ec);refine mG (f:=105) (args:=#[Z8 Z9 m]) (w1:=w') lk h (dY m eb w') ?_;rintro e O ⟨rfl,x⟩;exact ⟨_,rfl,by rw [x];exact g,by rw [L];rfl,kq⟩
   | 4,_=>
    intro o a' w' l s ho h t k p r j g d;have u0:a'.eval (Z1 71)=Z6 (ZW ⟨b,off,ZX⟩) bl c:=d 1 (j 1 ec);have u1:a'.tmps[73]?.getD ZY=Z8 Z9 (lo:Nat):=(by have H:a'.eval (Z1 73)=Z8 Z9 (lo:Nat):=d 3 (j 3 ec);simpa [Act.eval] using H);refine ag (v:=.slice ra (bl-lo) (c-lo)) ?_ h ⟨g,rfl,kq⟩;rcases M with ⟨F,rfl⟩|⟨F,rfl⟩
    . (conv at ho=>rhs;whnf);simp only [execOp,ho,u0];go_simp
    . (conv at ho=>rhs;whnf);simp only [execOp,ho,u0];go_simp
   | 5,_=>
    intro o a' w' l s ho h t k p r j g d;have u0:a'.eval (Z1 4)=Z7 (ZW ⟨q,0,ZX⟩):=(k 4 ec).trans A;have u1:a'.eval (Z1 70)=.agg #[Z0 nm,Z8 Z9 (sz:Int),.slice sa m sc]:=d 0 (j 0 ec);have x:w'=w.drew:=g;subst x;exact iY (w':=w.drew) (by (conv at ho=>rhs;whnf);simp [execOp,ho,u0,u1,N]) ⟨rfl,rfl,kq⟩
   | 6,_=>
    intro o a' w' l s ho h t k p r j g d;have u0:a'.eval (Z1 74)=.slice ra (bl-lo) (c-lo):=d 4 (j 4 ec);exact ag (v:=.slice ra (bl-lo) (c-lo)) ee h ⟨g,rfl,kq⟩
   | 7,_=>
    intro o a' w' l s ho h t k p r j g d;exact ag (v:=Z3 ZV) Ax h ⟨g,rfl,kq⟩
   | n+8,hn=>exact absurd hn ZF
 . rintro a' w' C G ⟨l,R,g⟩ d;have e:a'=Act.RL (Act.RL a 5 [.slice ra (bl-lo) (c-lo),Z3 ZV]) 70 [.agg #[Z0 nm,Z8 Z9 (sz:Int),.slice sa m sc],Z6 (ZW ⟨b,off,ZX⟩) bl c,Z8 Z9 m,Z8 Z9 (lo:Nat),.slice ra (bl-lo) (c-lo)]:=Rj C.size C.defers (Fj G) l3 (by show 5+2<=70;omega) (by show 75<=_;omega) (λi y=>?_) (λi y=>?_)
   . rw [e];exact I w' g
   . match i,y with
     | 0,_=>exact d 6 ec
     | 1,_=>exact d 7 ec
     | n+2,hn=>exact absurd hn ek
   . match i,y with
     | 0,_=>exact d 0 ec
     | 1,_=>exact d 1 ec
     | 2,_=>exact d 2 ec
     | 3,_=>exact d 3 ec
     | 4,_=>exact d 4 ec
     | n+5,hn=>exact absurd hn ek
theorem Bs.sub (h:Bs w (Z6 (ZW ⟨b,off,ZX⟩) bl c) l) (i n c':Nat) (f:i+n<=l.length) (p:n<=c'):Bs w (Z6 (ZW ⟨b,off+i,ZX⟩) n c') ((l.drop i).take n):=by
 obtain ⟨ao,s,e,t,u,m,o⟩:=h;injection e with e1 e2 e3;have d:((l.drop i).take n).length=n:=abX
 refine ⟨ZW ⟨b,off+i,ZX⟩,c',by rw [d],by rw [d];exact p,by rw [d];omega,λx r=>m x (UV (US r)),λv=>⟨b,off+i,rfl,λk g=>?_⟩⟩;rw [d] at g;obtain ⟨b',y,a,j⟩:=o (λq=>by rw [q] at f;simp at f;omega);rw [<- e1] at a;injection a with a;injection a with e5 e6;subst e5 e6;have:=j (i+k) eb;rw [Vb,this];congr 3;rw [T6,T6,VP g,VM]
structure UoF (l:a9) (o:Ob) (rest:a9):Prop where
 n0:l.getD 0 0=o.name.size
 nm:(l.drop 1).take o.name.size=o.name.toList.map (λ(b:UInt8)=>b.toNat)
 sz:(l.drop 17).take 2=be o.size 2
 st:∀ j (hj:j<o.RM.length),(l.drop (19+4*j)).take 4=be o.RM[j] 4
 rs:l.drop (19+4*o.RM.length)=rest
 len:l.length=19+4*o.RM.length+rest.length
def FU (c:a<256) (d:b<256):dh [a,b]=a*256+b:=by unfold dh;simp;omega
def Qs (c:a<256) (d:b<256):be (dh [a,b]) 2=[a,b]:=by
 rw [FU c d];simp [be];omega
def FV (e:a<256) (f:b<256) (g:c<256) (i:d<256):be (dh [a,b,c,d]) 4=[a,b,c,d]/\dh [a,b,c,d]<4294967296:=by
 have h:dh [a,b,c,d]=((a*256+b)*256+c)*256+d:=by unfold dh;simp;omega
 rw [h];refine ⟨?_,eb⟩;simp [be];omega
def Cy (h:k+2<=l.length):(l.drop k).take 2=[l.getD k 0,l.getD (k+1) 0]:=by
 refine U4 (by rw [Ud,Ue];simp;omega) λi c a=>?_;have b:i<2:=vE a
 match i,b with
 | 0,_|1,_=>simp [WW,WV,T6,T2 (eb:k<l.length),T2 (eb:k+1<l.length)]
def yC (h:k+4<=l.length):(l.drop k).take 4=[l.getD k 0,l.getD (k+1) 0,l.getD (k+2) 0,l.getD (k+3) 0]:=by
 refine U4 (by rw [Ud,Ue];simp;omega) λi c a=>?_;have b:i<4:=vE a
 match i,b with
 | 0,_|1,_|2,_|3,_=>simp [WW,WV,T6,T2 (eb:k<l.length),T2 (eb:k+1<l.length),T2 (eb:k+2<l.length),T2 (eb:k+3<l.length)]
def Qt (a:∀ x∈l,x<256) {m:Nat} (e:1<=l.getD 0 0/\l.getD 0 0<=16) (k:dh ((l.drop 17).take 2)<=1500) (i:m<=1000) (q:19+4*m<=l.length):∃ o rest,UoF l o rest/\o.fit/\o.RM.length=m/\o.size=dh ((l.drop 17).take 2):=by
 obtain ⟨n,d⟩:=nM (l.getD 0 0);rw [d] at e;have f:((l.drop 1).take n).length=n:=abX
 have b:(YI ((((l.drop 1).take n).map YC).toArray)).size=n:=by
  show (((l.drop 1).take n).map YC).toArray.size=n;rw [Uy,TZ,f]
 refine ⟨⟨YI ((((l.drop 1).take n).map YC).toArray),dh ((l.drop 17).take 2),(YD m).map λj=>dh ((l.drop (19+4*j)).take 4)⟩,l.drop (19+4*m),⟨by rw [d];exact b.symm,?_,?_,λj c=>?_,ek,en⟩,⟨?_,k,λx g=>?_,vE i⟩,ek,rfl⟩
 . show (l.drop 1).take (YI ((((l.drop 1).take n).map YC).toArray)).size=_;rw [b,WU];show _=((((l.drop 1).take n).map YC).toArray).toList.map _;rw [Xg];symm;rw [(ek:(l.drop 1).take n=((l.drop 1).take n).map id)];simp only [Xg];refine VZ λx h=>?_;have:=a x (UV (US h));simp;omega
 . rw [Cy eb];exact (Qs (bh a _) (bh a _)).symm
 . have:j<m:=(vE c);simp only [Vf,List.getElem_range];rw [yC eb];exact (FV (bh a _) (bh a _) (bh a _) (bh a _)).1.symm
 . show 1<=(YI _).size/\(YI _).size<=16;rw [b];exact e
 . obtain ⟨j,c,rfl⟩:=T1.1 g;rw [yC (eT (Uq.1 c))];exact (FV (bh a _) (bh a _) (bh a _) (bh a _)).2
def mY:Array ZS:=#[.string ⟨#[]⟩,Z8 Z9 0,Z6 ZX 0 0]
def jN {rest:List Oper} {a:Act} (j:o.guard=ZX) (x y:Operand) (ho:o.op=.store 130 x y) {b:Nat} {cs cs':Array ZS}
 (k:a.eval x=Z7 (ZW ⟨b,0,ZX⟩)) (l:a.eval y=.agg cs') (g:w.heap[b]?=ZW (Z5 cs 130 (0,0))) (i:cs.size=3) (c:cs'.size=3) (e:cs'.all (·.oneCell')=ZV) (h:wpList ZN ops Q rest (a.put o.dst ZY) (w.setRow b cs')):wpList ZN ops Q (o::rest) a w:=by
 have d:(ZN.info? 130).map (·.size)=ZW 3:=ei
 have f:(Instr.storeAt 130 (Z7 (ZW ⟨b,0,ZX⟩)) (.agg cs')).run ZN w=.ok () (w.setRow b cs'):=by
  simp only [Instr.storeAt,Instr.sureAddr,Uo,UW,Uz,Xt w b 130 130 cs cs' g (by rw [c];exact d) (by rw [i,c]) e]
 refine VD j λK hK=>?_;unfold Oper.wp;simp [execOp,ho,k,l,f,Result.andThen];exact hK _ _ h
def fj {P:Program} {fn:Func} {p t u:Tmp} {ty:ZO} (h:fn.results=#[.cell p ty,.tmp t,.tmp u]) (tmps:Array ZS) (w:ZT) (g:Nat) (a:ZO) (cs:Array ZS) (fr:Nat×Nat) (d:TypeDesc) (x y:ZS)
 (k:tmps.getD p ZY=Z7 (ZW ⟨g,0,ZX⟩)) (m:tmps.getD t ZY=x) (n:tmps.getD u ZY=y) (i:w.heap[g]?=ZW (Z5 cs a fr)) (l:P.underlying ty=ZW d) (f:(match d with|.struct _|.array _ _=>ZV|_=>ZU)=ZV) (j:(P.info? ty).map (·.size)=ZW cs.size) :
 (results fn tmps).run P w=.ok (ZZ #[.agg cs,x,y]) w:=by
 have b:tmps[p]?.getD ZY=Z7 (ZW ⟨g,0,ZX⟩):=vE k
 have c:tmps[t]?.getD ZY=x:=vE m
 have e:tmps[u]?.getD ZY=y:=vE n
 simp [results,h,b,c,e,asAddr,WE w g a ty cs fr d i l f j]
def UoR (w:ZT) (nm:ByteArray) (sz:Nat) (st:a9) (i:ZS) (wr:ZT):Prop:=∃ (j:Nat) (sv:ZS),j<=st.length/\i=Z8 Z9 j/\wr.heap[w.heap.size]?=ZW (Z5 #[Z0 nm,Z8 Z9 (sz:Int),sv] 130 (0,0))/\wr.ownsRow w.heap.size 3 1 sv j (jJ (st.take j))/\bW w wr
structure Qu (w:ZT) (b off bl c:Nat) (l:a9) (o:Ob) (rest:a9) (e:ZP) (w':ZT):Prop where
 out:∃ sa sc bv,e=Z4 (ZZ #[.agg #[Z0 o.name,Z8 Z9 (o.size:Nat),.slice sa o.RM.length sc],bv,Z3 ZV])/\bp (λk=>w.heap.size<=k) w' (.slice sa o.RM.length sc) o.RM/\∀ w0,Bs w0 (Z6 (ZW ⟨b,off,ZX⟩) bl c) l->Bs w0 bv rest
 below:bW w w'
theorem uQ {a:Act} {K:Act->ZT->Prop} (d:o.guard=ZX) (x:Operand) (f:FuncId) (t:ZO) (c:o.op=Op.call { callee:=.value (.func f),args:=#[x],argTypes:=#[t] }) (u:ZS) (hx:a.eval x=u) (hf:(callFunc f #[u]).run ZN w=.ok (.enter f #[u]) w) {v:ZS} (hc:ZR ZN f #[u] w λe w'=>e=Z4 v/\w'=w) (hK:K (a.put o.dst v) w):if Region.wanted o (yielded ops a.tmps)=ZV then Oper.wp ZN o a w K Q else E:=by
 have g:(execOp a.eval o).run ZN w=.ok (.enter f #[u]) w:=by
  have b:a.eval (.func f)=.func (.func f) #[] #[]:=rfl;generalize a.eval=h at hx b ⊢;simp [execOp,c,resolve,invoke,hx,b,hf,go_sem]
 rw [if_pos (by simp [Region.wanted,d])];unfold Oper.wp;rw [g];exact hc.mono (by rintro e w' ⟨rfl,rfl⟩;exact hK)
theorem rS {o:Ob} {rest:a9} (X:Nat) (n:Bs w (Z6 (ZW ⟨b,off,ZX⟩) bl c) l) (a:bl=l.length) (Q:UoF l o rest) (ho:o.fit) (xa:1<=X/\X<=1000000) (A:o.RM.length=max 1 ((o.size+X-1)/X)) (hr:rest.length<=100000000) :
 ZR ZN 161 #[Z6 (ZW ⟨b,off,ZX⟩) bl c,Z8 Z9 X] w λe w'=>Qu w b off bl c l o rest e w':=by
 have J:bl=19+4*o.RM.length+rest.length:=by rw [a];exact Q.len
 have U:=ho.len;have x3:=ho.name;have km:=ho.size;obtain ⟨ao,c0,e0,kk,_,hx,hh⟩:=id n;injection e0 with N e2 e3;subst e3;rw [<- a] at kk hh;obtain ⟨b',o',t,qi⟩:=hh (λq=>by rw [q] at a;simp at a;omega);rw [<- N] at t;injection t with t;injection t with e5 e6;subst e5 e6;clear N e2;have d0:=qi 0 eb;rw [Vs,Q.n0] at d0;have V:(w.alloc (Z5 mY 130)).heap[w.heap.size]?=ZW (Z5 mY 130 (0,0)):=T9 _ _;have M:bW w (w.alloc (Z5 mY 130)):=bA w _;have W:(w.alloc (Z5 mY 130)).heap.size=w.heap.size+1:=ek
 obtain ⟨w1,qd⟩:=nM (w.alloc (Z5 mY 130));rw [qd] at V M W;have xd:w.alloc (Z5 #[.string ⟨#[]⟩,Z8 Z9 0,Z6 ZX 0 0] 130)=w1:=qd;have x0:b<w.heap.size:=T8 d0;have c1:w1.cell? ⟨b,off,ZX⟩=ZW (Z8 .u8 (o.name.size:Nat)):=(Uh (M.block b x0)).trans d0;have T:=n.mono M;obtain ⟨m,y⟩:=nM (o.RM.length);obtain ⟨sz,r⟩:=nM (o.size);obtain ⟨F,p⟩:=nM (o.name.size);have q9:=pN (Z6 (ZW ⟨b,off+17,ZX⟩) 2 (c-17)) (be o.size 2) w1 (by rw [<- Q.sz];exact T.sub 17 2 _ eb eb);rw [Jq o.size 2 eb eb,r] at q9;have kv:=gk sz X eb xa w1;rw [<- r,<- A,y] at kv;rw [r] at kv;rw [y] at J U;rw [p] at c1 x3;have qa:=dY m eb w1;obtain ⟨lo,z⟩:=nM (19+4*m);rw [z] at J qa;have xe:¬ ((bl:Nat):Int)<19:=eb
 have qv:¬ c=17:=eb
 have xk:¬ ((F:Nat):Int)<1:=eb
 have xm:¬ ((F:Nat):Int)>16:=eb
 have xo:¬ ((sz:Nat):Int)>1500:=eb
 have hll:¬ ((bl:Nat):Int)<(lo:Int):=eb
 have xp:IntKind.i64.wrap (F:Int)=F:=iE
 have H:=hide13 q9 kv qa T V M W y r p n a A;have HL:=a7 J z U km kk;have qy:19<=bl:=eb
 have qz:19<=c:=eb
 clear J z U km kk;clear q9 kv qa T V M W y r p n a A hh qi qd d0 hx;go_enter func161,ntmps161;go_wp2_with fail;refine H.out.1.mono ?_;rintro e w2 ⟨rfl,E⟩;obtain rfl:w1=w2:=E.symm;clear E;have xc:IntKind.i64.wrap (sz:Int)=sz:=by have:=HL.out.2.2.2.1;have:=H.out.2.2.2.2.2.2.2.2.1;rw [Us];omega
 go_wp2_with fail;refine H.out.2.1.mono ?_;rintro e w2 ⟨rfl,E⟩;obtain rfl:w1=w2:=E.symm;clear E;go_wp2_with fail;refine H.out.2.2.1.mono ?_;rintro e w2 ⟨rfl,E⟩;obtain rfl:w1=w2:=E.symm;clear E;obtain ⟨_,_,_,T,V,M,W,y,r,p,n,a,A⟩:=H.out;have qj:(convert 31 9 (Z6 (ZW ⟨b,off+1,ZX⟩) F (c-1))).run ZN w1=.ok (Z0 o.name) w1:=by
  have qn:o.name.toList.length=F:=by rw [WU,Wm,<- p];rfl
  have ko:=T.sub 1 F (c-1) (by rw [<- a];omega) eb;rw [<- p,Q.nm] at ko;obtain ⟨ao,cc,N,_,_,_,h4⟩:=ko;injection N with N e2 e3;have kr:o.name.toList.map (λ(b:UInt8)=>b.toNat)≠[]:=λe=>by
   have:=congrArg YN e;rw [TZ,qn] at this;simp at this;omega
  obtain ⟨b',o',t,x1⟩:=h4 kr;rw [<- N] at t;injection t with t;injection t with e5 e6;subst e5 e6;have:=run_convert_bytes_back (P:=ZN) w1 31 9 5 ⟨b,off+1,ZX⟩ (c-1) o.name.toList Ui WO Ym (λj hj=>by
   have O:=x1 j (by rw [TZ];exact hj);have h8:(o.name.toList.map (λ(b:UInt8)=>b.toNat)).getD j 0=(o.name.toList[j]).toNat:=by
    rw [T6,Ul,T2 hj];rfl
   rw [h8] at O;unfold Addr.add;split
   . rename_i h0;subst h0;exact O
   . exact O)
  rw [qn] at this;rw [this];congr 2;rw [WU]
 clear T n a A y r p M;have x7:¬ c=1:=eb
 have HQ:=au V W;clear V W;obtain ⟨nm,q8⟩:=nM (o.name);rw [q8] at qj;have xn:1+F<=c:=eb
 go_wp2_with (show wpList _ _ _ ({ dst:=ZX,op:=Op.store 130 (Z1 4) (Z1 50),type:=_,pos:=_,after:=_,guard:=_ }::_) _ _;refine jN (b:=w.heap.size) (cs:=mY) (cs':=#[Z0 nm,Z8 Z9 (sz:Int),Z6 ZX 0 0]) rfl (Z1 4) (Z1 50) rfl l3 l3 (by exact HQ.out.1) rfl rfl Zm ?_);have qo:(w1.setRow w.heap.size #[Z0 nm,Z8 Z9 (sz:Int),Z6 ZX 0 0]).heap[w.heap.size]?=ZW (Z5 #[Z0 nm,Z8 Z9 (sz:Int),Z6 ZX 0 0] 130 (0,0)):=U3 _ _ _ _ _ _ HQ.out.1;have qh:bW w (w1.setRow w.heap.size #[Z0 nm,Z8 Z9 (sz:Int),Z6 ZX 0 0]):=H.out.2.2.2.2.2.1.grown (aF _ _ _) H.out.2.2.2.2.2.1.size (λk e=>eT (UA e));have H8:=au qo qh;have qs:=al q8;clear qo qh qj q8;go_loopw [52] (λi wr=>UoR w nm sz o.RM i wr) (λi _=>m-(intOf i).toNat)
 case atStart=>exact ⟨0,_,T3 _,rfl,H8.out.1,UB _ _ _ _,H8.out.2⟩
 case round=>
  clear H8;obtain ⟨j,G,hj,rfl,f,S,x⟩:=hrel;obtain ⟨_,_,_,_,_,_,_,y,r,p,n,a,A⟩:=H.out;obtain ⟨J,z,U,km,kk⟩:=HL.out;have kx:=n.mono (w':=wr) x;have qe:=x.size;have ke:w.heap.size<wr.heap.size:=(TW.1 f).1;by_cases xg:j<m
  . have q6:j<o.RM.length:=eb;obtain ⟨ii,x5,q3,q4,q5⟩:=Ur Tryz.SF;have x9:=ho.st _ (T4 q6);have D:=kx.sub (19+4*j) 4 (c-(19+4*j)) (by rw [<- a];omega) eb;rw [Q.st j q6] at D;obtain ⟨s,hs⟩:=nM (o.RM[j]);rw [hs] at x9 D;have qq:jJ (o.RM.take (j+1))=jJ (o.RM.take j)++[Z8 Z9 (s:Int)]:=by
     rw [Vd,T2 q6,hs];unfold jJ;rw [Uu];rfl
    obtain ⟨qr,d,Z,B,kc,_,_⟩:=run_append_own_at (P:=ZN) (wr.drew.alloc (Z5 #[Z8 Z9 (s:Int)] 3)) w.heap.size 111 0 3 ii (Z8 Z9 0) 1 8 XM x5 q3 q4 q5 rfl ec G j (jJ (o.RM.take j)) ((show wr.drew.ownsRow w.heap.size 3 1 G j (jJ (o.RM.take j)) from S).alloc _) ⟨wr.heap.size,0,ZX⟩ 1 1 [Z8 Z9 (s:Int)] rfl (lD wr.drew _ _) (by intro u hu;simp at hu;subst hu;rfl) eD eb en;have qb:(wr.drew.alloc (Z5 #[Z8 Z9 (s:Int)] 3)).heap[w.heap.size]?=ZW (Z5 #[Z0 nm,Z8 Z9 (sz:Int),G] 130 (0,0)):=(Ut _ _ _ ke).trans f;have hn:(wr.drew.alloc (Z5 #[Z8 Z9 (s:Int)] 3)).ownsRow w.heap.size 3 1 G j (jJ (o.RM.take j)):=(show wr.drew.ownsRow w.heap.size 3 1 G j (jJ (o.RM.take j)) from S).alloc _;have C:=(kc.block w.heap.size en (λe=>bF hn qb ec e.symm)).trans qb;have k6:=bM B;have q1:bW w (wr.drew.alloc (Z5 #[Z8 Z9 (s:Int)] 3)):=x.drew.alloc qe _;have g:bW w d:=q1.grown kc q1.size (λk e=>dX hn e);rw [<- qq] at B;have qf:=hide7 f D Z B C k6 g;have qk:j<=100000:=eb;have x4:19+4*j+4<=bl:=eb;clear f S x y r p n a A J z U km kx D Z B kc qb hn C k6 q1 g qq hs qe ke;obtain ⟨f,D,Z,B,C,⟨va,vc,k6⟩,g⟩:=qf.out;subst k6;obtain ⟨w3,kp⟩:=nM (d.setCell ⟨w.heap.size,2,ZX⟩ (.slice va (j+1) vc));have ks:w3.heap[w.heap.size]?=ZW (Z5 #[Z0 nm,Z8 Z9 (sz:Int),(.slice va (j+1) vc)] 130 (0,0)):=(by rw [<- kp];exact Yi d w.heap.size 2 _ _ _ C);have L:aa (λk=>k=w.heap.size) d w3:=(by rw [<- kp];exact aa.setCell _ _ _ rfl);have k8:w3.ownsRow w.heap.size 3 1 (.slice va (j+1) vc) (j+1) (jJ (o.RM.take (j+1))):=bZ B L (λk Y e=>bF B C ec (by rw [Y,e]));have kj:bW w w3:=⟨L.os.trans g.os,L.tape.trans g.tape,L.output.trans g.output,TU g.size L.size,λk Y=>(L.block k (eT g.size) eb).trans (g.block k Y)⟩;have H3:=aE ks k8 kj;have cq:wr.cell? ⟨w.heap.size,2,ZX⟩=ZW G:=Ze;have hd:d.cell? ⟨w.heap.size,2,ZX⟩=ZW G:=(by simp [World.cell?,C]);have f12:d.frozen? ⟨w.heap.size,2,ZX⟩=ZU:=(by simp [World.frozen?,C]);have cA:(wr.alloc (Z5 #[Z8 Z9 (s:Int)] 3)).cell? ⟨w.heap.size,2,ZX⟩=ZW G:=(World.cell?_alloc_some wr _ _ (by rw [cq];rfl)).trans cq;have kz:=dY j eb wr.drew;have q0:=dY (j+1) eb wr.drew;obtain ⟨lo,z⟩:=nM (19+4*j);obtain ⟨hi,q2⟩:=nM (lo+4);rw [z] at kz D x4;rw [(eb:19+4*(j+1)=hi)] at q0;have ky:=pN _ (be s 4) wr.drew (show Bs wr.drew _ _ from D);rw [show dh (be s 4)=s from Jq s 4 eb eb] at ky;have xi:hi-lo=4:=eb;have xj:lo<=hi:=eb;have xf:hi<=c:=eb;have x2:¬ c=lo:=eb;have xh:IntKind.i64.wrap ((j:Int)+1)=((j+1:Nat):Int):=iE;have xc:IntKind.i64.wrap (s:Int)=(s:Int):=iE;have HP:=a5 kz q0 ky Z;clear f D Z B C g ks L k8 kj qf kz q0 ky z q2;go_wp2_with fail;go_region_law (first
     | (refine ji rfl _ _ 111 111 rfl _ _ Zs Zs HP.out.2.2.2 ?_)
     | (refine uQ rfl (Z1 58) 105 3 rfl _ vm abM HP.out.1 ?_)
     | (refine uQ rfl (Z1 61) 105 3 rfl _ vm abM HP.out.2.1 ?_)
     | (refine uQ rfl (Z1 63) 160 31 rfl _ vm abM HP.out.2.2.1 ?_))
    all_goals (
     go_wp2;go_roundw
     case rel=>exact ⟨j+1,_,eT H.out.2.2.2.2.2.2.2.1,e8,H3.out.1,H3.out.2.1,H3.out.2.2⟩
     case measure=>simp [intOf];omega)
  . have q7:j=m:=eb;subst q7;obtain ⟨sa,sc,xb⟩:=bM S;subst xb;have kr:o.RM≠[]:=λe=>by
     have I:=congrArg YN e;have h2:1<=o.RM.length:=(by rw [A];exact YV _ _);rw [I] at h2;simp at h2
    have R:=BS (K:=λk=>w.heap.size<=k) (show wr.ownsRow w.heap.size 3 1 (.slice sa j sc) j (jJ o.RM) by have I:=S;rw [UU eb] at I;exact I) kr eb (λk Y=>Y);have R:=R.choose_spec.choose_spec.2;obtain ⟨ra,qp⟩:∃ ra:Option ZQ,(c=lo/\ra=ZW ⟨b,off,ZX⟩)\/(c≠lo/\ra=ZW ⟨b,off+lo,ZX⟩):=by
     by_cases O:c=lo
     . exact ⟨_,.inl ⟨O,rfl⟩⟩
     . exact ⟨_,.inr ⟨O,rfl⟩⟩
    have he:∀ w0,Bs w0 (Z6 (ZW ⟨b,off,ZX⟩) bl c) l->Bs w0 (.slice ra (bl-lo) (c-lo)) rest:=by
     intro w0 qx;have I:=qx.sub lo (bl-lo) (c-lo) (by rw [<- a];omega) eb;have h2:(l.drop lo).take (bl-lo)=rest:=by
      rw [(eb:lo=19+4*o.RM.length),Q.rs,UU eb]
     rw [h2] at I;rcases qp with ⟨h3,rfl⟩|⟨h3,rfl⟩
     . have x8:rest=[]:=Wk.1 eb;subst x8;refine ⟨ZW ⟨b,off,ZX⟩,c-lo,?_,ek,ec,λ_ h=>Bf,λh=>absurd rfl h⟩;simp only [UQ];congr 1;omega
     . exact I
    have Hr:=a5 f R he x;have qk:j<=100000:=eb;have x6:lo<=bl:=eb;clear f S x y r p n a A J U km kx R he qe ke kr;go_wp2_with fail;refine rR Hr.out.1 z x6 kk qk qp ei rfl rfl rfl rfl ?_;intro w3 kp;rename_i qg
    refine qg _ _ ?_;clear qg;simp only [Act.RL,Act.put,UL,UJ,UM];go_wp2;obtain ⟨f,R,he,x⟩:=Hr.out;have ks:w3.heap[w.heap.size]?=ZW (Z5 #[Z0 nm,Z8 Z9 (sz:Int),.slice sa j sc] 130 (0,0)):=(by rw [kp];exact f);refine Uf (v:=ZZ #[.agg #[Z0 nm,Z8 Z9 (sz:Int),.slice sa j sc],.slice ra (bl-lo) (c-lo),Z3 ZV]) (fj results161 _ w3 w.heap.size 130 _ (0,0) _ _ _ rfl rfl rfl ks WY rfl ei) rfl ?_;have qm:=H.out.2.2.2.2.2.2.2.1;have qc:=H.out.2.2.2.2.2.2.2.2.1;have kj:bW wr w3:=(by rw [kp];exact (TX _ wr).drew);refine ⟨⟨sa,sc,_,by rw [qs.out,qc,qm],?_,he⟩,x.trans (kj.mono x.size)⟩;rw [qm];exact R.keep (dN.RN kj)
def aai:ZP:=Z4 (ZZ #[.agg #[.string ⟨#[]⟩,Z8 Z9 0,Z6 ZX 0 0],Z6 ZX 0 0,Z3 ZU])
def LW (b:w1.heap[w.heap.size]?=ZW (Z5 mY 130 (0,0))) (a:bW w w1):(w1.setRow w.heap.size mY).heap[w.heap.size]?=ZW (Z5 mY 130 (0,0))/\bW w (w1.setRow w.heap.size mY):=
 ⟨U3 _ _ _ _ _ _ b,a.grown (aF _ _ _) a.size (λk e=>eT (UA e))⟩
theorem rT (d:Nat) (p:Bs w (Z6 (ZW ⟨b,off,ZX⟩) bl c) l) (h:bl=l.length) (M:0<bl) (X:bl<=1000000000) (O:1<=d/\d<=1000000) (i:bl<19\/l.getD 0 0<1\/16<l.getD 0 0\/1500<dh ((l.drop 17).take 2)\/bl<19+4*max 1 ((dh ((l.drop 17).take 2)+d-1)/d)) :
 ZR ZN 161 #[Z6 (ZW ⟨b,off,ZX⟩) bl c,Z8 Z9 d] w λe w'=>e=aai/\bW w w':=by
 obtain ⟨ao,Q,B,J,Y,k,o⟩:=id p;injection B with e1 e2 e3;subst e3;rw [<- h] at J o;obtain ⟨b',o',n,x⟩:=o (λq=>by rw [q] at h;simp at h;omega);rw [<- e1] at n;injection n with n;injection n with e5 e6;subst e5 e6;clear e1 e2;have g:=x 0 M;rw [Vs] at g;have j:(w.alloc (Z5 mY 130)).heap[w.heap.size]?=ZW (Z5 mY 130 (0,0)):=T9 _ _;have f:bW w (w.alloc (Z5 mY 130)):=bA w _;obtain ⟨w1,r⟩:=nM (w.alloc (Z5 mY 130));rw [r] at j f;have U:w.alloc (Z5 #[.string ⟨#[]⟩,Z8 Z9 0,Z6 ZX 0 0] 130)=w1:=r;have K:b<w.heap.size:=T8 g;have c1:w1.cell? ⟨b,off,ZX⟩=ZW (Z8 .u8 (l.getD 0 0:Nat)):=(Uh (f.block b K)).trans g;have u:=p.mono f;have E:=bh k 0;obtain ⟨s,N⟩:=nM (l.getD 0 0);rw [N] at i c1 E;have t:=LW j f;have a:=au j t;by_cases W:bl<19
 . have F:((bl:Nat):Int)<19:=eb;clear p u h i o x g r k j f t c1;go_enter func161,ntmps161;go_wp2_with (show wpList _ _ _ ({ dst:=ZX,op:=Op.store 130 (Z1 4) (Z1 14),type:=_,pos:=_,after:=_,guard:=_ }::_) _ _;refine jN (b:=w.heap.size) (cs:=mY) (cs':=mY) rfl (Z1 4) (Z1 14) rfl l3 l3 abO rfl rfl Zg ?_);refine Uf (v:=ZZ #[.agg mY,Z6 ZX 0 0,Z3 ZU]) (fj results161 _ _ w.heap.size 130 _ (0,0) _ _ _ rfl rfl rfl a.out.2.1 WY rfl ei) rfl ?_;exact ⟨rfl,a.out.2.2⟩
 . have y:=pN (Z6 (ZW ⟨b,off+17,ZX⟩) 2 (c-17)) ((l.drop 17).take 2) w1 (u.sub 17 2 _ eb eb);have G:dh ((l.drop 17).take 2)<65536:=by
    have C:=bh k 17;have D:=bh k (17+1);rw [Cy eb,FU C D];omega
   obtain ⟨sz,P⟩:=nM (dh ((l.drop 17).take 2));rw [P] at i y G;have A:=gk sz d eb O w1;obtain ⟨m,I⟩:=nM (max 1 ((sz+d-1)/d));rw [I] at i A;have Z:m<=70000:=by
    have:(sz+d-1)/d<=sz+d-1:=VK _ _;have R:(sz+d-1)/d<=sz:=by
     rw [YW eb];have:sz<=d*sz:=Nat.le_mul_of_pos_left _ eb;omega
    omega
   have z:=dY m eb w1;obtain ⟨lo,L⟩:=nM (19+4*m);rw [L] at i z;have F:¬ ((bl:Nat):Int)<19:=eb;have V:¬ c-17=0:=eb;have S:¬ c=17:=eb;have kc:IntKind.i64.wrap (s:Int)=s:=iE;have kb:IntKind.i64.wrap (sz:Int)=sz:=iE;have T:19<=c:=eb;have H:=aE y A z;clear y A z p u h o x g r k j f t;by_cases k1:(s:Int)<1
   . go_enter func161,ntmps161;go_wp2_with fail;refine H.out.1.mono ?_;rintro e w2 ⟨rfl,rfl⟩;go_wp2_with fail;refine H.out.2.1.mono ?_;rintro e w3 ⟨rfl,rfl⟩;go_wp2_with (show wpList _ _ _ ({ dst:=ZX,op:=Op.store 130 (Z1 4) (Z1 43),type:=_,pos:=_,after:=_,guard:=_ }::_) _ _;refine jN (b:=w.heap.size) (cs:=mY) (cs':=mY) rfl (Z1 4) (Z1 43) rfl l3 l3 abO rfl rfl Zg ?_);refine Uf (v:=ZZ #[.agg mY,Z6 ZX 0 0,Z3 ZU]) (fj results161 _ _ w.heap.size 130 _ (0,0) _ _ _ rfl rfl rfl a.out.2.1 WY rfl ei) rfl ?_;exact ⟨rfl,a.out.2.2⟩
   by_cases k2:(s:Int)>16
   . go_enter func161,ntmps161;go_wp2_with fail;refine H.out.1.mono ?_;rintro e w2 ⟨rfl,rfl⟩;go_wp2_with fail;refine H.out.2.1.mono ?_;rintro e w3 ⟨rfl,rfl⟩;go_wp2_with (show wpList _ _ _ ({ dst:=ZX,op:=Op.store 130 (Z1 4) (Z1 43),type:=_,pos:=_,after:=_,guard:=_ }::_) _ _;refine jN (b:=w.heap.size) (cs:=mY) (cs':=mY) rfl (Z1 4) (Z1 43) rfl l3 l3 abO rfl rfl Zg ?_);refine Uf (v:=ZZ #[.agg mY,Z6 ZX 0 0,Z3 ZU]) (fj results161 _ _ w.heap.size 130 _ (0,0) _ _ _ rfl rfl rfl a.out.2.1 WY rfl ei) rfl ?_;exact ⟨rfl,a.out.2.2⟩
   by_cases k3:(sz:Int)>1500
   . go_enter func161,ntmps161;go_wp2_with fail;refine H.out.1.mono ?_;rintro e w2 ⟨rfl,rfl⟩;go_wp2_with fail;refine H.out.2.1.mono ?_;rintro e w3 ⟨rfl,rfl⟩;go_wp2_with (show wpList _ _ _ ({ dst:=ZX,op:=Op.store 130 (Z1 4) (Z1 43),type:=_,pos:=_,after:=_,guard:=_ }::_) _ _;refine jN (b:=w.heap.size) (cs:=mY) (cs':=mY) rfl (Z1 4) (Z1 43) rfl l3 l3 abO rfl rfl Zg ?_);refine Uf (v:=ZZ #[.agg mY,Z6 ZX 0 0,Z3 ZU]) (fj results161 _ _ w.heap.size 130 _ (0,0) _ _ _ rfl rfl rfl a.out.2.1 WY rfl ei) rfl ?_;exact ⟨rfl,a.out.2.2⟩
   have k4:(bl:Int)<(lo:Int):=eb;go_enter func161,ntmps161;go_wp2_with fail;refine H.out.1.mono ?_;rintro e w2 ⟨rfl,rfl⟩;go_wp2_with fail;refine H.out.2.1.mono ?_;rintro e w3 ⟨rfl,rfl⟩;go_wp2_with fail;refine H.out.2.2.mono ?_;rintro e w4 ⟨rfl,rfl⟩;go_wp2_with (show wpList _ _ _ ({ dst:=ZX,op:=Op.store 130 (Z1 4) (Z1 43),type:=_,pos:=_,after:=_,guard:=_ }::_) _ _;refine jN (b:=w.heap.size) (cs:=mY) (cs':=mY) rfl (Z1 4) (Z1 43) rfl l3 l3 abO rfl rfl Zg ?_);refine Uf (v:=ZZ #[.agg mY,Z6 ZX 0 0,Z3 ZU]) (fj results161 _ _ w.heap.size 130 _ (0,0) _ _ _ rfl rfl rfl a.out.2.1 WY rfl ei) rfl ?_;exact ⟨rfl,a.out.2.2⟩
def Cz (l:a9):ByteArray:=⟨(l.map YC).toArray⟩
theorem uR (h:Bs w v l):(convert 31 9 v).run ZN w=.ok (Z0 (Cz l)) w:=by
 obtain ⟨ao,c,rfl,_,_,m,g⟩:=h;by_cases e:l=[]
 . subst e;exact zX ao c w
 . obtain ⟨b,off,rfl,k⟩:=g e;have:=run_convert_bytes_back (P:=ZN) w 31 9 5 ⟨b,off,ZX⟩ c (l.map YC) Ui WO Ym (λj a=>by
    rw [TZ] at a;have d:=k j a;have i:((l.map YC)[j]'(by rw [TZ];exact a)).toNat=l.getD j 0:=by
     rw [Vf,T6,T2 a];have:=m _ (T4 a);simp;omega
    rw [i];unfold Addr.add;split
    . rename_i f;subst f;exact d
    . exact d)
   rw [TZ] at this;exact this
def Qv {a b:ByteArray} (h:a.toList=b.toList):a=b:=by
 rw [WU,WU] at h;exact ByteArray.ext (Array.toList_inj.1 h)
theorem LX (h:∀ x∈l,x<256) (c:∀ x∈l',x<256) (e:Cz l=Cz l'):l=l':=by
 unfold Cz at e;have a:l.map YC=l'.map YC:=by
  have:=congrArg ByteArray.data e;simpa using this
 have key:∀ m:a9,(∀ x∈m,x<256)->(m.map YC).map (λ(b:UInt8)=>b.toNat)=m:=λm d=>by
  rw [Xg];conv=>rhs;rw [<- List.map_id m]
  refine VZ λx f=>?_;have:=d x f;simp;omega
 rw [<- key l h,a,key l' c]
theorem Iu {v':ZS} (h:Bs w v l) (a:Bs w v' l'):ZR ZN 162 #[v,v'] w λe w'=>(∃ b:Bool,e=Z4 (Z3 b)/\(b=ZV->l=l'))/\w'=w:=by
 have n:=uR h;have o:=uR a;have k:Cz l=Cz l'->l=l':=by
  obtain ⟨_,_,_,_,_,q,_⟩:=id h;obtain ⟨_,_,_,_,_,p,_⟩:=id a;exact LX q p
 obtain ⟨ao,c,rfl,_⟩:=h;obtain ⟨t,d,rfl,_⟩:=a;obtain ⟨S,j⟩:=nM (Cz l);obtain ⟨s,g⟩:∃ S,Cz l'=S:=⟨_,rfl⟩;obtain ⟨N,i⟩:=nM (l.length);obtain ⟨r,f⟩:∃ N,l'.length=N:=⟨_,rfl⟩;rw [j,i] at n;rw [g,f] at o;rw [i,f];rw [j,g] at k;have m:=al k;clear j i g f k;go_enter func162,ntmps162;go_wp2;go_ret;exact ⟨⟨_,rfl,λe=>m.out (Qv (vE e))⟩,rfl⟩
section
def uS (os:List Ob):∀ x∈aG os,x<256:=by
 intro x a;unfold aG at a;obtain ⟨o,_,a⟩:=XP.1 a;unfold gT at a;simp only [Ub] at a;rcases a with ((h|h)|h)|h
 . exact sQ _ _ x h
 . unfold gZ at h;rcases Ub.1 h with h|h
   . obtain ⟨b,_,rfl⟩:=T1.1 h;exact b.toNat_lt
   . rw [Vn h];decide
 . exact sQ _ _ x h
 . obtain ⟨s,_,h⟩:=XP.1 h;exact sQ _ _ x h
def nW (A:aA) (D L G:Nat) (P l:a9):∀ k,(A.RT D L G P l k).reads=A.reads
 | 0=>rfl
 | k+1=>nW A D L G P l k
def CA (A:aA) (D L G:Nat) (S d:a9):∀ k,(A.R5 D L G S d k).reads=A.reads
 | 0=>rfl
 | k+1=>CA A D L G S d k
def LY (w:ZT) (ar v p:Nat) (ps:aN) (D L G t:Nat) (xs:bP) (A:aA) (F:aR) (x:ByteArray) (d:a9) (e:ZP) (w':ZT):Prop:=
 e=Z4 .nilIface/\∃ pg ob P' B o,o.name=x/\aO w' ar v p ps D L G (nx t) pg ob P' (xs.ins (o,d)) B F/\B.n=A.n/\(B.nb=A.nb/\B.lost=A.lost/\B.reads=A.reads)/\aa (λk=>k=ar\/F.has p A.n k) w w'
structure cH (w w1:ZT) (ar v p:Nat) (ps:aN) (D L G t:Nat) (pg ob:ZS) (P:a9) (xs:bP) (A:aA) (F:aR) (x:ByteArray) (d fr:a9) (g cnt pgn c1:Nat):Prop where
 live:aO w ar v p ps D L G t pg ob P xs A F
 out:aa (F.has p A.n) w w1
 arr:aj w1 p (A.R5 D L G (fr.take cnt) d cnt) F
 nm:de x=ZV
 no:x∉xs.names
 dl:d.length<=1500
 dx:∀ b∈d,b<256
 c:cnt=nV D d.length
 pn:pgn=uN D (aG xs.os).length d.length
 f:fr=(aX (tk A.nb (P++an xs.os)).1 A.nb).take (cnt+pgn)
 fl:fr.length=cnt+pgn
 room:(an xs.os).length+cnt+2*pgn+2<=A.nb
 s:bp (λk=>ar<k/\¬ F.has p A.n k/\¬ ps.bl k) w1 (Z6 (ZW ⟨g,0,ZX⟩) cnt cnt) (fr.take cnt)
 q:bp (λk=>ar<k/\¬ F.has p A.n k/\¬ ps.bl k) w1 (Z6 (ZW ⟨g,cnt,ZX⟩) pgn c1) (fr.drop cnt)
section
variable {w w1:ZT} {ar v p D L G t:Nat} {ps:aN} {pg ob:ZS} {P:a9} {xs:bP} {A:aA} {F:aR} {x:ByteArray} {d fr:a9} {g cnt pgn c1:Nat}
def iT (x:ByteArray) (d fr:a9) (cnt:Nat):Ob:=⟨x,d.length,fr.take cnt⟩
def cH.stl (h:cH w w1 ar v p ps D L G t pg ob P xs A F x d fr g cnt pgn c1):(fr.take cnt).length=cnt:=by rw [Ud,h.fl];omega
def cH.pgl (h:cH w w1 ar v p ps D L G t pg ob P xs A F x d fr g cnt pgn c1):(fr.drop cnt).length=pgn:=by rw [Ue,h.fl];omega
def cH.apart (h:cH w w1 ar v p ps D L G t pg ob P xs A F x d fr g cnt pgn c1):(fr++(P++an xs.os)).Nodup/\∀ b∈fr++(P++an xs.os),2<=b/\b<A.nb:=by
 rw [h.f];exact nS h.live.RV.nod h.live.RV.inb _
def cH.TM (h:cH w w1 ar v p ps D L G t pg ob P xs A F x d fr g cnt pgn c1):uB D (iT x d fr cnt,d):=by
 have e:1<=x.size/\x.size<=16:=by have:=h.nm;unfold de at this;exact of_decide_eq_true this
 refine ⟨⟨e,h.dl,λb a=>?_,?_⟩,?_,rfl,h.dx⟩
 . have:=(h.apart.2 b (UN _ (US a))).2;have:=h.live.nb;omega
 . show (fr.take cnt).length<=1000;rw [h.stl,h.c];have:=sB h.live.par.d1 h.dl;omega
 . show (fr.take cnt).length=_;rw [h.stl,h.c];rfl
theorem cH.packed (h:cH w w1 ar v p ps D L G t pg ob P xs A F x d fr g cnt pgn c1):(aG (xs.ins (iT x d fr cnt,d)).os).length=(aG xs.os).length+(19+4*cnt):=by
 rw [Ii];have e:(gT (iT x d fr cnt)).length=19+4*(fr.take cnt).length:=fY h.TM.fit;rw [h.stl] at e;exact congrArg _ e
def cH.kept (h:cH w w1 ar v p ps D L G t pg ob P xs A F x d fr g cnt pgn c1):dN (λk=>ar<k/\¬ F.has p A.n k/\¬ ps.bl k) w w1:=⟨h.out.size,λk a hK=>h.out.block k a hK.2.1⟩
def LZ (h:cH w w1 ar v p ps D L G t pg ob P xs A F x d fr g cnt pgn c1) :
 ZR ZN 109 #[ob,Z8 Z9 (aI xs.names x:Nat),.agg #[Z0 x,Z8 Z9 (d.length:Nat),Z6 (ZW ⟨g,0,ZX⟩) cnt cnt]] w1 (uK (λk=>ar<k/\¬ F.has p A.n k/\¬ ps.bl k) w1 (xs.ins (iT x d fr cnt,d)).os):=by
 have b:xs.os.length=xs.names.length:=by rw [<- ea,bG]
 have a:=Cp (h.live.cat.keep h.kept) (eT h.live.SA.1) (λk c=>⟨by have:=h.live.R3.lt;have:=h.out.size;omega,λe=>by have:=h.live.vol.arr.RQ e;have:=h.out.size;omega,λe=>by have:=ps.lt _ h.live.kit _ e;have:=h.out.size;omega⟩) (i:=aI xs.names x) (by rw [b];exact xS _ _) (iT x d fr cnt) _ h.s;rw [Lv];exact a
theorem EN (h:cH w w1 ar v p ps D L G t pg ob P xs A F x d fr g cnt pgn c1) {w2:ZT} {u:ZS} (H:fa (λk=>ar<k/\¬ F.has p A.n k/\¬ ps.bl k) w2 u (xs.ins (iT x d fr cnt,d)).os) (I:bW w1 w2) :
 ZR ZN 88 #[Z7 (ZW ⟨ar,0,ZX⟩),u,Z6 (ZW ⟨g,cnt,ZX⟩) pgn c1] w2 (LY w ar v p ps D L G t xs A F x d):=by
 obtain ⟨oo,oc,rfl,hol,_⟩:=id H;have i:=h.live.par;have z:=h.pgl;have a:=FN A D L G (fr.take cnt) d cnt;have J:aa (F.has p A.n) w w2:=h.out.trans (aa.RO I _);have l:=h.live.RV;have ka:1<=pgn:=by rw [h.pn];unfold uN pgs;omega
 have k5:fr.drop cnt≠[]:=λe=>by rw [e] at z;simp at z;omega
 have N:∀ b∈fr.drop cnt,b<A.nb:=λb k8=>(h.apart.2 b (UN _ (UV k8))).2;have T:=h.packed;have hj:(aG (xs.ins (iT x d fr cnt,d)).os).length<=1000000:=by
  have h2:=sB h.live.par.d1 h.dl;have h3:=mn (xs:=xs) h.live.par.d1 l.fits;have W:=h.live.SA.1;have X:xs.os.length=xs.length:=YZ
  have h6:1500/(D*44)<=34:=by
   have:=h.live.par.d1;have:1500/(D*44)<=1500/44:=XU eb ec;omega
  have h7:xs.length*(19+4*(1500/(D*44)+1))<=1000*(19+4*(34+1)):=WT eb eb;rw [T,h.c];omega
 have U:(fr.drop cnt).length=pgs D (aG (xs.ins (iT x d fr cnt,d)).os).length:=by rw [z,h.pn,T,h.c];rfl
 have hg:∀ y∈xs.ins (iT x d fr cnt,d),uB D y:=λy K=>by
  rcases Un.1 ((ml xs (iT x d fr cnt,d)).mem_iff.1 K) with e|e
  . rw [e];exact h.TM
  . exact l.fits y e
 have Z:∀ o∈(xs.ins (iT x d fr cnt,d)).os,o.fit:=λo ho=>by
  obtain ⟨y,K,rfl⟩:=T1.1 ho;exact (hg y K).fit
 have hm:(xs.ins (iT x d fr cnt,d)).os.length<=10000:=by
  have:=(ml xs (iT x d fr cnt,d)).length_eq;have e:(xs.ins (iT x d fr cnt,d)).os.length=(xs.ins (iT x d fr cnt,d)).length:=YZ
  have W:=h.live.SA.1;have X:xs.os.length=xs.length:=YZ
  rw [e,this,Um];omega
 have k0:aj w2 p (A.R5 D L G (fr.take cnt) d cnt) F:=h.arr.below I lR;have k6:rp w2 v p D L G ps.ps ps.ho (A.R5 D L G (fr.take cnt) d cnt) F:=h.live.vol.turn h.live.free J k0;have V:bp (λk=>ar<k/\¬ F.has p A.n k/\¬ ps.bl k) w2 (Z6 (ZW ⟨g,cnt,ZX⟩) pgn c1) (fr.drop cnt):=h.q.keep (dN.RN I);have O:=nP (w:=w2) (h.live.R3.keep (J.block _ h.live.R3.lt h.live.Si)) k6 (by rw [a.1];exact h.live.free) (by rw [a.1];exact h.live.Si) (mV h.live.fit i.d i.g l.n _ _ _) (by rw [a.1];exact l.n) i.r i.d1 i.d i.l1 i.l4 i.g i.div i.s (by rw [a.2.2.1];exact l.wait) (l.lost.congr a.1 a.2.2.2)
  oo _ oc (aG (xs.ins (iT x d fr cnt,d)).os) (uS _) hj (uh H.any Z hm) g cnt c1 (fr.drop cnt) (by rw [z,a.1];exact V.TC λk C=>C.2.1) k5 (by rw [a.2.1];exact N) (λk C=>Cu i.d1 (by rw [<- U];exact C))
 rw [z] at O;refine O.mono ?_;rintro e w3 ⟨rfl,Q,k7,E⟩;rw [a.1,z] at Q;rw [a.1] at E;have M:aa (λk=>k=ar\/F.has p A.n k) w w3:=(J.mono λ_ _ e=>.inr e).trans E;have R:dN (λk=>ar<k/\¬ F.has p A.n k/\¬ ps.bl k) w2 w3:=⟨E.size,λk C hK=>E.block k C (λe=>e.elim (λq=>eT hK.1) hK.2.1)⟩;have j:=jL (A.R5 D L G (fr.take cnt) d cnt) D L G (fr.drop cnt) (aG (xs.ins (iT x d fr cnt,d)).os) pgn;have Y:=LA (B:=((A.R5 D L G (fr.take cnt) d cnt).RT D L G (fr.drop cnt) (aG (xs.ins (iT x d fr cnt,d)).os) pgn).putAt (YD A.n) 0 (λ_=>(bx.root D L G (nx t) ((fr.drop cnt).getD 0 0) (aG (xs.ins (iT x d fr cnt,d)).os).length).blk)) l (iT x d fr cnt,d) h.TM h.no U (by
  show ((fr.take cnt++fr.drop cnt)++(P++an xs.os)).Nodup;rw [Wc];exact h.apart.1) (by
  show ∀ b∈(fr.take cnt++fr.drop cnt)++(P++an xs.os),2<=b/\b<A.nb;rw [Wc];exact h.apart.2) (j.1.trans a.1) (j.2.1.trans a.2.1) (j.2.2.1.trans a.2.2.1) (j.2.2.2.trans a.2.2.2)
 have k9:(fr.drop cnt).getD 0 0<A.nb:=by
  rw [sy (by rw [z];omega)];exact N _ (T4 _)
 have S:=uO (B:=A.R5 D L G (fr.take cnt) d cnt) (t:=nx t) (f:=(fr.drop cnt).getD 0 0) (m:=(aG (xs.ins (iT x d fr cnt,d)).os).length) (mV h.live.fit i.d i.g l.n _ _ _) i (by rw [a.1];exact l.n) (FC t) (by rw [a.2.1];exact k9) eb (fr.drop cnt) (aG (xs.ins (iT x d fr cnt,d)).os) pgn;rw [a.1] at S;refine ⟨rfl,_,_,fr.drop cnt,_,iT x d fr cnt,rfl,yw h.live k7 Q M ?_ ?_ S Y (V.keep R) (H.keep R),?_,?_,M⟩
 . exact j.1.trans a.1
 . exact j.2.1.trans a.2.1
 . exact j.1.trans a.1
 . exact ⟨j.2.1.trans a.2.1,j.2.2.2.trans a.2.2.2,(nW _ _ _ _ _ _ _).trans (CA _ _ _ _ _ _ _)⟩
end
end
def uT (f:∀ o∈L,kD o.2):∀ u∈aQ L,u.oneCell'=ZV:=by
 intro u a;unfold aQ at a;rw [XP] at a;obtain ⟨q,d,b⟩:=a;simp at b;rcases b with rfl|rfl
 . rfl
 . obtain ⟨ao,n,c,e,_⟩:=f q d;rw [e];rfl
def L0 (h:w.ownsRow base 79 2 v L.length (aQ L)) (b:∀ o∈L,kD o.2):Src ZN 2 59 v L.length (aQ L) w:=by
 rcases h.2 with ⟨rfl,a⟩|⟨g,cap,cur,rfl,c,d,e,f,i,j⟩
 . have:L=[]:=UK a;subst this;exact Xm w UP 0
 . exact U8 w UP ⟨g,0,ZX⟩ L.length cap (aQ L) (kC L) (h.cells (g:=g) rfl) (uT b)
def Tryz.Su:(ZN.info? 79).map (λi=>(i.zero,i.size,i.bytes))=ZW (ZW (.agg #[Z0 YE,Z6 ZX 0 0]),2,40):=ei
theorem yD (h:ru w r base v L) (O:L.length<=1000000) (I:∀ o∈L,kD o.2) :
 ZR ZN 22 #[Z7 (ZW ⟨r,0,ZX⟩)] w λe w'=>e=Z4 (Z7 (ZW ⟨w.heap.size,0,ZX⟩))/\(∃ u,ru w' w.heap.size (w.heap.size+1) u L)/\bW w w':=by
 have D:r<w.heap.size:=(TW.1 h.top).1;obtain ⟨w1,j⟩:=nM (w.alloc (Z5 #[Z6 ZX 0 0] 61));have l:w1.heap.size=w.heap.size+1:=by rw [<- j];simp
 have b:bW w w1:=by rw [<- j];exact bA w _
 have m:w1.heap[w.heap.size]?=ZW (Z5 #[Z6 ZX 0 0] 61 (0,0)):=by rw [<- j];exact T9 w (Z5 #[Z6 ZX 0 0] 61)
 have t:World.ownsRow w1.drew base 79 2 v L.length (aQ L):=by rw [<- j];exact h.own.alloc _
 have x:=(b.block r D).trans h.top;obtain ⟨id,n,C,B,A⟩:=Ur Tryz.Su;obtain ⟨J,w2,y,a,d,z⟩:=kY (P:=ZN) w1.drew w1.heap.size 59 59 59 79 id _ 2 40 UP n C B A rfl (Z6 ZX 0 0) 0 [] (UB _ _ _ _) v L.length (aQ L) (L0 t I) eD eb lR;rw [Uc,Uk] at a;obtain ⟨s,sl,q,rfl⟩:∃ s sl q,J=.slice s sl q:=by
  rcases a.2 with ⟨e,_⟩|⟨g,cap,cur,e,_⟩
  . exact ⟨_,_,_,e⟩
  . exact ⟨_,_,_,e⟩
 have f:bW w1 w2:=⟨d.os,d.tape,d.output,d.size,λk G=>d.block k G vy⟩;have c:=(f.block _ eb).trans m;have K:w1.cell? ⟨w.heap.size,0,ZX⟩=ZW (Z6 ZX 0 0):=by simp [World.cell?,m]
 have c1:w1.cell? ⟨r,0,ZX⟩=ZW v:=by simp [World.cell?,x]
 have M:w2.cell? ⟨w.heap.size,0,ZX⟩=ZW (Z6 ZX 0 0):=by simp [World.cell?,c]
 have N:w2.frozen? ⟨w.heap.size,0,ZX⟩=ZU:=by simp [World.frozen?,c]
 have H:=a8 y a f c b l;clear y a d z f c b m t x l;go_enter func22,ntmps22;go_wp2_with fail;go_region_law (refine ji rfl _ _ 59 59 rfl _ _ Zs Zs H.out.1 ?_)
 all_goals (
  go_wp2;go_ret;obtain ⟨_,a,f,c,b,l⟩:=H.out;have E:w2.grownBy (w2.setCell ⟨w.heap.size,0,ZX⟩ (.slice s sl q)) (ZW w.heap.size):=⟨rfl,rfl,rfl,l7,λi _ F=>T7 _ _ _ _ (λe=>F Zc)⟩;rw [l] at a;exact ⟨rfl,⟨_,by simp [World.setCell,Vv,c],a.kept E (.inr λe=>eT ((a.lt _ e).1))⟩,(b.trans (f.mono b.size)).setCell (p:=⟨w.heap.size,0,ZX⟩) lR _⟩)
def yE (a:∀ o∈L,kD o.2) (k:Nat):∀ o∈L.take k,kD o.2:=λo h=>a o (US h)
def qO (a:∀ o∈L,kD o.2) (k:Nat):∀ o∈L.drop k,kD o.2:=λo h=>a o (UV h)
def px (l:L.length=n) (i:∀ k (r:k<L.length),w.cell? ⟨g,off+k*2,ZX⟩=ZW (Z0 L[k].1)/\w.cell? ⟨g,off+k*2+1,ZX⟩=ZW L[k].2) (m:∀ o∈L,kD o.2) :
 Src ZN 2 59 (Z6 (ZW ⟨g,off,ZX⟩) n c) n (aQ L) w:=by
 subst l;refine U8 w UP ⟨g,off,ZX⟩ L.length c (aQ L) (kC L) (λj u a=>?_) (uT m);rw [Vj];have:j<L.length*2:=by
  obtain ⟨q,_⟩:=UT.1 a;rwa [kC] at q
 obtain ⟨f,h⟩:=tJ L (j/2) eb;obtain ⟨c1,d⟩:=i (j/2) eb;by_cases e:j%2=0
 . have b:j/2*2=j:=eb;rw [b] at f c1;rw [f] at a;rw [c1,a]
 . have b:j/2*2+1=j:=eb;rw [b] at h;rw [h] at a;rw [(eb:off+j/2*2+1=off+j)] at d;rw [d,a]
def uU {xs:List ZS} (h:w.ownsRow base e size v n xs):∃ b sl a,v=.slice b sl a:=by
 rcases h.2 with ⟨q,_⟩|⟨g,cap,cur,q,_⟩
 . exact ⟨_,_,_,q⟩
 . exact ⟨_,_,_,q⟩
def aaj (w:ZT) (r:Nat) (L:List (ByteArray×ZS)) (name:ByteArray) (e:ZP) (w':ZT):Prop:=
 (¬ eA name/\e=Z4 (Z8 Z9 6)/\w'=w)\/(eA name/\isNone L name/\e=Z4 (Z8 Z9 9)/\w'=w) \/
 (eA name/\∃ k,Nr L name k/\e=Z4 (Z8 Z9 0)/\(∃ u,ru w' r w.heap.size u (L.take k++L.drop (k+1)))/\aa (λj=>j=r) w w')
theorem CB (h:ru w r base v L) (hl:L.length<=1000000) (X:∀ o∈L,kD o.2) (name:ByteArray) :
 ZR ZN 23 #[Z7 (ZW ⟨r,0,ZX⟩),Z0 name] w λe w'=>aaj w r L name e w':=by
 obtain ⟨z,f0⟩:=h.cell;have kh:=h.shape;have J:=jG h hl name;have hm:=Bn h hl name;obtain ⟨id,s,N,M,K⟩:=Ur Tryz.Su;go_enter func23,ntmps23;go_wp2_with fail;refine hm.mono ?_;clear hm;rintro e w1 ⟨rfl,hg⟩;rcases hg with ⟨km,rfl⟩|⟨C,I,rfl⟩|⟨C,k0,Z,rfl⟩
 . have G:=al km;clear km J kh;go_wp2;go_ret;exact .inl ⟨G.out,rfl,rfl⟩
 . have G:=au C I;clear C I J kh;go_wp2;go_ret;exact .inr (.inl ⟨G.out.1,G.out.2,rfl,rfl⟩)
 . obtain ⟨x,hx⟩:=nM ((L.getD k0 (YE,ZY)).2);rw [hx];clear hx;go_wp2_with fail;refine J.mono ?_;clear J;rintro e w2 ⟨rfl,hf⟩;rcases hf with ⟨k,hk,rfl,hn,h3⟩|⟨rfl,I⟩
   . rcases kh with ⟨rfl,rfl⟩|⟨g,cap,rfl,ks,kp,H⟩
     . exact absurd hk ek
     . have ki:Nr L name k:=⟨hk,hn,h3⟩;have kj:g<w2.heap.size:=T8 (H 0 eb).1;have hp:r≠g:=by
        intro e;rcases h.own.2 with ⟨q,_⟩|⟨g',hb,cur,e1,e2,R,_⟩
        . cases q
        . simp at e1;rw [<- e1.1] at R;rw [<- e,h.top] at R;simp at R
       have ko:Src ZN 2 59 (Z6 (ZW ⟨g,0,ZX⟩) k cap) k (aQ (L.take k)) w2:=px KP (λj l=>by
        rw [Ud] at l;obtain ⟨q1,q2⟩:=H j eb;rw [Uc,WW];exact ⟨q1,q2⟩) (yE X k)
       have n:=a7 C ki H h hp;clear C ki hn h3 H h hp Z;have ky:r<w2.heap.size:=T8 z;have O:¬ cap=k+1\/cap=k+1:=(Decidable.em (cap=k+1)).symm;have kv:wrap64 ((k:Int)+1)=(k:Int)+1:=K0;rcases O with O|O
       . have kx:¬ (cap:Int)-((k:Int)+1)=0:=eb;go_wp2_with (first
          | (at_builtin;refine af _ rfl (Z1 21) (Z1 27) 59 59 rfl w2.heap.size 79 id _ 2 40 UP s N M K rfl (Z6 ZX 0 0) 0 [] rfl (UB _ _ _ _) _ rfl k (aQ (L.take k)) ko eD eb lR ?_;intro F w3 B d ka
             have p:∀ j,j<w2.heap.size->w3.heap[j]?=w2.heap[j]?:=λj l=>d.block j l vy;have t:w3.heap[r]?=_:=(p r (T8 z)).trans n.out.2.2.2.1.top;have Q:w3.cell? ⟨r,0,ZX⟩=ZW (Z6 (ZW ⟨g,0,ZX⟩) L.length cap):=Y6;have f3:w3.frozen? ⟨r,0,ZX⟩=ZU:=(by simp [World.frozen?,t]);have E:=d.size;have U:=d.os;have S:=d.tape;have T:=d.output;have D:Src ZN 2 59 (Z6 (ZW ⟨g,(k+1)*2,ZX⟩) (L.length-(k+1)) (cap-(k+1))) (L.length-(k+1)) (aQ (L.drop (k+1))) w3:=px (by rw [Ue]) (λj l=>by
              rw [Ue] at l;obtain ⟨q1,q2⟩:=n.out.2.2.1 (k+1+j) eb;rw [WV,(eb:(k+1)*2+j*2=(k+1+j)*2)];exact ⟨(Uh (p g kj)).trans q1,(Uh (p g kj)).trans q2⟩) (qO X (k+1))
             have c:=aE B p D;clear B d p D t)
          | (at_builtin;refine af _ rfl (Z1 29) (Z1 36) 59 59 rfl w2.heap.size 79 id _ 2 40 UP s N M K rfl F (0+k) _ rfl c.out.1 _ rfl (L.length-(k+1)) (aQ (L.drop (k+1))) c.out.2.2 eD eb E ?_;intro v2 b m a kb
             obtain ⟨y,sl,u,rfl⟩:=uU m;have kg:¬ ZW r=F.ownBlock:=λe=>eT ((c.out.1.lt r e.symm).1)
             have f:b.heap[r]?=_:=(a.block r (T8 Q) kg).trans ((c.out.2.1 r (T8 z)).trans n.out.2.2.2.1.top);have c4:b.cell? ⟨r,0,ZX⟩=ZW (Z6 (ZW ⟨g,0,ZX⟩) L.length cap):=Ze;have f4:b.frozen? ⟨r,0,ZX⟩=ZU:=(by simp [World.frozen?,f]);have P:=aE m a f;clear m a f))
         have kf:(L.take k++L.drop (k+1)).length=0+k+(L.length-(k+1)):=(by rw [T5,Ud,Ue];omega);obtain ⟨m,a,f⟩:=P.out;have A:b.ownsRow w2.heap.size 79 2 (.slice y sl u) (L.take k++L.drop (k+1)).length (aQ (L.take k++L.drop (k+1))):=(by rw [kf,js];exact m);have V:aa (λj=>j=r) w2 b:=⟨a.os.trans U,a.tape.trans S,a.output.trans T,TU E a.size,λj l kr=>(a.block j eb (λe=>eT ((c.out.1.lt j e.symm).1))).trans (c.out.2.1 j l)⟩;go_ret;have kc:b.grownBy (b.setCell ⟨r,0,ZX⟩ (.slice y sl u)) (ZW r):=⟨rfl,rfl,rfl,l7,λi _ W=>T7 _ _ _ _ (λe=>W Zc)⟩;refine .inr (.inr ⟨n.out.1,k,n.out.2.1,rfl,⟨.slice y sl u,⟨by simp [World.setCell,Vv,f],A.kept kc (.inr λe=>eT ((A.lt r e).1))⟩⟩,V.trans (aa.setCell _ _ _ rfl)⟩)
       . subst O;have kk:L.length=k+1:=eb;have Y:=al kk;clear kk;go_wp2_with (first
          | (at_builtin;refine af _ rfl (Z1 21) (Z1 27) 59 59 rfl w2.heap.size 79 id _ 2 40 UP s N M K rfl (Z6 ZX 0 0) 0 [] rfl (UB _ _ _ _) _ rfl k (aQ (L.take k)) ko eD eb lR ?_;intro F w3 B d ka
             have p:∀ j,j<w2.heap.size->w3.heap[j]?=w2.heap[j]?:=λj l=>d.block j l vy;have t:w3.heap[r]?=_:=(p r (T8 z)).trans n.out.2.2.2.1.top;have Q:w3.cell? ⟨r,0,ZX⟩=ZW (Z6 (ZW ⟨g,0,ZX⟩) L.length (k+1)):=Y6;have f3:w3.frozen? ⟨r,0,ZX⟩=ZU:=(by simp [World.frozen?,t]);have E:=d.size;have U:=d.os;have S:=d.tape;have T:=d.output;have D:Src ZN 2 59 (Z6 (ZW ⟨g,0,ZX⟩) 0 0) 0 (aQ (L.drop (k+1))) w3:=px (by rw [Ue,Y.out];omega) (λj l=>absurd l (by rw [Ue,Y.out];omega)) (qO X (k+1));have c:=aE B p D;clear B d p D t)
          | (at_builtin;refine af _ rfl (Z1 29) (Z1 36) 59 59 rfl w2.heap.size 79 id _ 2 40 UP s N M K rfl F (0+k) _ rfl c.out.1 _ rfl 0 (aQ (L.drop (k+1))) c.out.2.2 eD eb E ?_;intro v2 b m a kb
             obtain ⟨y,sl,u,rfl⟩:=uU m;have kg:¬ ZW r=F.ownBlock:=λe=>eT ((c.out.1.lt r e.symm).1)
             have f:b.heap[r]?=_:=(a.block r (T8 Q) kg).trans ((c.out.2.1 r (T8 z)).trans n.out.2.2.2.1.top);have c4:b.cell? ⟨r,0,ZX⟩=ZW (Z6 (ZW ⟨g,0,ZX⟩) L.length (k+1)):=Ze;have f4:b.frozen? ⟨r,0,ZX⟩=ZU:=(by simp [World.frozen?,f]);have P:=aE m a f;clear m a f))
         have kf:(L.take k++L.drop (k+1)).length=0+k+0:=(by rw [T5,Ud,Ue,Y.out];omega);obtain ⟨m,a,f⟩:=P.out;have A:b.ownsRow w2.heap.size 79 2 (.slice y sl u) (L.take k++L.drop (k+1)).length (aQ (L.take k++L.drop (k+1))):=(by rw [kf,js];exact m);have V:aa (λj=>j=r) w2 b:=⟨a.os.trans U,a.tape.trans S,a.output.trans T,TU E a.size,λj l kr=>(a.block j eb (λe=>eT ((c.out.1.lt j e.symm).1))).trans (c.out.2.1 j l)⟩;go_ret;have kc:b.grownBy (b.setCell ⟨r,0,ZX⟩ (.slice y sl u)) (ZW r):=⟨rfl,rfl,rfl,l7,λi _ W=>T7 _ _ _ _ (λe=>W Zc)⟩;refine .inr (.inr ⟨n.out.1,k,n.out.2.1,rfl,⟨.slice y sl u,⟨by simp [World.setCell,Vv,f],A.kept kc (.inr λe=>eT ((A.lt r e).1))⟩⟩,V.trans (aa.setCell _ _ _ rfl)⟩)
   . exact absurd Z.2.1 (I k0 Z.1)
def uV (h:Bs w v l):Src ZN 1 31 v l.length (aJ l) w:=by
 obtain ⟨ao,c,rfl,n,o,p,i⟩:=h;have k:∀ u∈aJ l,u.oneCell'=ZV:=λu a=>by unfold aJ at a;rw [T1] at a;obtain ⟨x,_,rfl⟩:=a;rfl
 by_cases f:l=[]
 . subst f;cases ao with
   | none=>exact Xm w Ui c
   | some g=>exact U8 w Ui g 0 c [] rfl (λj u d=>by simp at d) (λu a=>ZH)
 . obtain ⟨b,off,rfl,m⟩:=i f;refine U8 w Ui ⟨b,off,ZX⟩ l.length c (aJ l) (by rw [aW,VW]) (λj u d=>?_) k;rw [Vj];have e:j<l.length:=(by obtain ⟨q,_⟩:=UT.1 d;rwa [aW] at q);rw [m j e,<- d];unfold aJ;rw [Ul,T2 e,T6,T2 e];rfl
def Tryz.SK:(ZN.info? 5).map (λi=>(i.zero,i.size,i.bytes))=ZW (ZW (Z8 .u8 0),1,1):=ei
theorem Iv (r:Nat) (name:ByteArray) (ao:Option ZQ) (n c:Nat) (a:¬ eA name) (w:ZT) :
 ZR ZN 36 #[Z7 (ZW ⟨r,0,ZX⟩),Z0 name,.slice ao n c] w λe w'=>e=Z4 (Z8 Z9 6)/\w'=w:=by
 by_cases b:name.size=0
 . have n0:(name.size:Int)=0:=eb;go_enter func36,ntmps36;go_wp2;go_ret;exact ⟨rfl,rfl⟩
 . have n0:¬ (name.size:Int)=0:=eb;have n1:(16:Int)<(name.size:Int):=(by unfold eA at a;omega);go_enter func36,ntmps36;go_wp2;go_ret;exact ⟨rfl,rfl⟩
theorem Iw (r:Nat) (name:ByteArray) (ao:Option ZQ) (n c:Nat) (a:eA name) (d:1500<n) (w:ZT) :
 ZR ZN 36 #[Z7 (ZW ⟨r,0,ZX⟩),Z0 name,.slice ao n c] w λe w'=>e=Z4 (Z8 Z9 7)/\w'=w:=by
 have b:¬ name.size=0:=eT a.1
 have n0:¬ (name.size:Int)=0:=eb
 have n1:¬ (16:Int)<(name.size:Int):=eT a.2
 have f:(1500:Int)<(n:Int):=eb
 clear a;go_enter func36,ntmps36;go_wp2;go_ret;exact ⟨rfl,rfl⟩
theorem CC (h:ru w r base v L) (i:L.length<=1000000) (name:ByteArray) (ao:Option ZQ) (n c:Nat) (a:eA name) (m:n<=1500) (b:¬ isNone L name) :
 ZR ZN 36 #[Z7 (ZW ⟨r,0,ZX⟩),Z0 name,.slice ao n c] w λe w'=>e=Z4 (Z8 Z9 8)/\w'=w:=by
 have d:=jG h i name;have j:¬ name.size=0:=eT a.1
 have n0:¬ (name.size:Int)=0:=eb
 have n1:¬ (16:Int)<(name.size:Int):=eT a.2
 have o:¬ (1500:Int)<(n:Int):=eb
 clear a h;go_enter func36,ntmps36;go_wp2_with fail;refine d.mono ?_;rintro e w1 ⟨rfl,g⟩;rcases g with ⟨k,l,rfl,_⟩|⟨rfl,f⟩
 . have k2:(0:Int)<=(k:Int):=eb;clear d b;go_wp2;go_ret;exact ⟨rfl,rfl⟩
 . exact absurd f b
def bB {xs:List ZS} (h:w.ownsRow base e size v n xs):∃ d f,v=.slice d n f:=by
 rcases h.2 with ⟨b,c⟩|⟨g,cap,cur,a,_⟩
 . exact ⟨ZX,0,by rw [b,c]⟩
 . exact ⟨_,_,a⟩
def ef (L:List (ByteArray×ZS)):List ByteArray:=L.map (·.1)
def uW (e:∀ k (n:k<L.length),w1.cell? ⟨g,k*2,ZX⟩=ZW (Z0 L[k].1)/\w1.cell? ⟨g,k*2+1,ZX⟩=ZW L[k].2) (d:g<w1.heap.size) (b:bW w1 w3) (h:∀ o∈L,kD o.2) (m:a<=L.length):∀ c,Src ZN 2 59 (Z6 (ZW ⟨g,0,ZX⟩) a c) a (aQ (L.take a)) w3:=λc=>
 px KP (λj f=>by
  rw [Ud] at f;obtain ⟨i,l⟩:=e j eb;rw [Uc,WW];exact ⟨(Uh (b.block g d)).trans i,(Uh (b.block g d)).trans l⟩) (yE h a)
def uX (e:∀ k (n:k<L.length),w1.cell? ⟨g,k*2,ZX⟩=ZW (Z0 L[k].1)/\w1.cell? ⟨g,k*2+1,ZX⟩=ZW L[k].2) (d:g<w1.heap.size) (b:bW w1 w3) (h:∀ o∈L,kD o.2) (m:a<=L.length):∀ c,Src ZN 2 59 (Z6 (ZW ⟨g,a*2,ZX⟩) (L.length-a) c) (L.length-a) (aQ (L.drop a)) w3:=λc=>
 px (by rw [Ue]) (λj f=>by
  rw [Ue] at f;obtain ⟨i,l⟩:=e (a+j) eb;rw [WV,(eb:a*2+j*2=(a+j)*2)];exact ⟨(Uh (b.block g d)).trans i,(Uh (b.block g d)).trans l⟩) (qO h a)
def yF (h:k=L.length) (off c:Nat) (w:ZT):Src ZN 2 59 (Z6 (ZW ⟨g,off,ZX⟩) (L.length-k) c) (L.length-k) (aQ (L.drop k)) w:=by
 subst h;rw [Wp,YU];exact U8 w UP ⟨g,off,ZX⟩ 0 c [] rfl (λj u a=>ZH) (λu b=>by simp at b)
def sC (c:ZT) (name:ByteArray) (a:Option ZQ) (n b:Nat):Src ZN 2 59 (Z6 (ZW ⟨c.heap.size,0,ZX⟩) 1 1) 1 [Z0 name,.slice a n b] (c.alloc (Z5 #[Z0 name,.slice a n b] 79)):=
 U8 _ UP ⟨c.heap.size,0,ZX⟩ 1 1 [Z0 name,.slice a n b] rfl (λj u f=>by
  rw [Vj,Uc];have g:=UG c (Z5 #[Z0 name,.slice a n b] 79);have e:(#[Value.string name,.slice a n b]:Array ZS)[j]?=ZW u:=vE f
  simp only [World.cell?,g];exact e) (λu d=>by
  simp only [Un,W4,or_false] at d;rcases d with rfl|rfl<;>rfl)
def OW {b1 b2:Nat} {xs:List ZS} (f:w.ownsRow b1 5 1 v n xs) (p:w.ownsRow b2 79 2 u m ys) (o:w.grownBy w' u.ownBlock):w'.ownsRow b1 5 1 v n xs:=by
 refine ⟨f.1,?_⟩;rcases f.2 with l|⟨g,cap,cur,i,j,b,q⟩
 . exact .inl l
 . refine .inr ⟨g,cap,cur,i,j,(o.block g (TW.1 b).1 (λe=>?_)).trans b,q⟩;rcases p.2 with ⟨rfl,_⟩|⟨k,c,d,rfl,_,a,_⟩
   . cases e
   . have h:k=g:=(by simpa [Value.ownBlock] using e.symm);subst h;rw [b] at a;cases a
def FW {xs:List ZS} (h:w.ownsRow base e size v n xs) {k:Nat} (a:v.ownBlock=ZW k):base<=k:=by
 rcases h.2 with ⟨rfl,_⟩|⟨g,cap,cur,rfl,c,_⟩
 . cases a
 . have:g=k:=(by simpa [Value.ownBlock] using a);omega
def mZ {w4:ZT} {vb:ZS} {xs:List ZS} {o:Obj} (_:ru w r base v L) (j:w3.ownsRow w.heap.size 5 1 vb n xs) (f:bW w w3) (l:w4.ownsRow w.heap.size 79 2 u a ys) (g:bW w3 w4) (h:(w4.alloc o).grownBy w5 u.ownBlock):bW w w5/\w5.ownsRow w.heap.size 5 1 vb n xs:=by
 have b:bW w4 (w4.alloc o):=bA w4 _;have c:bW w w4:=f.trans (g.mono f.size);have d:bW w (w4.alloc o):=c.trans (b.mono c.size);have i:=aB l b;exact ⟨d.grown h d.size (λk e=>FW i e),OW (aB (aB j g) b) i h⟩
def kU {vb:ZS} {xs:List ZS} (d:w5.ownsRow w.heap.size 79 2 u a ys) (b:bW w w5) (f:w5.ownsRow w.heap.size 5 1 vb n xs) (c:w5.grownBy w6 u.ownBlock):bW w w6/\w6.ownsRow w.heap.size 5 1 vb n xs:=
 ⟨b.grown c b.size (λ_ e=>FW d e),OW f d c⟩
def L2 (w:ZT) (r:Nat) (L:List (ByteArray×ZS)) (x:ByteArray) (d:a9) (e:ZP) (w':ZT):Prop:=
 e=Z4 (Z8 Z9 0)/\∃ u vb,ru w' r w.heap.size u (L.take (aI (ef L) x)++(x,vb)::L.drop (aI (ef L) x))/\w'.ownsRow w.heap.size 5 1 vb d.length (aJ d)/\aa (λj=>j=r) w w'
def py {vb:ZS} {x:ByteArray} {d:a9} (D:d.length=n) (y:aI (ef L) x=a) (c:w6.ownsRow w.heap.size 79 2 u m (aQ (L.take a)++[Z0 x,vb]++aQ (L.drop a))) (t:bW w w6) (B:w6.ownsRow w.heap.size 5 1 vb n (aJ d)) (A:w6.heap[r]?=ZW (Z5 #[v] 61 (0,0))) (F:r<w.heap.size):L2 w r L x d (Z4 (Z8 Z9 0)) (w6.setCell ⟨r,0,ZX⟩ u):=by
 have l:∀ j,j≠r->(w6.setCell ⟨r,0,ZX⟩ u).heap[j]?=w6.heap[j]?:=λj f=>T7 _ _ _ _ f;have i:aQ (L.take a)++[Z0 x,vb]++aQ (L.drop a)=aQ (L.take a++(x,vb)::L.drop a):=by
  rw [js,UI];rfl
 have C:m=(L.take a++(x,vb)::L.drop a).length:=by
  have:=c.1;rw [i,kC] at this;omega
 rw [i,C] at c;have b:∀ {e:ZO} {size k:Nat} {z:ZS} {xs:List ZS},w6.ownsRow w.heap.size e size z k xs->(w6.setCell ⟨r,0,ZX⟩ u).ownsRow w.heap.size e size z k xs:=λ{e size k z xs} h=>by
  refine ⟨h.1,?_⟩;rcases h.2 with s|⟨g,cap,cur,o,p,q,E⟩
  . exact .inl s
  . exact .inr ⟨g,cap,cur,o,p,(l g eb).trans q,E⟩
 refine ⟨rfl,u,vb,?_,?_,?_⟩
 . rw [y];refine ⟨?_,b c⟩;have:=ai (j:=0) A u;exact this
 . rw [D];exact b B
 . exact (aa.RO t _).trans ⟨rfl,rfl,rfl,l7,λj _ f=>l j f⟩
def PuR (w:ZT) (L:List (ByteArray×ZS)) (x:ByteArray) (i:ZS) (wr:ZT):Prop:=∃ k:Nat,k<=L.length/\i=Z8 Z9 k/\wr=w/\∀ j (hj:j<L.length),j<k->jx L[j].1 x=ZV
theorem L3 (h:ru w r base (Z6 (ZW ⟨g,0,ZX⟩) L.length cap) L) (hl:L.length<=100000) (V:∀ o∈L,kD o.2) (name:ByteArray) (ao:Option ZQ) (c:Nat) (d:a9) (hd:Bs w (.slice ao d.length c) d) (q5:d.length<=1500) (kz:eA name) (q4:isNone L name) (O:∀ k (hk:k<L.length),w.cell? ⟨g,k*2,ZX⟩=ZW (Z0 L[k].1)/\w.cell? ⟨g,k*2+1,ZX⟩=ZW L[k].2) (W:g<w.heap.size) (q7:L.length<=cap) :
 ZR ZN 36 #[Z7 (ZW ⟨r,0,ZX⟩),Z0 name,.slice ao d.length c] w (L2 w r L name d):=by
 obtain ⟨c0,f0⟩:=h.cell;have hc:=jG h eb name;obtain ⟨id,f,K,J,I⟩:=Ur Tryz.Su;obtain ⟨ib,kv,kf,kg,kh⟩:=Ur Tryz.SK;have h0:¬ name.size=0:=eT kz.1
 have n0:¬ (name.size:Int)=0:=eb
 have n1:¬ (16:Int)<(name.size:Int):=eT kz.2
 obtain ⟨n,hn⟩:=nM (d.length);have q0:=uV hd;rw [hn] at q0 q5 ⊢;have n2:¬ (1500:Int)<(n:Int):=eb
 have B:r<w.heap.size:=T8 c0;have p:=aE q0 h hn;clear kz h q0 hd hn;go_enter func36,ntmps36;go_wp2_with fail;refine hc.mono ?_;rintro e w1 ⟨rfl,hf⟩;rcases hf with ⟨k,hk,rfl,hn,kr⟩|⟨rfl,km⟩
 . exact absurd hn (q4 k hk)
 clear hc km q4;go_wp2;go_loopw [8] (λi wr=>PuR w1 L name i wr) (λi _=>L.length-(intOf i).toNat)
 case atStart=>exact ⟨0,T3 _,rfl,rfl,λj _ h=>eb⟩
 case round=>
  obtain ⟨k,hk,rfl,rfl,U⟩:=hrel;by_cases kx:k<L.length
  . obtain ⟨q1,q2⟩:=O k kx;obtain ⟨nm,kk⟩:=nM (L[k].1);rw [kk] at q1;have ky:(k:Int)<(L.length:Int):=eb;cases h6:jx nm name with
    | true=>
     have q6:Op.bytesLess nm.toList name.toList=ZV:=h6;have kb:PuR wr L name (Z8 Z9 ((k+1:Nat):Int)) wr:=⟨k+1,eb,rfl,rfl,λj l h=>by
      rcases XQ (YR h) with e|h'
      . subst e;rw [kk];exact h6
      . exact U j l h'⟩
     have HN:=al kb;clear kb U q2 kk O;go_wp2;refine ⟨vE HN.out,?_⟩;show L.length-((k:Int)+1).toNat<L.length-((k:Int)).toNat;omega
    | false=>
     have q6:Op.bytesLess nm.toList name.toList=ZU:=h6;have T:aI (ef L) name=k:=gI _ _ _ (by unfold ef;rw [TZ];omega) (λj l h=>by
      unfold ef at l ⊢;rw [Vf];exact U j (by rwa [TZ] at l) h) (λhi=>by simp only [ef,Vf,kk];exact h6)
     have k3:¬ cap=k:=eb;have k4:k<=cap:=eb;have k5:(k:Int)<=(cap:Int):=eb;clear U q2 kk;have C:=au T O;clear T O;go_wp2_with (first
      | (at_builtin;refine af _ rfl (Z1 48) (Z1 49) 31 31 rfl wr.heap.size 5 ib (Z8 .u8 0) 1 1 Ui kv kf kg kh rfl (Z6 ZX 0 0) 0 [] rfl (UB _ _ _ _) _ rfl n (aJ d) p.out.1 eD eb lR ?_;intro vb w3 x a X;rw [Uc,Uk] at x;have u:bW wr w3:=⟨a.os,a.tape,a.output,a.size,λj l=>a.block j l vy⟩;have G:=(u.block r B).trans p.out.2.1.top;have c3:w3.cell? ⟨r,0,ZX⟩=ZW (Z6 (ZW ⟨g,0,ZX⟩) L.length cap):=by simp [World.cell?,G]
         have f3:w3.frozen? ⟨r,0,ZX⟩=ZU:=abR;obtain ⟨M,N,rfl⟩:=bB x;have q:=aE x u (uW C.out.2 W u V (eb:k<=L.length));clear x a X u G)
      | (at_builtin;refine af _ rfl (Z1 51) (Z1 57) 59 59 rfl wr.heap.size 79 id _ 2 40 UP f K J I rfl (Z6 ZX 0 0) 0 [] rfl (UB _ _ _ _) _ rfl (k) (aQ (L.take (k))) (q.out.2.2 cap) eD eb q.out.2.1.size ?_;intro v4 A y b Y;rw [Uc,Uk] at y;have P:bW w3 A:=⟨b.os,b.tape,b.output,b.size,λj l=>b.block j l vy⟩
         obtain ⟨la,lc,rfl⟩:=bB y;have s:=au y P;clear y b Y P)
      | (at_builtin;refine af _ rfl (Z1 59) (Z1 63) 59 59 rfl wr.heap.size 79 id _ 2 40 UP f K J I rfl (.slice la (k) lc) (k) (aQ (L.take (k))) rfl (aB s.out.1 (bA A _)) _ rfl 1 [Z0 name,.slice M n N] (sC A name M n N) eD eb (TU q.out.2.1.size (TU s.out.2.size (bA A _).size)) ?_;intro v5 w5 E Q Z
         have ko:=mZ p.out.2.1 q.out.1 q.out.2.1 s.out.1 s.out.2 Q;obtain ⟨v,kc⟩:=ko;have H:=(v.block r B).trans p.out.2.1.top;have c5:w5.cell? ⟨r,0,ZX⟩=ZW (Z6 (ZW ⟨g,0,ZX⟩) L.length cap):=abY;have f5:w5.frozen? ⟨r,0,ZX⟩=ZU:=abS;obtain ⟨ma,mc,rfl⟩:=bB E;have m:=a5 E v kc (uX C.out.2 W v V (eb:k<=L.length));clear E Q Z v kc H)
      | (at_builtin;refine af _ rfl (Z1 65) (Z1 71) 59 59 rfl wr.heap.size 79 id _ 2 40 UP f K J I rfl (.slice ma (k+1) mc) (k+1) _ rfl m.out.1 _ rfl (L.length-(k)) (aQ (L.drop (k))) (m.out.2.2.2 _) eD eb m.out.2.1.size ?_;intro v6 w6 F R hp
         have kp:=kU m.out.1 m.out.2.1 m.out.2.2.1 R;obtain ⟨D,S⟩:=kp;have z:=(D.block r B).trans p.out.2.1.top;have c6:w6.cell? ⟨r,0,ZX⟩=ZW (Z6 (ZW ⟨g,0,ZX⟩) L.length cap):=abZ;have f6:w6.frozen? ⟨r,0,ZX⟩=ZU:=abT;obtain ⟨na,nc,rfl⟩:=bB F;have t:=a5 F D S z;clear F R hp D S z))
     all_goals (go_ret;exact py p.out.2.2 C.out.1 t.out.1 t.out.2.1 t.out.2.2.1 t.out.2.2.2 B)
  . have q3:k=L.length:=eb;have ky:¬ (k:Int)<(L.length:Int):=eb;have T:aI (ef L) name=k:=gI _ _ _ (by unfold ef;rw [TZ];omega) (λj l h=>by
     unfold ef at l ⊢;rw [Vf];exact U j (by rwa [TZ] at l) h) (λhi=>by unfold ef at hi;rw [TZ] at hi;omega)
    have HK:=al q3;clear U q3;by_cases ks:cap=k
    . subst ks;clear q7 kx;have C:=au T O;clear T O;go_wp2_with (first
       | (at_builtin;refine af _ rfl (Z1 48) (Z1 49) 31 31 rfl wr.heap.size 5 ib (Z8 .u8 0) 1 1 Ui kv kf kg kh rfl (Z6 ZX 0 0) 0 [] rfl (UB _ _ _ _) _ rfl n (aJ d) p.out.1 eD eb lR ?_;intro vb w3 x a X;rw [Uc,Uk] at x;have u:bW wr w3:=⟨a.os,a.tape,a.output,a.size,λj l=>a.block j l vy⟩;have G:=(u.block r B).trans p.out.2.1.top;have c3:w3.cell? ⟨r,0,ZX⟩=ZW (Z6 (ZW ⟨g,0,ZX⟩) L.length cap):=by simp [World.cell?,G]
          have f3:w3.frozen? ⟨r,0,ZX⟩=ZU:=abR;obtain ⟨M,N,rfl⟩:=bB x;have q:=aE x u (uW C.out.2 W u V (eb:cap<=L.length));clear x a X u G)
       | (at_builtin;refine af _ rfl (Z1 51) (Z1 57) 59 59 rfl wr.heap.size 79 id _ 2 40 UP f K J I rfl (Z6 ZX 0 0) 0 [] rfl (UB _ _ _ _) _ rfl (cap) (aQ (L.take (cap))) (q.out.2.2 cap) eD eb q.out.2.1.size ?_;intro v4 A y b Y;rw [Uc,Uk] at y;have P:bW w3 A:=⟨b.os,b.tape,b.output,b.size,λj l=>b.block j l vy⟩
          obtain ⟨la,lc,rfl⟩:=bB y;have s:=au y P;clear y b Y P)
       | (at_builtin;refine af _ rfl (Z1 59) (Z1 63) 59 59 rfl wr.heap.size 79 id _ 2 40 UP f K J I rfl (.slice la (cap) lc) (cap) (aQ (L.take (cap))) rfl (aB s.out.1 (bA A _)) _ rfl 1 [Z0 name,.slice M n N] (sC A name M n N) eD eb (TU q.out.2.1.size (TU s.out.2.size (bA A _).size)) ?_;intro v5 w5 E Q Z
          have ko:=mZ p.out.2.1 q.out.1 q.out.2.1 s.out.1 s.out.2 Q;obtain ⟨v,kc⟩:=ko;have H:=(v.block r B).trans p.out.2.1.top;have c5:w5.cell? ⟨r,0,ZX⟩=ZW (Z6 (ZW ⟨g,0,ZX⟩) L.length cap):=abY;have f5:w5.frozen? ⟨r,0,ZX⟩=ZU:=abS;obtain ⟨ma,mc,rfl⟩:=bB E;have m:=a5 E v kc (uX C.out.2 W v V (eb:cap<=L.length));clear E Q Z v kc H)
       | (at_builtin;refine af _ rfl (Z1 65) (Z1 71) 59 59 rfl wr.heap.size 79 id _ 2 40 UP f K J I rfl (.slice ma (cap+1) mc) (cap+1) _ rfl m.out.1 _ rfl (L.length-(cap)) (aQ (L.drop (cap))) (yF HK.out _ _ _) eD eb m.out.2.1.size ?_;intro v6 w6 F R hp
          have kp:=kU m.out.1 m.out.2.1 m.out.2.2.1 R;obtain ⟨D,S⟩:=kp;have z:=(D.block r B).trans p.out.2.1.top;have c6:w6.cell? ⟨r,0,ZX⟩=ZW (Z6 (ZW ⟨g,0,ZX⟩) L.length cap):=abZ;have f6:w6.frozen? ⟨r,0,ZX⟩=ZU:=abT;obtain ⟨na,nc,rfl⟩:=bB F;have t:=a5 F D S z;clear F R hp D S z))
      all_goals (go_ret;exact py p.out.2.2 C.out.1 t.out.1 t.out.2.1 t.out.2.2.1 t.out.2.2.2 B)
    . have k4:k<=cap:=eb;have k5:(k:Int)<=(cap:Int):=eb;clear kx;have C:=au T O;clear T O;go_wp2_with (first
       | (at_builtin;refine af _ rfl (Z1 48) (Z1 49) 31 31 rfl wr.heap.size 5 ib (Z8 .u8 0) 1 1 Ui kv kf kg kh rfl (Z6 ZX 0 0) 0 [] rfl (UB _ _ _ _) _ rfl n (aJ d) p.out.1 eD eb lR ?_;intro vb w3 x a X;rw [Uc,Uk] at x;have u:bW wr w3:=⟨a.os,a.tape,a.output,a.size,λj l=>a.block j l vy⟩;have G:=(u.block r B).trans p.out.2.1.top;have c3:w3.cell? ⟨r,0,ZX⟩=ZW (Z6 (ZW ⟨g,0,ZX⟩) L.length cap):=by simp [World.cell?,G]
          have f3:w3.frozen? ⟨r,0,ZX⟩=ZU:=abR;obtain ⟨M,N,rfl⟩:=bB x;have q:=aE x u (uW C.out.2 W u V (eb:k<=L.length));clear x a X u G)
       | (at_builtin;refine af _ rfl (Z1 51) (Z1 57) 59 59 rfl wr.heap.size 79 id _ 2 40 UP f K J I rfl (Z6 ZX 0 0) 0 [] rfl (UB _ _ _ _) _ rfl (k) (aQ (L.take (k))) (q.out.2.2 cap) eD eb q.out.2.1.size ?_;intro v4 A y b Y;rw [Uc,Uk] at y;have P:bW w3 A:=⟨b.os,b.tape,b.output,b.size,λj l=>b.block j l vy⟩
          obtain ⟨la,lc,rfl⟩:=bB y;have s:=au y P;clear y b Y P)
       | (at_builtin;refine af _ rfl (Z1 59) (Z1 63) 59 59 rfl wr.heap.size 79 id _ 2 40 UP f K J I rfl (.slice la (k) lc) (k) (aQ (L.take (k))) rfl (aB s.out.1 (bA A _)) _ rfl 1 [Z0 name,.slice M n N] (sC A name M n N) eD eb (TU q.out.2.1.size (TU s.out.2.size (bA A _).size)) ?_;intro v5 w5 E Q Z
          have ko:=mZ p.out.2.1 q.out.1 q.out.2.1 s.out.1 s.out.2 Q;obtain ⟨v,kc⟩:=ko;have H:=(v.block r B).trans p.out.2.1.top;have c5:w5.cell? ⟨r,0,ZX⟩=ZW (Z6 (ZW ⟨g,0,ZX⟩) L.length cap):=abY;have f5:w5.frozen? ⟨r,0,ZX⟩=ZU:=abS;obtain ⟨ma,mc,rfl⟩:=bB E;have m:=a5 E v kc (uX C.out.2 W v V (eb:k<=L.length));clear E Q Z v kc H)
       | (at_builtin;refine af _ rfl (Z1 65) (Z1 71) 59 59 rfl wr.heap.size 79 id _ 2 40 UP f K J I rfl (.slice ma (k+1) mc) (k+1) _ rfl m.out.1 _ rfl (L.length-(k)) (aQ (L.drop (k))) (yF HK.out _ _ _) eD eb m.out.2.1.size ?_;intro v6 w6 F R hp
          have kp:=kU m.out.1 m.out.2.1 m.out.2.2.1 R;obtain ⟨D,S⟩:=kp;have z:=(D.block r B).trans p.out.2.1.top;have c6:w6.cell? ⟨r,0,ZX⟩=ZW (Z6 (ZW ⟨g,0,ZX⟩) L.length cap):=abZ;have f6:w6.frozen? ⟨r,0,ZX⟩=ZU:=abT;obtain ⟨na,nc,rfl⟩:=bB F;have t:=a5 F D S z;clear F R hp D S z))
      all_goals (go_ret;exact py p.out.2.2 C.out.1 t.out.1 t.out.2.1 t.out.2.2.1 t.out.2.2.2 B)
theorem L4 (h:ru w r base (Z6 ZX 0 0) []) (name:ByteArray) (ao:Option ZQ) (c:Nat) (d:a9) (O:Bs w (.slice ao d.length c) d) (kc:d.length<=1500) (I:eA name) :
 ZR ZN 36 #[Z7 (ZW ⟨r,0,ZX⟩),Z0 name,.slice ao d.length c] w (L2 w r [] name d):=by
 obtain ⟨W,f0⟩:=h.cell;have N:=jG h ek name;obtain ⟨id,b,F,D,B⟩:=Ur Tryz.Su;obtain ⟨ib,ke,hq,hr,hs⟩:=Ur Tryz.SK;have h0:¬ name.size=0:=eT I.1
 have n0:¬ (name.size:Int)=0:=eb
 have n1:¬ (16:Int)<(name.size:Int):=eT I.2
 obtain ⟨n,E⟩:=nM (d.length);have J:=uV O;rw [E] at J kc ⊢;have n2:¬ (1500:Int)<(n:Int):=eb
 have u:r<w.heap.size:=T8 W;have f:=aE J h E;clear I h J O E;go_enter func36,ntmps36;go_wp2_with fail;refine N.mono ?_;rintro e w1 ⟨rfl,hf⟩;rcases hf with ⟨k,hk,_⟩|⟨rfl,_⟩
 . exact absurd hk ek
 clear N;go_wp2;go_loopw [8] (λi wr=>i=Z8 Z9 0/\wr=w1) (λ_ _=>0)
 case atStart=>exact ⟨rfl,rfl⟩
 case round=>
  obtain ⟨rfl,rfl⟩:=hrel;go_wp2_with (first
   | (at_builtin;refine af _ rfl (Z1 48) (Z1 49) 31 31 rfl wr.heap.size 5 ib (Z8 .u8 0) 1 1 Ui ke hq hr hs rfl (Z6 ZX 0 0) 0 [] rfl (UB _ _ _ _) _ rfl n (aJ d) f.out.1 eD eb lR ?_;intro vb w3 s g X;rw [Uc,Uk] at s;have y:bW wr w3:=⟨g.os,g.tape,g.output,g.size,λj C=>g.block j C vy⟩;have S:=(y.block r u).trans f.out.2.1.top;have c3:w3.cell? ⟨r,0,ZX⟩=ZW (Z6 ZX 0 0):=by simp [World.cell?,S]
      obtain ⟨K,M,rfl⟩:=bB s;have o:=au s y;clear s g X y S)
   | (at_builtin;refine af _ rfl (Z1 51) (Z1 57) 59 59 rfl wr.heap.size 79 id _ 2 40 UP b F D B rfl (Z6 ZX 0 0) 0 [] rfl (UB _ _ _ _) _ rfl 0 [] (Xm _ UP 0) eD eb o.out.2.size ?_;intro v4 x t l Y;rw [Uc,Uk] at t;have P:bW w3 x:=⟨l.os,l.tape,l.output,l.size,λj C=>l.block j C vy⟩
      obtain ⟨la,lc,rfl⟩:=bB t;have p:=au t P;clear t l Y P)
   | (at_builtin;refine af _ rfl (Z1 59) (Z1 63) 59 59 rfl wr.heap.size 79 id _ 2 40 UP b F D B rfl (.slice la 0 lc) 0 [] rfl (aB p.out.1 (bA x _)) _ rfl 1 [Z0 name,.slice K n M] (sC x name K n M) eD eb (TU o.out.2.size (TU p.out.2.size (bA x _).size)) ?_;intro v5 w5 G Q Z
      have kf:=mZ f.out.2.1 o.out.1 o.out.2 p.out.1 p.out.2 Q;obtain ⟨z,U⟩:=kf;have T:=(z.block r u).trans f.out.2.1.top;have c5:w5.cell? ⟨r,0,ZX⟩=ZW (Z6 ZX 0 0):=(by simp [World.cell?,T]);obtain ⟨ma,mc,rfl⟩:=bB G;have m:=aE G z U;clear G Q Z z U T)
   | (at_builtin;refine af _ rfl (Z1 65) (Z1 71) 59 59 rfl wr.heap.size 79 id _ 2 40 UP b F D B rfl (.slice ma 1 mc) 1 _ rfl m.out.1 _ rfl 0 [] (Xm _ UP 0) eD eb m.out.2.1.size ?_;intro v6 w6 H R ha
      have kg:=kU m.out.1 m.out.2.1 m.out.2.2 R;obtain ⟨A,V⟩:=kg;have v:=(A.block r u).trans f.out.2.1.top;have c6:w6.cell? ⟨r,0,ZX⟩=ZW (Z6 ZX 0 0):=(by simp [World.cell?,v]);have f6:w6.frozen? ⟨r,0,ZX⟩=ZU:=(by simp [World.frozen?,v]);obtain ⟨na,nc,rfl⟩:=bB H;have q:=a5 H A V v;clear H R ha A V v))
  all_goals (go_ret;exact py (a:=0) (L:=[]) f.out.2.2 rfl q.out.1 q.out.2.1 q.out.2.2.1 q.out.2.2.2 u)
def N9 (h:ru w r base v L) (t:L.length<=100000) (u:∀ o∈L,kD o.2) (name:ByteArray) (ao:Option ZQ) (c:Nat) (d:a9) (i:Bs w (.slice ao d.length c) d) (e:d.length<=1500) (f:eA name) (s:isNone L name) :
 ZR ZN 36 #[Z7 (ZW ⟨r,0,ZX⟩),Z0 name,.slice ao d.length c] w (L2 w r L name d):=by
 rcases h.shape with ⟨rfl,rfl⟩|⟨g,cap,rfl,y,n,m⟩
 . exact L4 h name ao c d i e f
 . have p:g<w.heap.size:=by
    rcases h.own.2 with ⟨q,_⟩|⟨l,a,cur,b,x,k,_⟩
    . cases q
    . have j:g=l:=by
       simp only [Vt,UC,XO] at b;exact b.1.1
      rw [j];exact (TW.1 k).1
   exact L3 h t u name ao c d i e f s m p n
def L5 {v L:Nat} {ps:aN} (h:aO w ar v p ps D L G t pg ob P xs A F) {n cnt pgn:Nat} (k:cnt=nV D n) (o:pgn=uN D (aG xs.os).length n) (c:(an xs.os).length+cnt+2*pgn+2<=A.nb) :
 ZR ZN 85 #[Z7 (ZW ⟨ar,0,ZX⟩),Z8 Z9 ((cnt:Int)+(pgn:Int))] w λe w'=>∃ g cap,e=Z4 (ZZ #[Z6 (ZW ⟨g,0,ZX⟩) (cnt+pgn) cap,Z3 ZV])/\w'.ownsRow w.heap.size 3 1 (Z6 (ZW ⟨g,0,ZX⟩) (cnt+pgn) cap) (cnt+pgn) (jJ ((aX (tk A.nb (P++an xs.os)).1 A.nb).take (cnt+pgn)))/\((aX (tk A.nb (P++an xs.os)).1 A.nb).take (cnt+pgn)).length=cnt+pgn/\cnt+pgn<=cap/\w.heap.size<=g/\g<w'.heap.size/\bW w w':=by
 have j:=EA h.RV (count:=cnt) (pages:=pgn) (l:=19+4*nV D n) o c;have:=h.nb;have:1<=cnt:=by rw [k];unfold nV;omega
 have a:=lZ h.R3 h.vol.vol h.vol.arr h.fit h.n0 P xs.os h.pgs.any h.cat.any (cnt+pgn) eb;rw [decide_eq_true j,YL] at a;have b:((aX (tk A.nb (P++an xs.os)).1 A.nb).take (cnt+pgn)).length=cnt+pgn:=KP
 rw [b] at a;refine a.mono ?_;rintro e w' ⟨u,rfl,ho,d⟩;rcases ho.2 with ⟨_,q⟩|⟨g,cap,cur,rfl,f,m,i,_⟩
 . omega
 . exact ⟨g,cap,rfl,ho,b,i,f,(TW.1 m).1,d⟩
def Ix {a b c:ZS} (h:ay w q e [a,b,c]):ay (((w.setCell ⟨q,0,ZX⟩ a').setCell ⟨q,1,ZX⟩ b').setCell ⟨q,2,ZX⟩ c') q e [a',b',c']:=
 ay.set h 0 [a',b',c'] ek
def Iy {a b c:ZS} (h:Below w7.drew.heap.size w7.drew w8):∃ q,Value.pointer (ZW ⟨w8.heap.size,0,ZX⟩)=Z7 (ZW ⟨q,0,ZX⟩)/\ay (w8.alloc (Z5 #[a,b,c] 130)) q 130 [a,b,c]/\w7.heap.size<=q/\bW w7 (w8.alloc (Z5 #[a,b,c] 130)):=by
 have d:bW w7 w8:=(TX _ w7).drew.trans h;exact ⟨_,rfl,UG w8 _,d.size,d.alloc d.size _⟩
def Iz {a b c:ZS} (h:Below (w7.drew.alloc (Z5 #[a',b',c'] 130)).heap.size (w7.drew.alloc (Z5 #[a',b',c'] 130)) w8) (f:ay w8 w7.heap.size 130 [a',b',c']):∃ q,Value.pointer (ZW ⟨w7.heap.size,0,ZX⟩)=Z7 (ZW ⟨q,0,ZX⟩)/\ay (((w8.setCell ⟨w7.heap.size,0,ZX⟩ a).setCell ⟨w7.heap.size,1,ZX⟩ b).setCell ⟨w7.heap.size,2,ZX⟩ c) q 130 [a,b,c]/\w7.heap.size<=q/\bW w7 (((w8.setCell ⟨w7.heap.size,0,ZX⟩ a).setCell ⟨w7.heap.size,1,ZX⟩ b).setCell ⟨w7.heap.size,2,ZX⟩ c):=by
 have d:bW w7 (w7.drew.alloc (Z5 #[a',b',c'] 130)):=(TX _ w7).drew.alloc lR _;have e:bW w7 w8:=d.trans (h.mono d.size);refine ⟨_,rfl,Ix f,TV _,?_⟩;exact WR (p:=⟨w7.heap.size,2,ZX⟩) (WR (p:=⟨w7.heap.size,1,ZX⟩) (WR (p:=⟨w7.heap.size,0,ZX⟩) e lR a) lR b) lR c
theorem Qw {v L:Nat} {ps:aN} (h:aO w ar v p ps D L G t pg ob P xs A F) (x:ByteArray) (b off c:Nat) (d:a9) (Y:∀ w',aa (F.has p A.n) w w'->Bs w' (Z6 (ZW ⟨b,off,ZX⟩) d.length c) d) (kh:d.length<c) (hx:de x=ZV) (qm:d.length<=1500) (hm:x∉xs.names) (M:(an xs.os).length+nV D d.length+2*uN D (aG xs.os).length d.length+2<=A.nb) :
 ZR ZN 78 #[Z7 (ZW ⟨ar,0,ZX⟩),Z0 x,Z6 (ZW ⟨b,off,ZX⟩) d.length c] w (LY w ar v p ps D L G t xs A F x d):=by
 obtain ⟨n,i⟩:=nM (d.length);have HD:=a5 Y i kh hm;have hn:n<=1500:=eb
 rw [i] at M ⊢;clear Y i kh qm;obtain ⟨_,_,_,_,c8⟩:=h.R3.cells;have kx:=h.find x;obtain ⟨k,o⟩:=nM (aI xs.names x);rw [o,h.Sr hm] at kx;have qn:=al o;have kv:=h.par.d1;have qk:=h.par.d;have qo:=h.packL_le;have qj:=sB kv hn;have q9:uN D (aG xs.os).length n<=1000000:=EJ kv eb;have qh:=h.SA.2.1;obtain ⟨len,hi⟩:=nM ((aG xs.os).length);obtain ⟨cnt,hf⟩:=nM (nV D n);obtain ⟨pgn,hj⟩:=nM (uN D len n);rw [hi] at q9 M qo;rw [hj] at q9 M;rw [hf] at qj M;have a:=a7 h hf hj hi M;clear o h hm hi hf hj M;go_enter func78,ntmps78;go_wp2_with fail;refine kx.mono ?_;rintro e w1 ⟨rfl,hb⟩;have H:=al hb;clear hb kx c8;go_wp2_with fail;refine (dg x w1).mono ?_;rintro e w2 ⟨rfl,rfl⟩;rw [hx];dsimp only;have T:=a.out.1.below H.out;obtain ⟨d0,_,d6,_,_⟩:=T.R3.cells;rw [a.out.2.2.2.1] at d6;have q2:=cG T.vol.vol eb;obtain ⟨q,hq⟩:=nM (D*44);rw [hq] at q2;have q1:=gk n q eb ⟨eb,eb⟩ w2;have q8:max 1 ((n+q-1)/q)=cnt:=by rw [<- a.out.2.1,<- hq];rfl
 rw [q8] at q1;have kz:=λW=>dY cnt eb W;obtain ⟨pk,hp⟩:=nM (19+4*cnt);have qa:∀ W,W.heap=w2.heap->ZR ZN 86 #[Z7 (ZW ⟨ar,0,ZX⟩),Z8 Z9 ((len:Int)+(pk:Int))] W λe w'=>e=Z4 (Z8 Z9 (pgn:Nat))/\w'=W:=λW hW=>by
  have:=gG (w:=W) (T.R3.keep (by rw [hW])) (T.vol.vol.keep (by rw [hW])) kv eb (len+(19+4*cnt)) eb;have e:YF D (len+(19+4*cnt))=pgn:=by rw [<- a.out.2.2.1,<- a.out.2.1];rfl
  rw [e,hp,YL] at this;exact this
 rw [hp] at kz;have qs:pk<=200:=eb
 have qy:IntKind.i64.wrap ((len:Int)+(pk:Int))=(len:Int)+(pk:Int):=iE
 have HP:=aE T kz qa;clear T kz qa q8 hq hp;go_wp2_with fail;refine q2.mono ?_;rintro e w3 ⟨rfl,rfl⟩;clear q2;go_wp2_with fail;refine q1.mono ?_;rintro e w4 ⟨rfl,rfl⟩;clear q1;go_wp2_with fail;go_quiet (first|(go_at_call 105;refine WX (HP.out.2.1 _))|(go_at_call 86;refine WX (HP.out.2.2 _ rfl)));have kr:bW w4 (w4.drewN nq):=⟨rfl,rfl,rfl,TV _,λ_ _=>rfl⟩;have J:=HP.out.1.below kr;have kk:=rH J.R3 J.vol.vol J.vol.arr J.fit J.n0 xs.os J.cat.any eb cnt pgn eb eb;have kg:decide ((an xs.os).length+cnt+2*pgn+2<=A.nb)=ZV:=decide_eq_true (a.out.2.2.2.2);rw [kg] at kk;have V:=au J (H.out.trans (kr.mono H.out.size));clear kr J kg d0 d6;obtain ⟨w5,qg⟩:=nM (w4.drewN nq);rw [qg] at kk V ⊢;clear qg;go_wp2_with fail;refine kk.mono ?_;rintro e w6 ⟨rfl,kp⟩;have ky:=V.out.1.below kp;have qf:=L5 ky (n:=n) (cnt:=cnt) (pgn:=pgn) a.out.2.1.symm (by rw [a.out.2.2.2.1];exact a.out.2.2.1.symm) a.out.2.2.2.2;have Q:=au ky (V.out.2.trans (kp.mono V.out.2.size));clear kp kk V ky;dsimp only;have qz:IntKind.i64.wrap ((cnt:Int)+(pgn:Int))=(cnt:Int)+(pgn:Int):=iE
 go_wp2_with fail;refine qf.mono ?_;rintro e w7 ⟨g,cap,rfl,U,l,qi,ki,kj,R⟩;have HT:=a8 U l ki kj R (Q.out.1.below R);clear qf U l ki kj R;have k1:cnt<=cap:=eb
 have k3:(cnt:Int)<=(cap:Int):=eb
 dsimp only;go_upto_region 15 with fail;have qp:1<=x.size/\x.size<=16:=by have:=hx;unfold de at this;exact of_decide_eq_true this
 have qd:=uD x w7.drew eb eb;have qe:=uD x (w7.drew.alloc (Z5 #[.string ⟨#[]⟩,Z8 Z9 0,Z6 ZX 0 0] 130)) eb eb;have q7:ay (w7.drew.alloc (Z5 #[.string ⟨#[]⟩,Z8 Z9 0,Z6 ZX 0 0] 130)) w7.heap.size 130 [.string ⟨#[]⟩,Z8 Z9 0,Z6 ZX 0 0]:=UG w7.drew _;have X:=aE qd qe q7;clear qd qe q7 qp;go_cut [13] from 72 to 80 (λqr wx=>∃ q,qr=Z7 (ZW ⟨q,0,ZX⟩)/\ay wx q 130 [Z0 x,Z8 Z9 (n:Nat),Z6 (ZW ⟨g,0,ZX⟩) cnt cnt]/\w7.heap.size<=q/\bW w7 wx)
 case first=>
  go_region_with (first
   | (go_at_call 107;refine X.out.1.mono ?_;rintro e w8 ⟨rfl,S⟩;have H8:=al S;clear S)
   | (go_at_call 107;refine X.out.2.1.mono ?_;rintro e w8 ⟨rfl,S⟩;have I:ay w8 w7.heap.size 130 [.string ⟨#[]⟩,Z8 Z9 0,Z6 ZX 0 0]:=X.out.2.2.keep (S.block _ X.out.2.2.lt);have z0:=I.cell (j:=0) (u:=.string ⟨#[]⟩) rfl;have z1:=I.cell (j:=1) (u:=Z8 Z9 0) rfl;have z2:=I.cell (j:=2) (u:=Z6 ZX 0 0) rfl;have y0:=I.R8 0;have y1:=I.R8 1;have y2:=I.R8 2;have H9:=au S I;clear S I))
  all_goals first
   | (go_wp2_with fail;go_meet;case rel=>exact Iy H8.out)
   | (go_wp2_with fail;go_meet;case rel=>exact Iz H9.out.1 H9.out.2)
 case rest=>
  obtain ⟨q,rfl,C,qv,Z⟩:=hcut;have x0:=C.cell (j:=0) (u:=Z0 x) rfl;have x1:=C.cell (j:=1) (u:=Z8 Z9 (n:Nat)) rfl;have x2:=C.cell (j:=2) (u:=Z6 (ZW ⟨g,0,ZX⟩) cnt cnt) rfl;obtain ⟨fr,K⟩:=nM ((aX (tk A.nb (P++an xs.os)).1 A.nb).take (cnt+pgn));rw [K] at HT;obtain ⟨U,l,ki,kj,R,m⟩:=HT.out;have f:=m.below Z;have he:bW w w7:=Q.out.2.trans (R.mono Q.out.2.size);have O:bW w wc:=he.trans (Z.mono he.size);have hh:ar<g/\¬ F.has p A.n g/\¬ ps.bl g:=⟨eT Q.out.1.R3.lt,λe=>eT (Q.out.1.vol.arr.RQ e),λe=>eT (ps.lt _ Q.out.1.kit _ e)⟩;have kf:¬ F.has p A.n q:=λe=>eT (m.vol.arr.RQ e)
  have qx:=m.nb;have q0:∀ c1,bp (λk=>ar<k/\¬ F.has p A.n k/\¬ ps.bl k) wc (Z6 (ZW ⟨g,0,ZX⟩) cnt c1) (fr.take cnt):=λc1=>(yA U l hh (eT a.out.2.2.2.2)).keep (dN.RN Z);have ke:∀ c1,bp (λk=>ar<k/\¬ F.has p A.n k/\¬ ps.bl k) wc (Z6 (ZW ⟨g,cnt,ZX⟩) pgn c1) (fr.drop cnt):=λc1=>(Is U l hh (eT a.out.2.2.2.2)).keep (dN.RN Z);have hs:(fr.take cnt).length=cnt:=by rw [Ud,l];omega
  have ko:=nS m.RV.nod m.RV.inb (cnt+pgn);rw [K] at ko;have B:=m.par;obtain ⟨Y,i,kh,hm⟩:=HD.out;have q5:=rP f.R3 f.vol f.free f.Si f.fit f.RV.n B.r B.d1 B.d B.l1 B.l4 B.g B.div B.s f.RV.wait f.RV.lost x _ (fr.take cnt) ((q0 cnt).TC λk o=>o.2.1) (λy hy=>(ko.2 y (UN _ (US hy))).2) b off c d (λw' hO=>Y w' ((aa.RO O _).trans hO)) eb kh (λk o=>by
   rw [hs,<- a.out.2.1] at o;rw [i];exact Cv B.d1 o)
  rw [hs,i] at q5;have H9:=hide10 f O C kf q0 ke l K m i;have qq:1<=pgn:=by rw [<- a.out.2.2.1];unfold uN pgs;omega
  clear C Z U l ki kj R m f he O hh kf q0 ke hs ko B Y i K HT X HP H qv;go_wp2_with fail;refine q5.mono ?_;rintro e E ⟨rfl,k8,N⟩;obtain ⟨f,O,C,kf,qc,qb,l,K,m,i⟩:=H9.out;have h8:ay E q 130 _:=C.keep (N.block _ C.lt kf);have x5:=h8.cell (j:=0) (u:=Z0 x) rfl;have x6:=h8.cell (j:=1) (u:=Z8 Z9 (n:Nat)) rfl;have x7:=h8.cell (j:=2) (u:=Z6 (ZW ⟨g,0,ZX⟩) cnt cnt) rfl;obtain ⟨_,_,_,_,y8⟩:=(f.R3.keep (N.block _ f.R3.lt f.Si)).cells;have q6:aa (F.has p A.n) w E.drew:=(aa.RO O _).trans (N.trans (aa.drew _));have km:dN (λk=>ar<k/\¬ F.has p A.n k/\¬ ps.bl k) wc E.drew:=⟨N.size,λk o hK=>N.block k o hK.2.1⟩;have ks:∀ z∈d,z<256:=by obtain ⟨_,_,_,_,_,q3,_⟩:=HD.out.1 w (aa.refl _ _);exact q3
  have h2:cH w E.drew ar v p ps D L G t pg ob P xs A F x d fr g cnt pgn (cap-cnt):=⟨a.out.1,q6,k8.keep λ_ _=>rfl,hx,HD.out.2.2.2,by rw [i];exact hn,ks,by rw [i];exact a.out.2.1.symm,by rw [i,a.out.2.2.2.1];exact a.out.2.2.1.symm,K.symm,l,a.out.2.2.2.2,(qc _).keep km,(qb _).keep km⟩;have q4:=LZ h2;rw [i,qn.out] at q4;have HR:=au q4 h2;clear q4 h2 h8 q6 km f O C kf qc qb l K m i k8 N q5 x0 x1 x2;have k4:¬ cap=cnt:=eb
  go_wp2_with fail;go_region_with (first
   | (go_at_call 109;refine HR.out.1.mono ?_;rintro e x3 ⟨u,rfl,k9,ka⟩;have HC:=al (EN HR.out.2 k9 ka);clear k9 ka)
   | (go_at_call 88;refine HC.out.mono ?_;rintro e x4 ⟨rfl,kc⟩;have HF:=al kc;clear kc))
  all_goals (go_wp2;go_ret;exact ⟨rfl,HF.out⟩)
section
def L6 (w:ZT) (ar v p:Nat) (ps:aN) (D L G t:Nat) (xs:bP) (A:aA) (F:aR) (k:Nat) (e:ZP) (w':ZT):Prop:=
 e=Z4 .nilIface/\∃ pg ob P' B,aO w' ar v p ps D L G (nx t) pg ob P' (xs.del k) B F/\B.n=A.n/\(B.nb=A.nb/\B.lost=A.lost/\B.reads=A.reads)/\aa (λk=>k=ar\/F.has p A.n k) w w'
section
variable {w:ZT} {ar v p D L G t:Nat} {ps:aN} {pg ob:ZS} {P:a9} {xs:bP} {A:aA} {F:aR}
def aO.S5 (h:aO w ar v p ps D L G t pg ob P xs A F) (k:Nat):(aG (xs.del k).os).length<=1000000:=TU (Ik xs k) h.packL_le
def Oa (h:aO w ar v p ps D L G t pg ob P xs A F) (k:Nat) {pgn:Nat} (f:pgn=pgs D (aG (xs.del k).os).length) :
 ZR ZN 85 #[Z7 (ZW ⟨ar,0,ZX⟩),Z8 Z9 (pgn:Nat)] w λe w'=>(∃ g cap,e=Z4 (ZZ #[Z6 (ZW ⟨g,0,ZX⟩) pgn cap,Z3 ZV])/\w'.ownsRow w.heap.size 3 1 (Z6 (ZW ⟨g,0,ZX⟩) pgn cap) pgn (jJ ((aX (tk A.nb (P++an xs.os)).1 A.nb).take pgn))/\((aX (tk A.nb (P++an xs.os)).1 A.nb).take pgn).length=pgn/\w.heap.size<=g/\g<w'.heap.size/\bW w w'/\pgn<=1000)\/∃ u,e=Z4 (ZZ #[u,Z3 ZU])/\bW w w':=by
 have:=h.nb;have:1<=pgn:=by rw [f];unfold pgs;omega
 have j:=EJ (D:=D) h.par.d1 (m:=(aG (xs.del k).os).length) (eT (h.S5 k));rw [<- f] at j;have a:=lZ h.R3 h.vol.vol h.vol.arr h.fit h.n0 P xs.os h.pgs.any h.cat.any pgn eb;by_cases d:pgn<=(aX (tk A.nb (P++an xs.os)).1 A.nb).length
 . rw [decide_eq_true d] at a;have c:((aX (tk A.nb (P++an xs.os)).1 A.nb).take pgn).length=pgn:=KP;rw [c] at a;have:=l9 h.RV.nod h.RV.inb;refine a.mono ?_;rintro e w' ⟨u,rfl,ho,b⟩;rcases ho.2 with ⟨_,n⟩|⟨g,cap,cur,rfl,i,l,s,_⟩
   . omega
   . exact .inl ⟨g,cap,rfl,ho,c,i,(TW.1 l).1,b,eb⟩
 . rw [decide_eq_false d] at a;refine a.mono ?_;rintro e w' ⟨u,rfl,ho,b⟩;exact .inr ⟨u,rfl,b⟩
def IA (h:aO w ar v p ps D L G t pg ob P xs A F) (k:Nat) {w2:ZT} {u:ZS} {pgn g cap:Nat} (T:pgn=pgs D (aG (xs.del k).os).length) (C:fa (λk=>ar<k/\¬ F.has p A.n k/\¬ ps.bl k) w2 u (xs.del k).os) (N:bW w w2)
 (I:bp (λk=>ar<k/\¬ F.has p A.n k/\¬ ps.bl k) w2 (Z6 (ZW ⟨g,0,ZX⟩) pgn cap) ((aX (tk A.nb (P++an xs.os)).1 A.nb).take pgn)) (i:((aX (tk A.nb (P++an xs.os)).1 A.nb).take pgn).length=pgn) :
 ZR ZN 88 #[Z7 (ZW ⟨ar,0,ZX⟩),u,Z6 (ZW ⟨g,0,ZX⟩) pgn cap] w2 (L6 w ar v p ps D L G t xs A F k):=by
 obtain ⟨oo,oc,rfl,hol,_⟩:=id C;have a:=h.par;have l:=h.RV;have z:=nS l.nod l.inb pgn;obtain ⟨fr,k5⟩:=nM ((aX (tk A.nb (P++an xs.os)).1 A.nb).take pgn);rw [k5] at I i z;have:1<=pgn:=by rw [T];unfold pgs;omega
 have Z:fr≠[]:=λe=>by rw [e] at i;simp at i;omega
 have K:∀ b∈fr,b<A.nb:=λb hz=>(z.2 b (UN _ hz)).2;have W:=h.S5 k;have S:fr.length=pgs D (aG (xs.del k).os).length:=by rw [i,T]
 have M:=mT xs k;have V:∀ o∈(xs.del k).os,o.fit:=λo ho=>by
  obtain ⟨y,hy,rfl⟩:=T1.1 ho;exact (l.fits y (M.subset hy)).fit
 have X:(xs.del k).os.length<=10000:=by
  have:=M.length_le;have e:(xs.del k).os.length=(xs.del k).length:=YZ
  have:=h.SA.1;have:xs.os.length=xs.length:=YZ
  omega
 have x:=h.below N;have O:=nP (w:=w2) x.R3 x.vol x.free x.Si x.fit l.n a.r a.d1 a.d a.l1 a.l4 a.g a.div a.s l.wait l.lost
  oo _ oc (aG (xs.del k).os) (uS _) W (uh C.any V X) g 0 cap fr (by rw [i];exact I.TC λk H=>H.2.1) Z K (λj Y=>Cu a.d1 (by rw [<- S];exact Y))
 rw [i] at O;refine O.mono ?_;rintro e w3 ⟨rfl,Q,hx,E⟩;rw [i] at Q;have J:aa (λk=>k=ar\/F.has p A.n k) w w3:=(aa.RO N _).trans E;have R:dN (λk=>ar<k/\¬ F.has p A.n k/\¬ ps.bl k) w2 w3:=⟨E.size,λk H hK=>E.block k H (λe=>e.elim (λq=>eT hK.1) hK.2.1)⟩;have k0:fr.getD 0 0<A.nb:=by
  rw [sy (by rw [i];omega)];exact K _ (T4 _)
 have k6:=uO (B:=A) (t:=nx t) (f:=fr.getD 0 0) (m:=(aG (xs.del k).os).length) h.fit a l.n (FC t) k0 eb fr (aG (xs.del k).os) pgn;have c:=jL A D L G fr (aG (xs.del k).os) pgn;have U:=LB (B:=(A.RT D L G fr (aG (xs.del k).os) pgn).putAt (YD A.n) 0 (λ_=>(bx.root D L G (nx t) (fr.getD 0 0) (aG (xs.del k).os).length).blk)) l k S z.1 z.2 c.1 c.2.1 c.2.2.1 c.2.2.2;exact ⟨rfl,_,_,fr,_,yw h hx Q J c.1 c.2.1 k6 U (I.keep R) (C.keep R),c.1,⟨c.2.1,c.2.2.2,nW _ _ _ _ _ _ _⟩,J⟩
end
theorem Oc {v L:Nat} {ps:aN} (h:aO w ar v p ps D L G t pg ob P xs A F) (x:ByteArray) (g:de x=ZU) :
 ZR ZN 57 #[Z7 (ZW ⟨ar,0,ZX⟩),Z0 x] w (mr w 6):=by
 obtain ⟨_,_,_,_,f⟩:=h.R3.cells;have a:=h.find x;obtain ⟨k,d⟩:=nM (aI xs.names x);obtain ⟨i,c⟩:=nM (mq xs.os x);rw [d,c] at a;clear d c h;go_enter func57,ntmps57;go_wp2_with fail;refine a.mono ?_;rintro e w1 ⟨rfl,b⟩;have H:=al b;clear b a f;go_wp2_with fail;refine (dg x w1).mono ?_;rintro e w2 ⟨rfl,rfl⟩;rw [g];dsimp only;go_wp2;go_ret;exact ⟨rfl,H.out⟩
theorem EO {v L:Nat} {ps:aN} (h:aO w ar v p ps D L G t pg ob P xs A F) (x:ByteArray) (g:de x=ZV) (f:x∉xs.names) :
 ZR ZN 57 #[Z7 (ZW ⟨ar,0,ZX⟩),Z0 x] w (mr w 9):=by
 obtain ⟨_,_,_,_,d⟩:=h.R3.cells;have a:=h.find x;obtain ⟨k,c⟩:=nM (aI xs.names x);rw [c,h.Sr f] at a;clear c h;go_enter func57,ntmps57;go_wp2_with fail;refine a.mono ?_;rintro e w1 ⟨rfl,b⟩;have H:=al b;clear b a d;go_wp2_with fail;refine (dg x w1).mono ?_;rintro e w2 ⟨rfl,rfl⟩;rw [g];dsimp only;go_wp2;go_ret;exact ⟨rfl,H.out⟩
theorem aak {v L:Nat} {ps:aN} (h:aO w ar v p ps D L G t pg ob P xs A F) (x:ByteArray) (hx:de x=ZV) (O:x∈xs.names) :
 ZR ZN 57 #[Z7 (ZW ⟨ar,0,ZX⟩),Z0 x] w λe w'=>L6 w ar v p ps D L G t xs A F (aI xs.names x) e w'\/mr w 10 e w':=by
 obtain ⟨_,_,_,_,c8⟩:=h.R3.cells;have M:=h.find x;have R:aI xs.names x<xs.os.length:=by
  obtain ⟨q,_⟩:=ur h.RV.up O;rwa [<- ea,bG] at q
 obtain ⟨k,N⟩:=nM (aI xs.names x);rw [N,h.there O] at M;rw [N] at R ⊢;obtain ⟨pgn,he⟩:=nM (pgs D (aG (xs.del k).os).length);obtain ⟨len,Z⟩:=nM ((aG (xs.del k).os).length);have f:=a5 h R he Z;clear N h O R he Z;go_enter func57,ntmps57;go_wp2_with fail;refine M.mono ?_;rintro e w1 ⟨rfl,hb⟩;have H:=al hb;clear hb M c8;go_wp2_with fail;refine (dg x w1).mono ?_;rintro e w2 ⟨rfl,rfl⟩;rw [hx];dsimp only;have i:=f.out.1.below H.out;obtain ⟨_,_,_,_,d8⟩:=i.R3.cells;have V:=uL i.cat (eT i.SA.1) (λj hj=>⟨eT i.R3.lt,λe=>eT (i.vol.arr.RQ e),λe=>eT (ps.lt _ i.kit _ e)⟩) f.out.2.1;rw [<- Lw] at V;have W:=al i;clear i;go_wp2_with fail;refine V.mono ?_;rintro e w3 ⟨u,rfl,I,J⟩;have B:=W.out.below J;have X:∀ o∈(xs.del k).os,o.fit:=λo ho=>by
  obtain ⟨y,hy,rfl⟩:=T1.1 ho;exact (B.RV.fits y ((mT xs k).subset hy)).fit
 have hc:(xs.del k).os.length<=10000:=by
  have h1:=(mT xs k).length_le;have e:(xs.del k).os.length=(xs.del k).length:=YZ
  have h4:=B.SA.1;have h5:xs.os.length=xs.length:=YZ
  omega
 have S:=ug I X hc;have kc:=B.S5 k;rw [f.out.2.2.2] at S kc;have r:=aE B I (H.out.trans (J.mono H.out.size));clear V I J B X hc d8 W;dsimp only;go_wp2_with fail;refine S.mono ?_;rintro e w4 ⟨rfl,C⟩;have c:=r.out.1.below C;have T:=gG c.R3 c.vol.vol c.par.d1 (eT c.par.d) len eb;have z:pgs D len=pgn:=by rw [<- f.out.2.2.2];exact f.out.2.2.1
 rw [z] at T;have U:=Oa c k f.out.2.2.1.symm;have l:bW w w4:=r.out.2.2.trans (C.mono r.out.2.2.size);have s:=aE c (r.out.2.1.keep (dN.RN C)) l;clear c C l z S r;dsimp only;go_wp2_with fail;refine T.mono ?_;rintro e hd ⟨rfl,rfl⟩;clear T;dsimp only;go_wp2_with fail;refine U.mono ?_;rintro e w5 (⟨g,cap,rfl,k8,Q,ka,kb,m,hq⟩|⟨u5,rfl,m⟩)
 . obtain ⟨c,k6,l⟩:=s.out;have Y:ar<g/\¬ F.has p A.n g/\¬ ps.bl g:=⟨eT c.R3.lt,λe=>eT (c.vol.arr.RQ e),λe=>eT (ps.lt _ c.kit _ e)⟩;have k9:bp (λk=>ar<k/\¬ F.has p A.n k/\¬ ps.bl k) w5 (Z6 (ZW ⟨g,0,ZX⟩) pgn cap) ((aX (tk A.nb (P++an xs.os)).1 A.nb).take pgn):=by
    have:=yA (K:=λk=>ar<k/\¬ F.has p A.n k/\¬ ps.bl k) (a:=pgn) (b:=0) (c1:=cap) k8 Q Y eb;rwa [UU eb] at this
   have k7:=IA f.out.1 k f.out.2.2.1.symm (k6.keep (dN.RN m)) (l.trans (m.mono l.size)) k9 Q;clear c k6 l Y hq k9 U k8 Q ka kb m s;dsimp only;go_wp2_with fail;refine k7.mono ?_;rintro e w6 ⟨rfl,hp⟩;have E:=al hp;clear hp k7;dsimp only;go_wp2;go_ret;exact .inl ⟨rfl,E.out⟩
 . have E:=al (s.out.2.2.trans (m.mono s.out.2.2.size));clear U m s;dsimp only;go_wp2;go_ret;exact .inr ⟨rfl,E.out⟩
end
section
open Go.ChangeShapes Go.WideShapes
abbrev uY:List (String×DataW Unit):=[("math/bits.deBruijn64tab",Rows.laid_math_bits_deBruijn64tab),("errors.errorType",Rows.laid_errors_errorType),("stripes/record.halves",Rows.laid_stripes_record_halves)]
def FX:List Int:=(YD 64).map λj=>((Lib.deBruijn64tab.getD j 0:Nat):Int)
def sD:List Int:=dI.map λ(x:Nat)=>(x:Int)
def Tryz.bt3:ZN.globalNamed "math/bits.deBruijn64tab"=ZW 1:=ei
def Tryz.TT:(ZN.globals[1]?).map (·.type)=ZW 39:=ei
def Tryz.TE:ZN.cellsOf 39=64:=ei
def Tryz.Tc:ZN.cellsOf 5=1:=ei
def Tryz.hv3:ZN.globalNamed "stripes/record.halves"=ZW 2:=ei
def Tryz.hv3Type:(ZN.globals[2]?).map (·.type)=ZW 313:=ei
def Tryz.TO:ZN.cellsOf 313=16:=ei
def Tryz.Tx:ZN.cellsOf 297=1:=ei
def IB:(Rows.laid_math_bits_deBruijn64tab:DataW Unit)=Lib.tabData .u8 FX:=l3
def L7:(Rows.laid_stripes_record_halves:DataW Unit)=Lib.tabData .u32 sD:=l3
def IC {P:Program} {x:String×DataW Unit} {r:List (String×DataW Unit)} (h:laidMet P (x::r) w):laidMet P r w:=by
 obtain ⟨ps,hv,c,a⟩:=h;obtain ⟨n,d⟩:=x;obtain ⟨g,t,cs,fuel,p,q,_,_,_,_,f,rfl⟩:=hv;exact ⟨q,f,YJ (abz _ _) c,λb off e=>a b off (Wn _ e)⟩
theorem CD {W:ZT} (h:laidMetH ZN uY W):bz W/\aK W/\aY W/\3<=W.heap.size:=by
 have d:laidMet ZN [("math/bits.deBruijn64tab",Rows.laid_math_bits_deBruijn64tab),("stripes/record.halves",Rows.laid_stripes_record_halves)] W/\handlesMet ZN [("errors.errorType",Rows.laid_errors_errorType)] W:=h;have l:bz W:=tD (show laidMetH ZN [("errors.errorType",Rows.laid_errors_errorType)] W from ⟨⟨[],rfl,List.nodup_nil,λb off k=>by cases k⟩,d.2⟩);have c:=d.1;have e:=IC c;rw [IB] at c;rw [L7] at e;have ht:=Lib.tabIs_of_head Tryz.bt3 Tryz.TT XI WO Tryz.Tc Tryz.TE c;have m:=Lib.tabIs_of_head Tryz.hv3 Tryz.hv3Type underlying313 underlying297 Tryz.Tx Tryz.TO e;have g:aK W:=λj a=>by
  have:=ht.cell Tryz.bt3 j (by simpa [FX] using a);rw [this];unfold FX;simp [a]
 have f:aY W:=λj a=>by
  have n:dI.length=16:=rfl;have:=m.cell Tryz.hv3 j (by unfold sD;rw [TZ,n];exact a);rw [this];unfold sD;congr 2;rw [T6,T6,Ul,T2 eb];rfl
 refine ⟨l,g,f,?_⟩;have o:=T8 (g 0 ec);have i:=T8 (f 0 ec);have p:2<W.heap.size:=i;omega
noncomputable def uZ (os:Os):ZT:=
 { World.holding ZN os ⟨#[],#[],[]⟩ with heap:=(((World.holding ZN os ⟨#[],#[],[]⟩).heap.modify 0 fun|Z5 _ t frozen=>Z5 #[.iface 148 (.agg #[Z7 (ZW ⟨3,42,ZX⟩)])] t frozen|o=>o).modify 1 fun|Z5 _ t frozen=>Z5 (FX.map λz=>Value.int .u8 z).toArray t frozen|o=>o).modify 2 fun|Z5 _ t frozen=>Z5 (sD.map λz=>Value.int .u32 z).toArray t frozen|o=>o }
def ve (os:Os) (args:Array ZS):laidMetH ZN uY ((uZ os).forCall (λ_ _=>0) ⟨#[],args,[]⟩).memory:=
 laidMetH_of_parts (laidMet_of_run' 8 ei ei) ei
def CE {H:Type} {enc:ZO×ZS->H} {P:Program} {spare:Nat->Bool} {held:Bool} {t0 t1 t2 t3 t4:ZO} {v0 v1 v2 v3 v4:ZS} {d0 d1 d2 d3 d4:DataW H} {p0 p1 p2 p3 p4:List MemPlace} (a:DataW.Trod enc P w base spare held t0 v0 d0 p0) (b:DataW.Trod enc P w base spare held t1 v1 d1 p1) (c:DataW.Trod enc P w base spare held t2 v2 d2 p2) (d:DataW.Trod enc P w base spare held t3 v3 d3 p3) (e:DataW.Trod enc P w base spare held t4 v4 d4 p4) :
 DataW.TrodAll enc P w base spare held [t0,t1,t2,t3,t4] [v0,v1,v2,v3,v4] [d0,d1,d2,d3,d4] (p0++(p1++(p2++(p3++p4)))):=⟨p0,p1++(p2++(p3++p4)),a,trodAll_mk4 b c d e,rfl⟩
end
