import Derived.Test.YthibhmemkhmocaaGreatDoorM03
import Derived.Defers
import Derived.Recover
import Derived.Deep.RegionHeld
import Derived.Deep.AppendSrc
set_option maxRecDepth 100000
set_option linter.all false
set_option maxHeartbeats 8000000
open Go.IntKind renaming i64 -> Z9, u64 -> Z8
open Go.Value renaming int -> Z7, pointer -> Z6, slice -> Z5, bool -> Z1, string -> ZZ, tuple -> ZY
open Go.Obj renaming cells -> Z4
open Go.Ending renaming returned -> Z3
open Go.Operand renaming tmp -> Z0
open Go renaming undef -> ZX, World -> ZS, Value -> ZR, Calls -> ZP, Oper -> ZO, TypeId -> ZN, Operand -> ZM
open Option renaming none -> ZW, some -> ZV
open Bool renaming true -> ZU, false -> ZT
open Go.RowKit renaming Below -> ZQ
open List renaming range -> YE, replicate -> YG, length -> YK
open Exists renaming intro -> YF
open Array renaming replicate -> YH
open Nat renaming reduceAdd -> YI, reduceSub -> YJ, le_succ_of_le -> YM
open Option renaming toList_some -> YL
open Go.Proofs.Tryz renaming prog -> ZL
open Go.Proofs.Tryz
namespace Go.Proofs.YthibhmemkhmocaaGreatDoor
def WL:=@List.flatMap_append
def VE:=@List.flatMap_cons
def aa8:=@List.prefix_append_right_inj
def Vs:=@Go.Value.slice.injEq
def aa9:=@List.length_singleton
def aba:=@Go.KeepsOthers.of_grownBy
def Yd:=@List.length_eq_zero_iff
def XG:=@Nat.add_mul
def aaH:=@Go.heap_alloc_new
def Ye:=@List.take_left
def WM:=@Go.Proofs.Tryz.underlying3
def Vi:=@Go.Src.ofSlice
def abb:=@List.flatten_append
def aaI:=@Go.heap_setCell_same
def XH:=@Go.Proofs.Tryz.underlying332
def Yf:=@Go.wpListIn_plain
def XI:=@Nat.le_succ
def Yg:=@Go.KeepsFrom.refl
def VF:=@List.getElem?_take_of_lt
def abc:=@Array.getElem?_toList
def XJ:=@Int.tdiv_eq_ediv_of_nonneg
def aaJ:=@Int.tmod_eq_emod_of_nonneg
def Wn:=@Bool.eq_false_iff
end Go.Proofs.YthibhmemkhmocaaGreatDoor
namespace Go.Proofs.YthibhmemkhmocaaGreatDoor
open Go.RowKit Go.Deep Go.Shelf Gf
variable {a:Act} {ops:Array ZO} {cs:Array ZR} {C C':Ck} {rec:Ck->Nat->Nat->b8->b8} {Q:Exit->Act->ZS->Prop} {F:Fence} {room:Int} {M:List (Nat×Nat)} {l dl:a8} {rest:List ZO} {pre:List Sh} {sb b c k D L t n ar D' L' G' t' f' n' p ps ho base g B i r N m gone sp h of q Bl d n0 nb:Nat} {G:Nat->Nat} {K:Nat->Prop} {f:Nat->ZR} {o:ZO} {P:Program} {s sx:b8} {J:b8->ZS->Prop} {e:ZN} {v pg ob:ZR} {w w' W W' X wr:ZS}
theorem tB (p:Addr) (w:ZS):CallsD ZL 106 #[Z6 (ZV p)] .returning w λe u' w'=>e=Z3 (ZY #[])/\u'=.returning/\w'=w:=by
 refine callsD_of_wpS func106 rfl λa cs f=>?_;have g:∀ w,(binOp .eql 20 .nilIface .nilIface).run ZL w=.ok (Z1 ZU) w:=λw=>by
  have b:∀ d,(Op.equalIn (d+1) 20 .nilIface .nilIface).run ZL w=.ok ZU w:=λd=>by
   simp only [Op.equalIn,UE,UL underlying20,UQ];rfl
  have c:=b 9999;simp only [binOp];simp [Op.equal,Op.maxDepth,c]
 apply wpS_seq;apply wpS_region;generalize hN:Code.wpS ZL _ _=N;simp [wpOpsS,go_sem,recoverD,f,ntmps106,Exit.thenS];rw [<- hN];clear hN;refine wpS_of_wp ?_;simp only [Ve,Vf,Vg,Uq,UX,TX,TY,TZ,Vh];go_wp2;cases a;simp_all [bodyPostS,results,results106]
def isErr (v:ZR):Prop:=v=.nilIface\/∃ t u,v=.iface t u
def mL (D L G:Int) (lost:Int) (reading:Bool) (regs:Int) (steps:ZR) (n o:ZR):Array ZR:=#[Z7 Z9 D,Z7 Z9 L,Z7 Z9 G,Z7 Z8 lost,Z1 reading,Z7 Z9 regs,steps,n,o]
structure py (w:ZS) (sb:Nat) (room:Int):Prop where
 ends:w.heap[sb]?=ZV (Z4 (mL 0 0 0 0 ZT 0 (Z5 ZW 0 0) (Z6 (ZV ⟨sb,0,ZW⟩)) (Z6 (ZV ⟨sb,0,ZW⟩))) 261 (0,0))
 map:∃ n,w.heap[sb+1]?=ZV (.map #[] n)
 list:w.heap[sb+1+1]?=ZV (Z4 #[Z7 Z9 room,.map (ZV (sb+1)),Z6 (ZV ⟨sb,0,ZW⟩)] 264 (0,0))
 RZ:w.heap[sb+1+1+1]?=ZV (Z4 #[Z6 (ZV ⟨sb+1+1,0,ZW⟩)] 223 (0,0))
def py.lt (h:py w sb room):sb+1+1+1<w.heap.size:=(T5.1 h.RZ).1
def py.keep (h:py w sb room) (a:∀ k,sb<=k->k<=sb+1+1+1->w'.heap[k]?=w.heap[k]?):py w' sb room:=
 ⟨(a _ (by omega) (by omega)).trans h.ends,h.map.imp λ_ q=>(a _ (by omega) (by omega)).trans q,(a _ (by omega) (by omega)).trans h.list,(a _ (by omega) (by omega)).trans h.RZ⟩
def py.below (h:py w sb room) (a:bW w w'):py w' sb room:=h.keep λk _ b=>a.block k (by have:=h.lt;omega)
def mM (w:ZS) (a b c:Obj):(((w.alloc a).alloc b).alloc c).heap[w.heap.size]?=ZV a/\(((w.alloc a).alloc b).alloc c).heap[w.heap.size+1]?=ZV b/\(((w.alloc a).alloc b).alloc c).heap[w.heap.size+1+1]?=ZV c:=by
 refine ⟨(UB _ _ _ (by simp;omega)).trans ((UB _ _ _ (by simp)).trans (Ug _ _)),(UB _ _ _ (by simp)).trans ?_,?_⟩
 . have:=Ug (w.alloc a) b;rwa [Ul] at this
 . have:=Ug ((w.alloc a).alloc b) c;rwa [Ul,Ul] at this
structure aam (w:ZS) (sb:Nat) (room:Int):Prop where
 ends:w.heap[sb]?=ZV (Z4 (mL 0 0 0 0 ZT 0 (Z5 ZW 0 0) (Z6 (ZV ⟨sb,0,ZW⟩)) (Z6 (ZV ⟨sb,0,ZW⟩))) 261 (0,0))
 map:∃ n,w.heap[sb+1]?=ZV (.map #[] n)
 list:w.heap[sb+1+1]?=ZV (Z4 #[Z7 Z9 room,.map (ZV (sb+1)),Z6 (ZV ⟨sb,0,ZW⟩)] 264 (0,0))
theorem vL (n:Int) (w:ZS):ZP ZL 119 #[Z7 Z9 n] w λe w'=>e=Z3 (Z6 (ZV ⟨w.heap.size+1+1,0,ZW⟩))/\aam w' w.heap.size n/\w'.heap.size=w.heap.size+1+1+1/\bW w w':=by
 have i:∀ w,(Instr.makeMap 262 ZW).run ZL w=.ok (.map (ZV w.heap.size)) (w.alloc (.map #[] 0)):=λ_=>rfl;have a:∀ b c d:Obj,bW w (((w.alloc b).alloc c).alloc d):=λb c d=>((bA w _).alloc (by simp) _).alloc (by simp;omega) _;have H:=ak a;clear a;go_enter func119,ntmps119;go_wp2;go_ret;obtain ⟨f,g,h⟩:=mM w (Z4 (mL 0 0 0 0 ZT 0 (Z5 ZW 0 0) (Z6 (ZV ⟨w.heap.size,0,ZW⟩)) (Z6 (ZV ⟨w.heap.size,0,ZW⟩))) 261) (.map #[] 0) (Z4 #[Z7 Z9 n,.map (ZV (w.heap.size+1)),Z6 (ZV ⟨w.heap.size,0,ZW⟩)] 264);exact ⟨rfl,⟨f,⟨0,g⟩,h⟩,by simp,H.o _ _ _⟩
theorem zB (n:Int) (w:ZS):ZP ZL 88 #[Z7 Z9 n] w λe w'=>∃ b,e=Z3 (Z6 (ZV ⟨b+1+1+1,0,ZW⟩))/\w.heap.size<=b/\py w' b n/\bW w w':=by
 go_enter func88,ntmps88;go_wp2_with fail;refine (vL n w).mono ?_;rintro e w1 ⟨rfl,a,d,c⟩;have H:=aE c a d;have g:=c.size;clear c a d;go_wp2;go_ret;obtain ⟨c,a,d⟩:=H.o;have f:bW w1 (w1.alloc (Z4 #[Z6 (ZV ⟨w.heap.size+1+1,0,ZW⟩)] 223)):=bA w1 _;refine ⟨w.heap.size,by rw [d];rfl,TU _,⟨(f.block _ (by omega)).trans a.ends,a.map.imp λ_ q=>(f.block _ (by omega)).trans q,(f.block _ (by omega)).trans a.list,?_⟩,c.trans (f.mono g)⟩;have:=Ug w1 (Z4 #[Z6 (ZV ⟨w.heap.size+1+1,0,ZW⟩)] 223);rwa [d] at this
theorem DY (p D L G:Nat) (n:Int) (w:ZS):ZP ZL 67 #[Z6 (ZV ⟨p,0,ZW⟩),.agg #[Z7 Z9 D,Z7 Z9 L,Z7 Z9 G],Z7 Z9 n] w λe w'=>∃ v b,e=Z3 (Z6 (ZV ⟨v,0,ZW⟩))/\w.heap.size<=v/\bg w' v p D L G (b+1+1+1) 0/\(w.heap.size<=b/\b+1+1+1<v/\py w' b n)/\bW w w':=by
 obtain ⟨w1,l⟩:=nM (w.alloc (Z4 #[Z7 Z9 (D:Int),Z7 Z9 (L:Int),Z7 Z9 (G:Int)] 27));have d:w1.heap[w.heap.size]?=ZV (Z4 #[Z7 Z9 (D:Int),Z7 Z9 (L:Int),Z7 Z9 (G:Int)] 27 (0,0)):=by rw [<- l];exact Ug w (Z4 #[Z7 Z9 (D:Int),Z7 Z9 (L:Int),Z7 Z9 (G:Int)] 27)
 have k:bW w w1:=by rw [<- l];exact bA w _
 have c0:w1.cell? ⟨w.heap.size,0,ZW⟩=ZV (Z7 Z9 (D:Int)):=by simp [World.cell?,d]
 have c1:w1.cell? ⟨w.heap.size,1,ZW⟩=ZV (Z7 Z9 (L:Int)):=by simp [World.cell?,d]
 have q:w1.cell? ⟨w.heap.size,2,ZW⟩=ZV (Z7 Z9 (G:Int)):=by simp [World.cell?,d]
 have H:=al d k;clear d k;go_enter func67,ntmps67;go_wp2_with fail;go_region_with (go_at_call 88;refine (zB n _).mono ?_;rintro e w2 ⟨b,rfl,g,c,a⟩;have f:=(a.block _ (T5.1 H.o.1).1).trans H.o.1;have r:w2.cell? ⟨w.heap.size,0,ZW⟩=ZV (Z7 Z9 (D:Int)):=(by simp [World.cell?,f]);have d1:w2.cell? ⟨w.heap.size,1,ZW⟩=ZV (Z7 Z9 (L:Int)):=(by simp [World.cell?,f]);have s:w2.cell? ⟨w.heap.size,2,ZW⟩=ZV (Z7 Z9 (G:Int)):=(by simp [World.cell?,f]);have m:=aE g c a;clear g c a f);all_goals (
  go_wp2;go_ret;obtain ⟨g,c,a⟩:=m.o;have h:=H.o.2.size;have t:w1.heap.size<=w2.heap.size:=a.size;have j:=(TW _ w2).alloc lR (Z4 #[Z6 (ZV ⟨p,0,ZW⟩),Z7 Z9 D,Z7 Z9 L,Z7 Z9 G,Z6 (ZV ⟨b+1+1+1,0,ZW⟩),Z7 Z8 0] 139);have i:bW w w2:=H.o.2.drew.trans (a.mono h);exact ⟨_,b,rfl,by omega,Ug _ _,⟨TV h g,c.lt,c.below j⟩,i.trans (j.mono i.size)⟩)
def jE (v D L G t f n:Nat) (pg ob:ZR) (off:Bool):Array ZR:=#[Z6 (ZV ⟨v,0,ZW⟩),Z7 Z9 D,Z7 Z9 L,Z7 Z9 G,Z7 Z8 t,Z7 Z9 f,Z7 Z9 n,pg,ob,Z1 off]
def a9 (w:ZS) (a v D L G t f n:Nat) (pg ob:ZR) (off:Bool):Prop:=w.heap[a]?=ZV (Z4 (jE v D L G t f n pg ob off) 146 (0,0))
def mN (v:ZR):Prop:=v=.nilIface\/∃ n:Int,n≠13/\v=.iface 66 (Z7 Z9 n)
def mN.isErr (h:mN v):isErr v:=by
 rcases h with h|⟨n,_,h⟩
 . exact .inl h
 . exact .inr ⟨_,_,h⟩
section
attribute [local go_sem] Oper.semAt_some
def Nm (w:ZS) (b:Nat):Prop:=∃ cs T z,w.heap[b]?=ZV (Z4 cs T z)/\T≠82
def Nm.lt (h:Nm w b):b<w.heap.size:=by
 obtain ⟨cs,T,z,h,_⟩:=h;exact (T5.1 h).1
def Nm.keep (h:Nm w b) (c:w'.heap[b]?=w.heap[b]?):Nm w' b:=by
 obtain ⟨cs,T,z,h,a⟩:=h;exact ⟨cs,T,z,c.trans h,a⟩
def bf (K:Nat->Prop) (w:ZS) (v:ZR) (l:a8):Prop:=
 ∃ ao c,v=.slice ao l.length c/\l.length<=1000000/\(l≠[]->∃ b off,ao=ZV ⟨b,off,ZW⟩/\K b/\Nm w b/\∀ i (hi:i<l.length),w.cell? ⟨b,off+i,ZW⟩=ZV (Z7 Z9 ((l[i]:Nat):Int)))
structure Ob where
 name:ByteArray
 size:Nat
 RK:a8
def eO (K:Nat->Prop) (w:ZS) (v:ZR) (os:List Ob):Prop:=
 ∃ ao c,v=.slice ao os.length c/\os.length<=1000000/\(os≠[]->∃ b off,ao=ZV ⟨b,off,ZW⟩/\K b/\Nm w b/\∀ i (hi:i<os.length),∃ sv,
  w.cell? ⟨b,off+i*3,ZW⟩=ZV (ZZ os[i].name)/\w.cell? ⟨b,off+i*3+1,ZW⟩=ZV (Z7 Z9 (os[i].size:Nat))/\w.cell? ⟨b,off+i*3+2,ZW⟩=ZV sv/\bf K w sv os[i].RK)
def eo (K:Nat->Prop) (w w':ZS):Prop:=w.heap.size<=w'.heap.size/\∀ k,k<w.heap.size->K k->w'.heap[k]?=w.heap[k]?
def eo.refl (K:Nat->Prop) (w:ZS):eo K w w:=⟨TU _,λ_ _ _=>rfl⟩
def eo.trans {a b c:ZS} (h:eo K a b) (k:eo K b c):eo K a c:=⟨TV h.1 k.1,λi d e=>(k.2 i (T7 d h.1) e).trans (h.2 i d e)⟩
def eo.RM (h:bW w w'):eo K w w':=⟨h.size,λk a _=>h.block k a⟩
def bf.Sy (h:bf K w v l) (e:∀ k,Nm w k->K k->w'.heap[k]?=w.heap[k]?):bf K w' v l:=by
 obtain ⟨ao,c,f,g,j⟩:=h;refine ⟨ao,c,f,g,λhl=>?_⟩;obtain ⟨b,off,n,a,d,o⟩:=j hl;exact ⟨b,off,n,a,d.keep (e b d a),λi m=>(Uk (e b d a)).trans (o i m)⟩
def eO.Sy {os:List Ob} (h:eO K w v os) (d:∀ k,Nm w k->K k->w'.heap[k]?=w.heap[k]?):eO K w' v os:=by
 obtain ⟨ao,c,g,j,l⟩:=h;refine ⟨ao,c,g,j,λhl=>?_⟩;obtain ⟨b,off,n,e,f,o⟩:=l hl;refine ⟨b,off,n,e,f.keep (d b f e),λi m=>?_⟩;obtain ⟨sv,p,q,r,s⟩:=o i m;have a:=d b f e;exact ⟨sv,(Uk a).trans p,(Uk a).trans q,(Uk a).trans r,s.Sy d⟩
def bf.keep (h:bf K w v l) (a:eo K w w'):bf K w' v l:=h.Sy λk q=>a.2 k q.lt
def eO.keep {os:List Ob} (h:eO K w v os) (a:eo K w w'):eO K w' v os:=h.Sy λk q=>a.2 k q.lt
def bf.nil (K:Nat->Prop) (w:ZS):bf K w (Z5 ZW 0 0) []:=⟨ZW,0,rfl,by decide,λh=>absurd rfl h⟩
def eO.nil (K:Nat->Prop) (w:ZS):eO K w (Z5 ZW 0 0) []:=⟨ZW,0,rfl,by decide,λh=>absurd rfl h⟩
def af (os:List Ob):a8:=os.flatMap (·.RK)
def DZ (os:List Ob) (k:Nat) (a:k<os.length):af (os.take (k+1))=af (os.take k)++os[k].RK:=by
 have e:os.take (k+1)=os.take k++[os[k]]:=by rw [Vd,Uc a];rfl
 rw [e];unfold af;rw [WL];simp
def m7 (x:Nat):Array ZR:=#[Z7 Z9 (x:Int)]
def BC {os:List Ob} (m:Nat) (b:k<os.length):af (os.take k)++(os[k].RK).take m<+:af os:=by
 have a:af os=af (os.take k)++(os[k].RK++af (os.drop (k+1))):=by
  have e:af (os.take k++os[k]::os.drop (k+1))=af (os.take k)++(os[k].RK++af (os.drop (k+1))):=by unfold af;rw [WL,VE]
  rwa [<- XZ b,Wh] at e
 rw [a];refine (aa8 _).2 ?_;exact (List.take_prefix m _).trans (XQ _ _)
theorem lu (K:Nat->Prop) (n l b1:Nat) (v:ZR) (os:List Ob) (J V:a8->ZS->Prop) (k6:∀ pre A B,J pre A->bW A B->J pre B)
 (G:a8) (hY:∀ pre x W,J pre W->pre++[x]<+:G->YieldAt Fence.wide (n-1) ZL l (m7 x) W λe W'=>(e=Z3 (Z1 ZU)/\J (pre++[x]) W'/\eo K W W')\/(e=Z3 (Z1 ZT)/\V (pre++[x]) W'))
 (a:a8) (k7:a++af os<+:G) (W:ZS) (L:W.cell? ⟨b1,0,ZW⟩=ZV v) (N:eO K W v os) (X:J a W) :
 CallsIn Fence.wide n ZL 144 #[.func (.yield l) #[] #[],Z6 (ZV ⟨b1,0,ZW⟩)] W λe W'=>(∃ v,e=Z3 v) /\
  ((J (a++af os) W')\/(∃ pre,pre<+:af os/\V (a++pre) W')):=by
 obtain ⟨ao,c,rfl,ka,t⟩:=id N;refine Xl func144 rfl trivial ?_ rfl;simp only [ntmps144,UH,UA,UT,YI,YJ,Ve,Vf,Vg,Vh,Uq,UX];have U:=al N X;clear N X t;gi_wp2;gi_loopw [9] (λp wr=>∃ k:Nat,p=Z7 Z9 (k:Nat)/\k<=os.length/\J (a++af (os.take k)) wr/\eO K wr (.slice ao os.length c) os)
  (λp _=>os.length-(intOf p).toNat)
 case atStart=>
  exact ⟨0,rfl,T8 _,by simpa [af] using U.o.2,U.o.1⟩
 case round=>
  obtain ⟨k,rfl,hk,r,z⟩:=hrel;by_cases g:k<os.length
  . obtain ⟨hd,c',j,_,t⟩:=id z;obtain ⟨b,off,I,kg,kh,hx⟩:=t (λe=>by rw [e] at g;simp at g);simp only [Vs] at j;obtain ⟨rfl,_,rfl⟩:=j;subst I;obtain ⟨sv,r1,r2,r3,F⟩:=hx k g;obtain ⟨so,sc,rfl,kc,s⟩:=id F;obtain ⟨st,R⟩:=nM (os[k].RK);obtain ⟨NN,Z⟩:=nM (os.length);obtain ⟨nm,hz⟩:=nM (os[k].name);obtain ⟨sz,k5⟩:=nM (((os[k].size:Nat):Int));rw [R] at r3 F kc s;rw [hz] at r1;rw [k5] at r2;have H:=a6 r z F R Z;clear r z t hx F s R Z hz k5;gi_wp2;obtain ⟨wx,S⟩:=nM (wr.alloc (Z4 #[ZZ nm,Z7 Z9 sz,.slice so st.length sc] 152));have D:bW wr wx:=(by rw [<- S];exact bA wr _);rw [S];clear S;have hv:=k6 _ _ _ H.o.1 D;have hr:=H.o.2.1.keep (eo.RM D);have hs:=H.o.2.2.1.keep (eo.RM D);gi_loopw [16] (λp T=>∃ m:Nat,p=Z7 Z9 (m:Nat)/\m<=st.length/\J (a++(af (os.take k)++st.take m)) T/\eO K T (Z5 (ZV ⟨b,off,ZW⟩) os.length c) os/\bf K T (.slice so st.length sc) st)
     (λp _=>st.length-(intOf p).toNat)
    case atStart=>
     exact ⟨0,rfl,T8 _,by simpa using hv,hr,hs⟩
    case round=>
     clear hv hr hs D;obtain ⟨m,rfl,hm,f,w,C⟩:=hrel;by_cases q:m<st.length
     . obtain ⟨kj,ki,j,_,s⟩:=id C;obtain ⟨b2,hb,I,kf,k8,Y⟩:=s (λe=>by rw [e] at q;simp at q);simp only [Vs] at j;obtain ⟨rfl,_,rfl⟩:=j;subst I;have g1:=Y m q;obtain ⟨y,E⟩:=nM (st[m]);rw [E] at g1;have k0:(a++(af (os.take k)++st.take m))++[y]<+:G:=by
        have L:=BC (os:=os) (m+1) g;rw [H.o.2.2.2.1,Vd,Uc q,E] at L;have h2:=((aa8 a).2 L).trans k7;simpa using h2
       obtain ⟨fn,tmps,assign,body,ke,hR⟩:=hY _ y _ f k0;clear k0;unfold m7 at ke;have d:=a6 f w C hR E;clear f w C hR s Y E;gi_wp2;refine ⟨λh=>(by cases h),d.o.2.2.2.1.mono ?_⟩;have u:a++(af (os.take k)++st.take m)++[y]=a++(af (os.take k)++st.take (m+1)):=by
        have e:st.take (m+1)=st.take m++[y]:=(by rw [Vd,Uc q,d.o.2.2.2.2];rfl);rw [e];simp
       rintro e W3 (⟨rfl,P,Q⟩|⟨rfl,M⟩)
       . rw [u] at P;have i:=aE P (d.o.2.1.keep Q) (d.o.2.2.1.keep Q);clear P Q u;gi_wp2;go_roundw
         case rel=>exact ⟨m+1,by go_num,by omega,i.o.1,i.o.2.1,i.o.2.2⟩
         case measure=>simp only [intOf];omega
       . rw [u] at M;have i:=ak M;clear M u;gi_wp2;refine Us (XC rfl _ _ _) rfl ?_;have hp:=BC (os:=os) (m+1) g;rw [H.o.2.2.2.1] at hp;exact ⟨⟨_,rfl⟩,.inr ⟨_,hp,i.o⟩⟩
     . have kb:m=st.length:=(by omega);subst kb;rw [Vu] at f;have O:=DZ os k g;rw [H.o.2.2.2.1] at O;rw [<- O] at f;have d:=al f w;clear f w C O;gi_wp2;go_roundw
       case rel=>exact ⟨k+1,by go_num,by omega,d.o.1,d.o.2⟩
       case measure=>simp only [intOf];omega
  . have k9:k=os.length:=(by omega);subst k9;rw [Vu] at r;have HJ:=ak r;clear r z;gi_wp2;go_end0
    exact ⟨⟨_,rfl⟩,.inl HJ.o⟩
def Kq {α:Type} {pre l:List α} {x:α} (h:pre++[x]<+:l):pre.length<l.length:=by
 have:=h.length_le;rw [Ua,aa9] at this;omega
def tC (K:Nat->Prop) (n l b1:Nat) (v:ZR) (os:List Ob) (J b:a8->ZS->Prop) (f:∀ pre A B,J pre A->bW A B->J pre B)
 (N:Nat) (i:∀ pre x W,J pre W->pre.length<N->YieldAt Fence.wide (n-1) ZL l (m7 x) W λe W'=>(e=Z3 (Z1 ZU)/\J (pre++[x]) W'/\eo K W W')\/(e=Z3 (Z1 ZT)/\b (pre++[x]) W'))
 (a:a8) (k:a.length+(af os).length<=N) (W:ZS) (d:W.cell? ⟨b1,0,ZW⟩=ZV v) (g:eO K W v os) (c:J a W) :
 CallsIn Fence.wide n ZL 144 #[.func (.yield l) #[] #[],Z6 (ZV ⟨b1,0,ZW⟩)] W λe W'=>(∃ v,e=Z3 v) /\
  ((J (a++af os) W')\/(∃ pre,pre<+:af os/\b (a++pre) W')):=
 lu K n l b1 v os J b f (a++af os) (λpre x W h j=>i pre x W h (by have:=Kq j;rw [Ua] at this;omega)) a (List.prefix_refl _) W d g c
end
def a9.cells {a v G f:Nat} {off:Bool} (h:a9 w a v D L G t f n pg ob off):w.cell? ⟨a,0,ZW⟩=ZV (Z6 (ZV ⟨v,0,ZW⟩))/\w.cell? ⟨a,4,ZW⟩=ZV (Z7 Z8 t)/\w.cell? ⟨a,6,ZW⟩=ZV (Z7 Z9 n)/\w.cell? ⟨a,7,ZW⟩=ZV pg/\w.cell? ⟨a,8,ZW⟩=ZV ob:=by
 have b:w.heap[a]?=ZV (Z4 (jE v D L G t f n pg ob off) 146 (0,0)):=h;simp [World.cell?,b,jE]
def a9.keep {v:Nat} {off:Bool} (h:a9 w ar v D' L' G' t' f' n' pg ob off) (e:w'.heap[ar]?=w.heap[ar]?):a9 w' ar v D' L' G' t' f' n' pg ob off:=Eq.trans e h
def a9.lt {v:Nat} {off:Bool} (h:a9 w ar v D' L' G' t' f' n' pg ob off):ar<w.heap.size:=(T5.1 h).1
theorem fJ {v G:Nat} (h:bg w v p D L G ps ho):ZP ZL 77 #[Z6 (ZV ⟨v,0,ZW⟩)] w λe w'=>e=Z3 (.agg #[Z7 Z9 D,Z7 Z9 L,Z7 Z9 G])/\bW w w'/\w'.heap.size=w.heap.size+1/\w'.heap[w.heap.size]?=ZV (Z4 #[Z7 Z9 D,Z7 Z9 L,Z7 Z9 G] 27 (0,0)):=by
 have q:=h.lt;have f:bg (w.alloc (Z4 #[Z7 Z9 0,Z7 Z9 0,Z7 Z9 0] 27)) v p D L G ps ho:=h.keep (UB _ _ _ q);obtain ⟨c0,c1,l,m,n⟩:=f.cells;have c:bW w (w.alloc (Z4 #[Z7 Z9 0,Z7 Z9 0,Z7 Z9 0] 27)):=bA w _;have a:=Ug w (Z4 #[Z7 Z9 0,Z7 Z9 0,Z7 Z9 0] 27);obtain ⟨w1,d⟩:=nM (w.alloc (Z4 #[Z7 Z9 0,Z7 Z9 0,Z7 Z9 0] 27));rw [d] at c0 c1 l m n c a;have u:w1.cell? ⟨w.heap.size,0,ZW⟩=ZV (Z7 Z9 0):=by simp [World.cell?,a]
 have x:w1.cell? ⟨w.heap.size,1,ZW⟩=ZV (Z7 Z9 0):=by simp [World.cell?,a]
 have y:w1.cell? ⟨w.heap.size,2,ZW⟩=ZV (Z7 Z9 0):=by simp [World.cell?,a]
 have b:∀ k,w1.frozen? ⟨w.heap.size,k,ZW⟩=ZT:=λk=>by simp [World.frozen?,a]
 have r:=b 0;have s:=b 1;have t:=b 2;have g:w1.heap.size=w.heap.size+1:=by rw [<- d];simp
 have H:=aE c a g;clear f c a b h g;go_enter func77,ntmps77;go_wp2;have i:=ag (j:=2) (ag (j:=1) (ag (j:=0) H.o.2.1 (Z7 Z9 (D:Int))) (Z7 Z9 (L:Int))) (Z7 Z9 (G:Int));refine Us (v:=.agg #[Z7 Z9 D,Z7 Z9 L,Z7 Z9 G]) (Wk results77 _ _ w.heap.size 27 #[Z7 Z9 (D:Int),Z7 Z9 (L:Int),Z7 Z9 (G:Int)] (0,0) _ rfl i underlying27 rfl (by kernel_rfl)) rfl ?_;exact ⟨rfl,((H.o.1.setCell (p:=⟨w.heap.size,0,ZW⟩) lR _).setCell (p:=⟨w.heap.size,1,ZW⟩) lR _).setCell (p:=⟨w.heap.size,2,ZW⟩) lR _,by simp [World.setCell,H.o.2.2],i⟩
def vM {v G:Nat} (h:bg w v p D L G ps ho):ZP ZL 77 #[Z6 (ZV ⟨v,0,ZW⟩)] w λe w'=>e=Z3 (.agg #[Z7 Z9 D,Z7 Z9 L,Z7 Z9 G])/\bW w w':=(fJ h).mono λ_ _ q=>⟨q.1,q.2.1⟩
theorem dI {v G:Nat} (h:bg w v p D L G ps ho) (f:D<=1000):ZP ZL 100 #[Z6 (ZV ⟨v,0,ZW⟩)] w λe w'=>e=Z3 (Z7 Z9 ((D*44:Nat):Int))/\w'=w:=by
 obtain ⟨c0,c1,b,c,d⟩:=h.cells;have a:((D*44:Nat):Int)=(D:Int)*44:=by omega
 rw [a];go_enter func100,ntmps100;go_wp2;go_ret;exact ⟨rfl,rfl⟩
theorem j7 {a v G f:Nat} {off:Bool} (d:a9 w a v D' L' G' t f n pg ob off) (h:bg w v p D L G ps ho) (i:1<=D) (c:D<=1000):ZP ZL 141 #[Z6 (ZV ⟨a,0,ZW⟩)] w λe w'=>e=Z3 (Z7 Z9 ((D*44-4:Nat):Int))/\w'=w:=by
 obtain ⟨c0,_⟩:=d.cells;have b:((D*44-4:Nat):Int)=((D*44:Nat):Int)-4:=by omega
 rw [b];have g:=dI h c;have b1:D*44<=44000:=by omega
 generalize D*44=q at *;go_enter func141,ntmps141;go_wp2_with fail;refine g.mono ?_;rintro e w' ⟨rfl,rfl⟩;go_wp2;go_ret;exact ⟨rfl,rfl⟩
theorem length_nil (w:ZS):ZP ZL 104 #[Z5 ZW 0 0] w λe w'=>e=Z3 (Z7 Z9 0)/\w'=w:=by
 go_enter func104,ntmps104;go_wp2;refine VD 1 ?_;rw [Vt];go_wp2;go_ret;exact ⟨rfl,rfl⟩
section
variable {w:ZS} {p:Nat} {A:aB} {F:aK}
theorem D0 (h:az w p A F):ZP ZL 66 #[Z6 (ZV ⟨p,0,ZW⟩)] w λe w'=>e=Z3 (Z7 Z9 A.n)/\w'=w:=by
 obtain ⟨R,a,b⟩:=h;obtain ⟨c0,c1⟩:=a.RQ;rw [b.n] at c0;go_enter func66,ntmps66;go_wp2;go_ret;exact ⟨rfl,rfl⟩
theorem iH {R:eJ} (h:ah w p R F) (a:0<R.n):ZP ZL 38 #[Z6 (ZV ⟨p,0,ZW⟩)] w λe w'=>e=Z3 (Z7 Z9 R.nb)/\w'=w:=by
 obtain ⟨c0,c1⟩:=h.RQ;obtain ⟨b,d1,c,d⟩:=h.R4 0 a;rw [aaD,Uj] at d1;go_enter func38,ntmps38;go_wp2;go_ret;exact ⟨rfl,rfl⟩
def tD (h:az w p A F) (c:0<A.n):ZP ZL 38 #[Z6 (ZV ⟨p,0,ZW⟩)] w λe w'=>e=Z3 (Z7 Z9 A.nb)/\w'=w:=by
 obtain ⟨R,b,a⟩:=h;rw [<- a.nb];exact iH b (by rw [a.n];exact c)
end
section
attribute [local go_sem] Oper.semAt_some
abbrev Ch (D:Nat):={ i:Nat // i<D }
def Dh (g i:Nat):ZR:=Z5 (ZV ⟨g,i*44,ZW⟩) 44 44
def FH (g:Nat) {D:Nat} (x:Ch D):Array ZR:=#[Dh g x.1]
def Kp2 (b1 b2:Nat) (W W':ZS):Prop:=W'.heap[b1]?=W.heap[b1]?/\W'.heap[b2]?=W.heap[b2]?
theorem D3 (n l b1 b2 g D:Nat) (O:D<=1000) (J q:List (Ch D)->ZS->Prop) (L:∀ pre W,J pre W->J pre W.drew)
 (N:∀ pre x W,J pre W->pre.length<D->YieldAt Fence.wide (n-1) ZL l (FH g x) W λe W'=>
  (e=Z3 (Z1 ZU)/\J (pre++[x]) W'/\Kp2 b1 b2 W W')\/(e=Z3 (Z1 ZT)/\q (pre++[x]) W'))
 (W:ZS) (I:W.cell? ⟨b1,0,ZW⟩=ZV (Z5 (ZV ⟨g,0,ZW⟩) (D*44) (D*44))) (K:W.cell? ⟨b2,0,ZW⟩=ZV (Z7 Z9 44)) (G:J [] W) :
 CallsIn Fence.wide n ZL 217 #[.func (.yield l) #[] #[],Z6 (ZV ⟨b1,0,ZW⟩),Z6 (ZV ⟨b2,0,ZW⟩)] W λe W'=>(∃ v,e=Z3 v) /\
  ((∃ B,B.map (·.1)=YE D/\J B W')\/(∃ pre,pre.map (·.1)<+:YE D/\q pre W')):=by
 refine Xl func217 rfl trivial ?_ rfl;simp only [ntmps217,UH,UA,UT,YI,YJ,Ve,Vf,Vg,Vh,Uq,UX];gi_wp2;gi_loopw [4] (λp wr=>∃ (pre:List (Ch D)) (k:Nat),p=Z7 Z9 (k*44:Nat)/\k<=D/\pre.map (·.1)=YE k/\J pre wr/\wr.cell? ⟨b1,0,ZW⟩=ZV (Z5 (ZV ⟨g,0,ZW⟩) (D*44) (D*44))/\wr.cell? ⟨b2,0,ZW⟩=ZV (Z7 Z9 44))
  (λp _=>D*44-(intOf p).toNat)
 case atStart=>
  exact ⟨[],0,rfl,T8 _,rfl,G,I,K⟩
 case round=>
  obtain ⟨pre,k,rfl,U,d,f,c1,C⟩:=hrel;have t:pre.length=k:=by have:=Uy YK d;simpa using this
  by_cases m:k<D
  . have V:((k*44:Nat):Int)<((D*44:Nat):Int):=(by omega);have b:wr.drew.cell? ⟨b1,0,ZW⟩=ZV (Z5 (ZV ⟨g,0,ZW⟩) (D*44) (D*44)):=c1;have c:wr.drew.cell? ⟨b2,0,ZW⟩=ZV (Z7 Z9 44):=C;obtain ⟨fn,tmps,assign,body,A,z⟩:=N pre ⟨k,m⟩ wr.drew (L _ _ f) (by omega);unfold FH Dh at A;simp only at A;have H:=a5 z f d t;clear z f d t;have P:k*44+44-k*44=44:=(by omega);have Q:k*44+44<=D*44:=(by omega);generalize y:k*44=i at *;generalize hh:D*44=a at *;generalize hi:i+44=F at *;have R:¬ ((a-i:Nat):Int)<44:=(by omega);have S:¬ a=i:=(by omega);have T:¬ ((a:Nat):Int)<((i:Nat):Int):=(by omega);gi_wp2;refine bB gQ 99 [(0,ZU),(1,ZU),(2,ZU),(3,ZU),(4,ZU),(5,ZU),(6,ZU)] (λw'=>w'.cell? ⟨b1,0,ZW⟩=ZV (Z5 (ZV ⟨g,0,ZW⟩) a a)/\w'.cell? ⟨b2,0,ZW⟩=ZV (Z7 Z9 44)) (by kernel_rfl) (by kernel_rfl) ⟨b,c⟩ ?_;iterate 7 (refine aC rfl rfl ?_;apply YF;refine ⟨λw' M=>?_,?_⟩;(obtain ⟨X,Y⟩:=M;first|(go_simp;done)|(go_simp;exact rfl)|(go_simp;omega));simp only [Act.put,TX,TY,TZ])
    refine cB ?_;rename_i hK
    refine hK _ _ ?_;clear hK;gi_wp2;refine ⟨λh=>(by cases h),H.o.1.mono ?_⟩;rintro e r (⟨rfl,u,w⟩|⟨rfl,s⟩)
    . have d1:r.cell? ⟨b1,0,ZW⟩=ZV (Z5 (ZV ⟨g,0,ZW⟩) a a):=(Uk w.1).trans b;have E:r.cell? ⟨b2,0,ZW⟩=ZV (Z7 Z9 44):=(Uk w.2).trans c;have j:=ak u;clear u;gi_wp2;go_roundw
      case rel=>exact ⟨pre++[⟨k,m⟩],k+1,by rw [show (k+1)*44=F by omega];congr 1;omega,by omega,by rw [Uv,H.o.2.2.1,Vr];rfl,j.o,d1,E⟩
      case measure=>simp only [intOf];omega
    . have j:=ak s;clear s;gi_wp2;refine Us (XC rfl _ _ _) rfl ?_;refine ⟨⟨_,rfl⟩,.inr ⟨pre++[⟨k,m⟩],?_,j.o⟩⟩;rw [Uv,H.o.2.2.1];refine ⟨(YE D).drop (k+1),?_⟩;show YE k++[k]++_=_;rw [<- Vr];have:YE (k+1)=(YE D).take (k+1):=by rw [List.take_range,Wj (by omega)]
      rw [this,Wh]
  . have y:k=D:=(by omega);subst y;gi_wp2;go_end0
    exact ⟨⟨_,rfl⟩,.inl ⟨pre,d,f⟩⟩
def zC (n b1 b2 g D:Nat) (k:D<=1000) (w:ZS) (i:b1<w.heap.size) (j:b2<w.heap.size) (d:w.cell? ⟨b1,0,ZW⟩=ZV (Z5 (ZV ⟨g,0,ZW⟩) (D*44) (D*44))) (f:w.cell? ⟨b2,0,ZW⟩=ZV (Z7 Z9 44)) :
 SeqStopsK Fence.wide n ZL 217 #[Z6 (ZV ⟨b1,0,ZW⟩),Z6 (ZV ⟨b2,0,ZW⟩)] (FH g (D:=D)) (Kp2 b1 b2) (λq=>q.map (·.1)=YE D) (λpre=>pre.map (·.1)<+:YE D) D w:=λl J b W a m _ o c=>
 D3 n l b1 b2 g D k J b (λpre X h=>m pre X X.drew ZW h ⟨rfl,rfl,rfl,TU _,λ_ _ _=>rfl⟩ (λr e=>by cases e)) o W ((a.cell (p:=⟨b1,0,ZW⟩) i).trans d) ((a.cell (p:=⟨b2,0,ZW⟩) j).trans f) c
theorem Hc (g D:Nat) (w:ZS) :
 ZP ZL 206 #[Z5 (ZV ⟨g,0,ZW⟩) (D*44) (D*44),Z7 Z9 44] w λe w'=>e=Z3 (.func (.func 217) #[] #[Z6 (ZV ⟨w.heap.size,0,ZW⟩),Z6 (ZV ⟨w.heap.size+1,0,ZW⟩)])/\w'=(w.alloc (Z4 #[Z5 (ZV ⟨g,0,ZW⟩) (D*44) (D*44)] 40)).alloc (Z4 #[Z7 Z9 44] 3):=by
 generalize D*44=a;go_enter func206,ntmps206;go_wp2;go_ret;exact ⟨rfl,rfl⟩
end
section
attribute [local go_sem] Oper.semAt_some
def xD {size:Nat} {xs:List ZR} (h:w.ownsRow base e size v n xs) {j:Nat} {o:Obj} (a:v.ownBlock=ZV j) (ho:w.heap[j]?=ZV o):o.isCells=ZU:=by
 rcases h.2 with ⟨d,_⟩|⟨g,cap,cur,b,f,c,_⟩
 . rw [d] at a;simp [Value.ownBlock] at a
 . rw [b] at a;simp [Value.ownBlock] at a;subst a;rw [c] at ho;cases ho;rfl
def lx {size:Nat} {xs:List ZR} {row:Option Nat} (h:w.ownsRow base e size v n xs) (a:w.grownBy w' row) (c:∀ r,row=ZV r->∃ o:Obj,w.heap[r]?=ZV o/\o.isCells=ZT):w'.ownsRow base e size v n xs:=by
 cases row with
 | none=>
  cases hv:v.ownBlock with
  | none=>exact h.kept a (.inl hv)
  | some q=>exact h.kept a (.inr (by rw [hv];intro e;cases e))
 | some r=>
  obtain ⟨o,ho,b⟩:=c r rfl;exact h.kept a (.inr λe=>by have:=xD h e ho;rw [b] at this;cases this)
def tE (w:ZS) (b i:Nat) (v:ZR):w.grownBy (w.setCell ⟨b,i,ZW⟩ v) (ZV b):=
 ⟨rfl,rfl,rfl,by simp [World.setCell],λk _ a=>Ud _ _ _ _ (λe=>a (by rw [e]))⟩
def FJ {fn:Func} {Z:ZS} {x:ZR} {R:Ending->ZS->Prop} (d:fn.results=#[.tmp t]) (b:a.defers=[{ target:=.collected D',args:=#[] }]) (hx:a.tmps.getD t ZX=x)
 (hK:Z.heap[D']?=ZV (.deferred (ZV []))) (hR:R (Z3 x) (Z.putObj D' (.deferred ZW))):bodyPostM Fence.wide n ZL fn R .ret a Z:=by
 obtain ⟨e,f⟩:=a;simp only at b hx;subst b;refine ⟨by simp,.inl ⟨_,_,rfl,Wv hK,?_⟩⟩;refine ⟨x,?_,hR⟩;have c:e[t]?.getD ZX=x:=by simpa using hx
 simp [results,d,c]
def Rj (w:ZS) (g:Nat) (B D:Nat) (pre:List (Ch D)) (X:ZS):Prop:=
 (∃ v,Boxed X w.heap.size 108 v/\X.ownsRow (w.heap.size+1) 40 1 v pre.length (pre.map λx=>Dh g x.1))/\bW w X/\B<=X.heap.size
def Rj.own (i:w.heap.size+1<=B):OwnFrom B (Rj w g B D):=by
 rintro pre X Y row ⟨⟨v,c,f⟩,d,h⟩ a b;exact ⟨⟨v,(a.block _ c.lt (λe=>by have:=(b _ e.symm).1;omega)).trans c,lx f a λr e=>(b r e).2⟩,d.grown a d.size (λk e=>by have:=(b k e).1;omega),TV h a.size⟩
def Tryz.R9:(ZL.info? 40).map (λi=>(i.zero,i.size,i.bytes))=ZV (ZV (Z5 ZW 0 0),1,24):=by kernel_rfl
def Kr (t:o.guard=ZW) (x y:ZM) (ho:o.op=.call { callee:=.builtin .append,args:=#[x,y],argTypes:=#[108,108] })
 (n0 q:Nat) (k:Nat) (xs:List ZR) (u v:ZR) (hx:a.eval x=v) (hy:a.eval y=Z5 (ZV ⟨q,0,ZW⟩) 1 1) (h3:w.ownsRow n0 40 1 v k xs) (hc:w.cell? ⟨q,0,ZW⟩=ZV u) (hu:u.oneCell'=ZU) (h7:n0<=w.heap.size) (hk:k<=1000000)
 (hK:∀ c b w2,n0<=c->w2.ownsRow n0 40 1 (Z5 (ZV ⟨c,0,ZW⟩) (k+1) b) (k+1) (xs++[u])->w.grownBy w2 v.ownBlock->wpListIn F n ZL ops Q rest (a.put o.dst (Z5 (ZV ⟨c,0,ZW⟩) (k+1) b)) w2):wpListIn F n ZL ops Q (o::rest) a w:=by
 obtain ⟨A,l,m,p,r⟩:=Ut Tryz.R9;refine wpListIn_append_own w t x y 108 ho n0 40 A (Z5 ZW 0 0) 1 24 VL l m p r rfl (by decide) v k xs hx h3 ⟨q,0,ZW⟩ 1 1 [u] hy rfl (λj u' d=>?_) (λu' f=>by simp at f;subst f;exact hu) (by unfold maxLen;omega) (by omega) h7 ?_
 . cases j with
   | zero=>simp at d;subst d;exact hc
   | succ j=>simp at d
 . intro B w2 e h _;obtain ⟨c,b,rfl,i⟩:∃ c b,B=Z5 (ZV ⟨c,0,ZW⟩) (k+1) b/\n0<=c:=by
    rcases e.2 with ⟨_,C⟩|⟨g,cap,cur,z,s,_⟩
    . omega
    . exact ⟨g,cap,z,s⟩
   exact hK c b w2 i e h
theorem pA (g D b1 b2:Nat) (P:D<=1000) (w:ZS) (G:b1<w.heap.size) (I:b2<w.heap.size) (N:w.cell? ⟨b1,0,ZW⟩=ZV (Z5 (ZV ⟨g,0,ZW⟩) (D*44) (D*44))) (O:w.cell? ⟨b2,0,ZW⟩=ZV (Z7 Z9 44)) :
 ZP ZL 216 #[Z5 ZW 0 0,.func (.func 217) #[] #[Z6 (ZV ⟨b1,0,ZW⟩),Z6 (ZV ⟨b2,0,ZW⟩)]] w λe w'=>∃ v,e=Z3 v/\w'.ownsRow w.heap.size 40 1 v D ((YE D).map (Dh g))/\bW w w':=by
 obtain ⟨n,HN⟩:∃ n:Nat,b9 (9<=n):=⟨9,TU _⟩;refine (Vm (n:=n)).1 ?_;refine Wc func216 rfl trivial ?_ rfl;simp only [ntmps216,UH,UA,UT,YI,YJ,Ve,Vf,Vg,Vh,Uq,UX];gi_wp2;obtain ⟨w1,s⟩:=nM (w.alloc (Z4 #[Z5 ZW 0 0] 108));have M:Boxed w1 w.heap.size 108 (Z5 ZW 0 0):=by rw [<- s];exact Ur w _ _
 have k8:w1.heap.size=w.heap.size+1:=by rw [<- s];simp
 have B:bW w w1:=by rw [<- s];exact bA w _
 rw [s];clear s;have T:Rj w g w1.heap.size D [] w1:=⟨⟨_,M,UK _ _ _ _⟩,B,TU _⟩;refine Wd rfl (by have:=HN.o;omega) (gf:=217) (lb:=#[Z6 (ZV ⟨b1,0,ZW⟩),Z6 (ZV ⟨b2,0,ZW⟩)]) rfl trivial (U4 func217 (by kernel_rfl) rfl)
  (zC (n-1) b1 b2 g D P w1 (by omega) (by omega) ((B.cell (p:=⟨b1,0,ZW⟩) G).trans N) ((B.cell (p:=⟨b2,0,ZW⟩) I).trans O)) (λh k=>⟨k.1.trans h.1,k.2.trans h.2⟩) (λW l o o' hl _ _ _=>⟨UO (by omega),UO (by omega)⟩) (TW _ _) (λ_=>rfl)
  (Rj w g w1.heap.size D) (λ_ _ _=>False) (Rj.own (by omega)) (λ_ _ _ _ _ h _ _=>h.elim) T
  (λx=>{ tmps:=#[Z5 ZW 0 0,.func (.func 217) #[] #[Z6 (ZV ⟨b1,0,ZW⟩),Z6 (ZV ⟨b2,0,ZW⟩)],Z6 (ZV ⟨w.heap.size,0,ZW⟩),ZX,Z5 ZW 0 0,Dh g x.1,.func (.func 217) #[] #[Z6 (ZV ⟨b1,0,ZW⟩),Z6 (ZV ⟨b2,0,ZW⟩)],Dh g x.1,ZX,ZX,ZX,ZX,ZX],defers:=[] }) ?assign ?body ?done ?stop
 case assign=>
  intro l2 x X Kk hK;unfold FH;gi_wp2;exact hK
 case body=>
  rintro l2 pre x X ⟨⟨v,f,b⟩,a,y⟩ hq;have c0:=f.cell;have hz:=f.lt;have k7:pre.length<=1000:=by omega
  obtain ⟨c,V⟩:=nM (x.1*44);have m:Dh g x.1=Z5 (ZV ⟨g,c,ZW⟩) 44 44:=by rw [<- V];rfl
  have Q:(Value.slice (ZV ⟨g,c,ZW⟩) 44 44).oneCell'=ZU:=rfl;have S:(X.alloc (Z4 #[Z5 (ZV ⟨g,c,ZW⟩) 44 44] 40)).cell? ⟨X.heap.size,0,ZW⟩=ZV (Z5 (ZV ⟨g,c,ZW⟩) 44 44):=(Ur X 40 (Z5 (ZV ⟨g,c,ZW⟩) 44 44)).cell;have H:=a6 f b a y m;rw [m];clear f b a y m;have C:b9 ((X.alloc (Z4 #[Z5 (ZV ⟨g,c,ZW⟩) 44 44] 40)).ownsRow (w.heap.size+1) 40 1 v pre.length (pre.map λx=>Dh g x.1)):=ak (aq H.o.2.1 (bA X _));have L:b9 (w.heap.size+1<=(X.alloc (Z4 #[Z5 (ZV ⟨g,c,ZW⟩) 44 44] 40)).heap.size):=ak (by simp;omega);gi_wp2_with (
   gi_at_builtin;
   refine Kr rfl (Z0 8) (Z0 10) rfl (w.heap.size+1) X.heap.size pre.length (pre.map λx=>Dh g x.1) (Z5 (ZV ⟨g,c,ZW⟩) 44 44) v (by rfl) (by rfl) (by exact C.o) (by exact S) Q L.o (by omega) ?_;
   intro E d w2 k6 F i;
   have A:Boxed w2 w.heap.size 108 v:=(i.block w.heap.size (by simp;omega) (λe=>by have:=(H.o.2.1.lt _ e.symm).1;omega)).trans (H.o.1.alloc _);
   have d0:=A.cell;
   have f0:=A.frozen)
  obtain ⟨f,b,a,y,m⟩:=H.o;have Y:∀ q,v.ownBlock=ZV q->w.heap.size+1<=q:=λq e=>(b.lt q e).1;have hy:=i.size;simp only [Ul] at hy;have U:KeepsOthers X w2:=(KeepsOthers.alloc X (Z4 #[Z5 (ZV ⟨g,c,ZW⟩) 44 44] 40)).trans (aba i λj o e ho=>xD C.o e ho);have z:∀ k,k<w.heap.size->w2.heap[k]?=X.heap[k]?:=λk u=>(i.block k (by simp;omega) (λe=>by have:=Y k e.symm;omega)).trans (UB _ _ _ (by omega));have J:∀ k,k≠w.heap.size->(w2.setCell ⟨w.heap.size,0,ZW⟩ (Z5 (ZV ⟨E,0,ZW⟩) (pre.length+1) d)).heap[k]?=w2.heap[k]?:=λk u=>Ud _ _ _ _ u;refine ⟨(U.trans (VY _ _ _)).from _,⟨(J _ (by omega)).trans (z _ G),(J _ (by omega)).trans (z _ I)⟩,⟨_,A.set _,?_⟩,?_,by simp [World.setCell];omega⟩
  . have q:=F.kept (tE w2 w.heap.size 0 (Z5 (ZV ⟨E,0,ZW⟩) (pre.length+1) d)) (.inr λe=>by have:=(F.lt _ e).1;omega);have e:(pre++[x]).map (λx=>Dh g x.1)=pre.map (λx=>Dh g x.1)++[Z5 (ZV ⟨g,c,ZW⟩) 44 44]:=(by rw [Uv,<- m];rfl);rw [e,Ua];exact q
  . refine (Xh (p:=⟨w.heap.size,0,ZW⟩) ?_ lR _);exact ⟨i.os.trans a.os,i.tape.trans a.tape,i.output.trans a.output,by have:=a.size;omega,λk u=>(z k u).trans (a.block k u)⟩
 case done=>
  rintro D' xs X R K ⟨⟨v,f,b⟩,a,y⟩ hK;have c0:=f.cell;have H:=aE b a hK;clear f b a hK;gi_wp2;obtain ⟨b,a,hK⟩:=H.o;have k0:xs.length=D:=by have:=Uy YK K;simpa using this
  have k5:xs.map (λx=>Dh g x.1)=(YE D).map (Dh g):=by rw [<- K,List.map_map];rfl
  rw [k0,k5] at b;refine FJ (t:=4) results216 rfl rfl hK ⟨_,rfl,?_,?_⟩
  . exact cU (lx b (Xc X D' (.deferred ZW)) λr e=>by cases e;exact ⟨_,hK,rfl⟩) (by omega)
  . exact Below.RO a (by omega) (T5.1 hK).1 _
 case stop=>
  rintro D' cc pre X R hs Z hK;exact Z.elim
theorem tF (g D b1 b2:Nat) (j:D<=1000) (w:ZS) (h:b1<w.heap.size) (i:b2<w.heap.size) (b:w.cell? ⟨b1,0,ZW⟩=ZV (Z5 (ZV ⟨g,0,ZW⟩) (D*44) (D*44))) (c:w.cell? ⟨b2,0,ZW⟩=ZV (Z7 Z9 44)) :
 ZP ZL 205 #[.func (.func 217) #[] #[Z6 (ZV ⟨b1,0,ZW⟩),Z6 (ZV ⟨b2,0,ZW⟩)]] w λe w'=>∃ v,e=Z3 v/\w'.ownsRow w.heap.size 40 1 v D ((YE D).map (Dh g))/\bW w w':=by
 have f:=pA g D b1 b2 j w h i b c;clear b c;go_enter func205,ntmps205;go_wp2_with fail;refine f.mono ?_;rintro e w' ⟨v,rfl,a,d⟩;have H:=al a d;clear f a d;go_wp2;go_ret;exact ⟨_,rfl,H.o.1,H.o.2⟩
def iI (D:Nat) (dl:a8):a8:=dl++YG (D*44-dl.length) 0
def dV (D:Nat) (dl:a8):List a8:=(YE D).map λi=>((iI D dl).drop (i*44)).take 44
def Ks (h:dl.length<=D*44):(iI D dl).length=D*44:=by unfold iI;simp;omega
def dZ (D:Nat) (dl:a8):(dV D dl).length=D:=by simp [dV]
def oe (a:i<(dV D dl).length):(dV D dl)[i]=((iI D dl).drop (i*44)).take 44:=by simp [dV]
def lZ (h:dl.length<=D*44) (a:i<D):(((iI D dl).drop (i*44)).take 44).length=44:=by
 rw [Uo,Un,Ks h];omega
def Nj (h:∀ x∈dl,x<256):∀ x∈iI D dl,x<256:=by
 intro x a;unfold iI at a;rw [Ui] at a;rcases a with a|a
 . exact h x a
 . have:=Vz a;omega
theorem PU {v G:Nat} (h:bg w v p D L G ps ho) (hD:D<=12) (Y:ZR) (dl:a8) (R:Bs w Y dl) (hl:dl.length<=D*44) :
 ZP ZL 190 #[Z6 (ZV ⟨v,0,ZW⟩),Y] w λe w'=>∃ u,e=Z3 u/\Rd w' u (dV D dl)/\bW w w':=by
 have X:=dI h (by omega);obtain ⟨b,z⟩:=nM (D*44);have hv:b<=528:=by omega
 rw [z] at X hl;have J:=ak R;clear R;go_enter func190,ntmps190;go_wp2_with fail;refine X.mono ?_;rintro e w1 ⟨rfl,rfl⟩;go_wp2_with (at_make;refine cO _ rfl (Z0 7) (Z0 7) rfl _ b (by rfl) (by rfl) rfl (by omega) ?_;intro w2 Q A k0;obtain ⟨a,hq,r,U⟩:=A4 (n:=b) (cap:=b) (off:=0) 3 Q (J.o.mono A) (by omega) (by simp;omega));have s:bW w1 a:=A.grown U (by omega) (λk e=>by cases e;exact TU _);have P:spl (YG b 0) 0 dl=iI D dl:=by
  unfold spl iI;rw [WG,Uq,Uj,XV,z]
 rw [P] at r;have B:=Hc w1.heap.size D a;rw [z] at B;have H:=aE r s B;clear hq Q A U r s B P;refine H.o.2.2.mono ?_;rintro e f ⟨rfl,rfl⟩;obtain ⟨f,d⟩:=nM ((a.alloc (Z4 #[Z5 (ZV ⟨w1.heap.size,0,ZW⟩) b b] 40)).alloc (Z4 #[Z7 Z9 44] 3));have t:bW a f:=by rw [<- d];exact (bA a _).alloc (by simp) _
 have hz:f.heap.size=a.heap.size+2:=by rw [<- d];simp
 have M:f.cell? ⟨a.heap.size,0,ZW⟩=ZV (Z5 (ZV ⟨w1.heap.size,0,ZW⟩) (D*44) (D*44)):=by rw [<- d,z];exact ((Ur a _ _).alloc _).cell
 have N:f.cell? ⟨a.heap.size+1,0,ZW⟩=ZV (Z7 Z9 44):=by
  have:=(Ur (a.alloc (Z4 #[Z5 (ZV ⟨w1.heap.size,0,ZW⟩) b b] 40)) 3 (Z7 Z9 44)).cell;rw [Ul] at this;rw [<- d];exact this
 have T:=tF w1.heap.size D a.heap.size (a.heap.size+1) (by omega) f (by omega) (by omega) M N;rw [d];have I:=al t T;clear d t T M N hz;go_wp2_with fail;refine I.o.2.mono ?_;rintro e F ⟨u,rfl,m,y⟩;have Z:=al m y;clear m y;go_wp2;go_ret;obtain ⟨r,s,_⟩:=H.o;obtain ⟨t,_⟩:=I.o;obtain ⟨m,y⟩:=Z.o;have O:bW a F:=t.trans (y.mono t.size);have hp:aM F w1.heap.size (iI D dl):=r.below O;refine ⟨u,rfl,?_,s.trans (O.mono s.size)⟩;rcases m.2 with ⟨h0,h1⟩|⟨q,cap,cur,K,e2,e3,e4,e5,e6,e7⟩
 . subst h0;have:dV D dl=[]:=by rw [<- Yd,dZ];exact h1
   exact ⟨ZW,0,by rw [this];rfl,by rw [this];decide,λE=>absurd this E⟩
 . refine ⟨ZV ⟨q,0,ZW⟩,cap,by rw [K,dZ],by rw [dZ];omega,λ_=>⟨q,0,rfl,λi S=>?_⟩⟩;have C:=S;rw [dZ] at C;refine ⟨Dh w1.heap.size i,?_,?_⟩
   . have:=m.cells (g:=q) (by rw [K];rfl) i (Dh w1.heap.size i) (by simp [C]);rw [jy] at this;rw [Uj];exact this
   . rw [oe S];have hg:=lZ (D:=D) (dl:=dl) (by omega) C;have hr:F.rangeAt w1.heap.size 0 (aJ (iI D dl)):=λj u hu=>by
      have E:=hp.SJ;have hy:(aJ (iI D dl)).toArray[j]?=ZV u:=(by simpa using hu);simp [World.cell?,E,hy]
     have W:=m3 44 (fY (i*44) hr);rw [Uj] at W;have V:=Bs.mid (c:=44) (l:=((iI D dl).drop (i*44)).take 44) (by omega) (by omega) (λx hx=>Nj J.o.lt x (UZ (UV hx))) W;rw [hg] at V;exact V
end
theorem j8 {v G:Nat} (h:bg w v p D L G ps ho) (a:vG D L G):ZP ZL 112 #[Z6 (ZV ⟨v,0,ZW⟩)] w λe w'=>e=Z3 (Z7 Z8 ((2^(D+L+G)-1:Nat):Int))/\bW w w':=by
 obtain ⟨_,c1,k,l,_⟩:=h.cells;have r:=a.d;have u:=a.l4;have t:=a.g;have n:=a.s;clear a;obtain ⟨m,i⟩:=nM (D+L+G);obtain ⟨q,b⟩:=nM (((2^m-1:Nat):Int));rw [i,b];have f:=ak b;clear b;go_enter func112,ntmps112;go_wp2_with fail;refine (dw (D:Int) (L:Int) (G:Int) w ⟨by omega,by omega⟩ ⟨by omega,by omega⟩ ⟨by omega,by omega⟩).mono ?_;rintro e j ⟨rfl,c⟩;rw [show ((D:Int)+(L:Int)+(G:Int))=(m:Int) by omega];have H:=ak c;clear c;go_wp2_with fail;refine (lX m (by omega) j).mono ?_;rw [f.o];rintro e x ⟨rfl,rfl⟩;go_wp2;go_ret;exact ⟨rfl,H.o⟩
def Tryz.SZ:(ZL.info? 215).map (λi=>(i.zero,i.size,i.bytes))=ZV (ZV .nilIface,1,16):=by kernel_rfl
def vN (w:ZS) {ops:Array ZO} {rest:List ZO} {o:ZO} {a:Act} {Q:Exit->Act->ZS->Prop}
 (h:o.guard=ZW) (l c:ZM) (e:o.op=Op.makeSlice 182 l c) (C:Int) (n:Nat) (hl:a.eval l=Z7 Z9 C) (g:a.eval c=Z7 Z9 C) (f:C=(n:Int)) (i:n<=1000000)
 (hK:∀ w',w'.rowIs w.heap.size 215 n (λ_=>.nilIface)->bW w w'->w'.heap.size=w.heap.size+1->wpList ZL ops Q rest (a.put o.dst (Z5 (ZV ⟨w.heap.size,0,ZW⟩) n n)) w') :
 wpList ZL ops Q (o::rest) a w:=by
 refine VT h λK d=>?_;have b:=XT (P:=ZL) 182 215 .nilIface 16 underlying182 Tryz.SZ rfl .i64 .i64 n (by omega) (by omega) w;subst f;unfold Oper.wp;simp [execOp,e,hl,g,b,Result.andThen];exact d _ _ (hK _ (Xq w _ n _) (bA _ _) (Uh _ _))
def iJ (r:bE):∃ a x,dK r=.iface a x:=by cases r<;>exact ⟨_,_,rfl⟩
def fT:Option bE->ZR
 | some r=>dK r
 | none=>.nilIface
def Kt (A:aB) (b k i:Nat):ZR:=if i<k then fT (A.RX i b) else .nilIface
def PV {A:aB} {r:bE} (h:A.RX k b=ZV r) (i:Nat):(if i=k then dK r else Kt A b k i)=Kt A b (k+1) i:=by
 unfold Kt;by_cases e:i=k
 . rw [TT e,TT (by omega),e,h];rfl
 . rw [TS e];by_cases a:i<k
   . rw [TT a,TT (by omega)]
   . rw [TS a,TS (by omega)]
def PW {A:aB} (h:A.RX k b=ZW) (i:Nat):Kt A b k i=Kt A b (k+1) i:=by
 unfold Kt;by_cases e:i=k
 . rw [TS (by omega),TT (by omega),e,h];rfl
 . by_cases a:i<k
   . rw [TT a,TT (by omega)]
   . rw [TS a,TS (by omega)]
def aan (w1:ZS) (g p N b:Nat) (A:aB) (F:aK) (i:ZR) (wr:ZS):Prop:=∃ k:Nat,k<=N/\i=Z7 Z9 k/\az wr p A F/\aa (λj=>j=g\/F.S j) w1 wr/\wr.rowIs g 215 N (Kt A b k)
def Nk (w:ZS) (p b:Nat) (A:aB) (F:aK) (e:Ending) (w':ZS):Prop:=∃ g,e=Z3 (Z5 (ZV ⟨g,0,ZW⟩) A.n A.n)/\w.heap.size<=g/\w'.rowIs g 215 A.n (λi=>fT (A.RX i b))/\az w' p A F/\aa (F.S) w w'
theorem iK {v G:Nat} {A:aB} {F:aK} (c:pd w v p D L G ps ho A F) (b:Nat) (hb:b<A.nb) :
 ZP ZL 89 #[Z6 (ZV ⟨v,0,ZW⟩),Z7 Z9 b] w λe w'=>Nk w p b A F e w':=by
 obtain ⟨_,c1,Z,c3,_⟩:=c.vol.cells;have hn:=c.n;have hD:=c.par.d;have hL:=c.par.l4;have hG:=c.par.g;have O:((D:Int)+(L:Int)+(G:Int))=((A.n:Nat):Int):=by omega
 have k0:A.n<=1000:=by omega
 go_enter func89,ntmps89;go_wp2_with fail;refine (dw (D:Int) (L:Int) (G:Int) w ⟨by omega,by omega⟩ ⟨by omega,by omega⟩ ⟨by omega,by omega⟩).mono ?_;rintro e f ⟨rfl,T⟩;rw [O];clear O hn;simp only [];go_wp2_with (at_make;refine vN _ rfl (Z0 13) (Z0 13) rfl _ A.n rfl rfl rfl (by omega) ?_;intro I K U k5);have u:bW w f:=T;have V:bW w I:=u.trans (U.mono u.size);have hr:w.heap.size<=f.heap.size:=u.size;have X:¬ F.S f.heap.size:=λq=>by have:=c.arr.RN q;omega
 have h:=c.below V lR;have hs:v≠f.heap.size:=λe=>by have:=c.vol.lt;omega
 have hq:2≠f.heap.size:=λe=>by have:=c.laid.lt;omega
 have M:=h.arr;have Q:I.rowIs f.heap.size 215 A.n (Kt A b 0):=K.congr λi C=>by unfold Kt;rw [TS (by omega)]
 clear K T u U c c1 Z c3;go_loopw [17] (λi wr=>aan I f.heap.size p A.n b A F i wr) (λi _=>A.n-(intOf i).toNat)
 case atStart=>exact ⟨0,T8 _,rfl,M,aa.refl _ _,Q⟩
 case round=>
  clear M Q;obtain ⟨k,hk,rfl,z,m,B⟩:=hrel;by_cases Y:k<A.n
  . have R:bg wr v p D L G ps ho:=h.vol.keep (m.block _ h.vol.lt (λq=>q.elim hs h.v));have N:bV wr:=h.laid.keep (m.block _ h.laid.lt (λq=>q.elim hq h.g));have J:=qJ R z k b Y hb N h.g;have H:=aE m B J;clear R N J z m B;go_wp2_with fail;refine H.o.2.2.mono ?_;rintro e w7 ⟨y,s,hy⟩;have l:w7.rowIs f.heap.size 215 A.n (Kt A b k):=H.o.2.1.of_block (s.block f.heap.size H.o.2.1.lt X);rcases hy with ⟨r,t,rfl⟩|⟨t,q,rfl,-⟩
    . have cS:=l.cell (i:=k) Y;have fS:=l.frozen k;obtain ⟨ty,x,E⟩:=iJ r;rw [E];have hz:((k:Nat):Int).toNat=k:=(by omega);have a:=a6 y (H.o.1.trans (s.mono λ_ _ q=>.inr q)) l t E;clear y s H l t E;go_wp2;refine ⟨⟨k+1,by omega,by go_num,a.o.1.keep λj W=>Ud _ _ _ _ (λe=>X (by have e':j=f.heap.size:=e;rwa [e'] at W)),a.o.2.1.trans (aa.setCell _ _ _ (.inl rfl)),(a.o.2.2.1.set k _).congr λi C=>?_⟩,by simp [intOf];omega⟩;rw [<- a.o.2.2.2.2];exact PV a.o.2.2.2.1 i
    . unfold rT;have a:=a5 y (H.o.1.trans (s.mono λ_ _ q=>.inr q)) l t;clear y s H l t;go_wp2;exact ⟨⟨k+1,by omega,by go_num,a.o.1,a.o.2.1,a.o.2.2.1.congr λi _=>PW a.o.2.2.2 i⟩,by simp [intOf];omega⟩
  . have hv:k=A.n:=(by omega);subst hv;have P:aa F.S w wr:=(aa.RL V _).later m λj W q=>q.elim (λe=>by omega) id;have H:=aE z P B;clear z m P B;go_wp2;go_ret;exact ⟨_,rfl,hr,H.o.2.2.congr λi C=>(by unfold Kt;rw [TT C]),H.o.1,H.o.2.1⟩
def PX (D:List a8) (w:ZS) (e:Ending) (w':ZS):Prop:=(rA D->e=Z3 (Z1 ZU))/\(¬ rA D->e=Z3 (Z1 ZT))/\w'=w
def FtR (D:List a8) (i:ZR):Prop:=∃ k:Nat,k<=D.length/\i=Z7 Z9 (k:Nat)/\∀ j (hj:j<D.length),j<k->(D[j]).length<=64
theorem BD (t:ZR) (D:List a8) (w:ZS) (m:Rd w t D) :
 ZP ZL 160 #[t] w λe w'=>PX D w e w':=by
 by_cases C:64<D.length
 . obtain ⟨ao,c,rfl,hl,_⟩:=m;go_enter func160,ntmps160;go_wp2;go_ret;exact ⟨λh=>absurd h.1 (by omega),λ_=>rfl,rfl⟩
 rcases m.cases with ⟨rfl,ao,c,rfl⟩|⟨b,off,c,rfl,hl,l⟩
 . go_enter func160,ntmps160;go_wp2;refine VD 1 ?_;rw [Vt];go_wp2;go_ret;exact ⟨λ_=>rfl,λh=>absurd ⟨by simp,λi d=>by simp at d⟩ h,rfl⟩
 have v:=ak l;clear l;go_enter func160,ntmps160;go_wp2;go_loop [10] (λi=>FtR D i) (λi=>D.length-(intOf i).toNat)
 case atStart=>exact ⟨0,T8 _,rfl,λj _ h=>absurd h (by omega)⟩
 case round=>
  obtain ⟨k,G,rfl,a⟩:=hrel;by_cases g:k<D.length
  . obtain ⟨u,H,y⟩:=v.o k g;obtain ⟨B,A,rfl,p,q,r,s⟩:=y;by_cases f:(D[k]).length<=64
    . have x:b9 (∀ j (n:j<D.length),j<k+1->(D[j]).length<=64):=by
       intro j n E;by_cases e:j=k
       . subst e;exact f
       . exact a j n (by omega)
      clear a p q r s;generalize (D[k]).length=z at *;go_wp2;go_round
      case rel=>exact ⟨k+1,by omega,by go_num,x.out⟩
      case measure=>simp [intOf];omega
    . have HN:b9 (¬ rA D):=λh=>f (h.2 k g);have F:(D[k]).length<=140737488355328:=(by omega);clear a p q r s;generalize (D[k]).length=z at *;go_wp2;go_ret;exact ⟨λh=>absurd h HN.o,λ_=>rfl,rfl⟩
  . have HF:b9 (rA D):=⟨by omega,λi d=>a i d (by omega)⟩;clear a;go_wp2;go_ret;exact ⟨λ_=>rfl,λh=>absurd HF.o h,rfl⟩
def wk (G:Nat->Nat) (top c iv k x:Nat):Nat:=if top<x/64/\x/64<k/\c<=x%64 then G x^^^gm (gm (G (x/64*64+c)) iv) (G (top*64+x%64)) else G x
theorem Ku (G:Nat->Nat) (top c a:Nat):wk G top c a (top+1)=G:=by
 funext x;unfold wk;rw [TS (by omega)]
theorem OL (h:∀ x,G x<256) {iv:Nat} (top c k x:Nat):wk G top c iv k x<256:=by
 unfold wk;split
 . exact rq (h x) (bt _ (bt _ (h _)))
 . exact h x
def PY (G:Nat->Nat) (top c a k j:Nat) (b:j<64):wk G top c a k (top*64+j)=G (top*64+j):=by
 unfold wk;rw [TS (by omega)]
def Nl (G:Nat->Nat) (top c a k j:Nat) (b:j<64):wk G top c a k (k*64+j)=G (k*64+j):=by
 unfold wk;rw [TS (by omega)]
theorem Nn (G:Nat->Nat) (top c a k:Nat) (g:top<k) (f:c<64):gS (wk G top c a k) (λi=>G (top*64+c+i)) (gm (G (k*64+c)) a) (k*64+c) (64-c)=wk G top c a (k+1):=by
 funext x;unfold gS;by_cases h:k*64+c<=x/\x<k*64+c+(64-c)
 . have d:x/64=k:=(by omega);have e:top*64+c+(x-(k*64+c))=top*64+x%64:=(by omega);rw [TT h];unfold wk;rw [TS (by omega),TT (by omega),d];show _^^^gm _ (G (top*64+c+(x-(k*64+c))))=_;rw [e]
 . rw [TS h];unfold wk;by_cases b:top<x/64/\x/64<k/\c<=x%64
   . rw [TT b,TT (by omega)]
   . rw [TS b,TS (by omega)]
theorem tG (w:ZS) (b o c:Nat) (f:c<64):(Instr.sliceAt 113 (Z6 (ZV ⟨b,o,ZW⟩)) (ZV (Z7 Z9 (c:Int))) ZW ZW).run ZL w=.ok (Z5 (ZV ⟨b,o+c,ZW⟩) (64-c) (64-c)) w:=by
 have hl:ZL.arrayLen 113=64:=by kernel_rfl
 have e:ZL.underlying 113=ZV (.array (ZL.arrayLen 113) (ZL.elem 113)):=by kernel_rfl
 have d:∀ w,(sizeOf (ZL.elem 113)).run ZL w=.ok 1 w:=by
  have a:ZL.elem 113=5:=by kernel_rfl
  rw [a];intro w;go_simp
 rw [run_sliceAt_array_l w 113 _ e .i64 (c:Int) (by omega) (by rw [hl];omega),d,hl];simp [slicedAt,Result.andThen];rw [TS (by omega)];simp [Addr.add]
def WkR (w:ZS) (b t top c iv n:Nat) (G:Nat->Nat) (i:ZR) (wr:ZS):Prop:=
 ∃ k:Nat,top<k/\k<=max n (top+1)/\i=Z7 Z9 (k:Nat)/\wr.rowIs b t 4096 (tv (wk G top c iv k))/\w.grownBy wr (ZV b)
theorem BE (b top c n:Nat) (G:Nat->Nat) (w:ZS) (f:∀ x,G x<256) (h:w.rowIs b 281 4096 (tv G)) (O:top<64) (g:c<64) (L:n<=64) :
 ZP ZL 162 #[Z6 (ZV ⟨b,0,ZW⟩),Z7 Z9 top,Z7 Z9 c,Z7 Z9 n] w λe w'=>e=Z3 (ZY #[])/\w'.rowIs b 281 4096 (tv (wk G top c (gi (G (top*64+c))) (max n (top+1))))/\w.grownBy w' (ZV b):=by
 have E:w.cell? ⟨b,top*64+c,ZW⟩=ZV (Z7 .u8 ((G (top*64+c):Nat):Int)):=h.cell (by omega);have z:=f (top*64+c);generalize hv:G (top*64+c)=y at *;go_enter func162,ntmps162;go_wp2_with (go_at_call 187;refine (rQ y z _).mono ?_;rintro e l ⟨rfl,rfl⟩);have t:l.rowIs b 281 4096 (tv (wk G top c (gi y) (top+1))):=by rw [Ku];exact h
 go_loopw [9] (λi wr=>WkR l b 281 top c (gi y) n G i wr) (λi _=>n-(intOf i).toNat)
 case atStart=>exact ⟨top+1,by omega,by omega,by go_num,t,Ws _ _⟩
 case round=>
  clear t h E;rename ZS=>wo;obtain ⟨k,J,M,rfl,d,p⟩:=hrel;by_cases N:k<n
  . have F:wo.cell? ⟨b,k*64+c,ZW⟩=ZV (Z7 .u8 ((wk G top c (gi y) k (k*64+c):Nat):Int)):=d.cell (by omega);rw [Nl _ _ _ _ _ _ g] at F;have v:=f (k*64+c);have o:∀ i,i<64-c->wo.cell? ⟨b,top*64+c+i,ZW⟩=ZV (Z7 .u8 ((G (top*64+c+i):Nat):Int)):=by
     intro i K;have m:wo.cell? ⟨b,top*64+c+i,ZW⟩=ZV (Z7 .u8 ((wk G top c (gi y) k (top*64+c+i):Nat):Int)):=d.cell (by omega);rw [Vq,PY _ _ _ _ _ _ (by omega),<- Vq] at m;exact m
    have u:=Nn G top c (gi y) k J g;have H:gm (G (k*64+c)) (gi y)<256:=bt _ v;have C:=ak o;have D:=ak u;clear o u;generalize G (k*64+c)=x at *;have A:=λw=>tG w b (k*64) c g;have B:=λw=>tG w b (top*64) c g;go_wp2;go_region_with (first
     | (go_at_call 188;refine (lS x (gi y) v (iu z) _).mono ?_;rintro e w' ⟨rfl,rfl⟩)
     | (go_at_call 179;refine (jl b 281 4096 (k*64+c) (64-c) (64-c) b (top*64+c) (64-c) (gm x (gi y)) (wk G top c (gi y) k) (λi=>G (top*64+c+i)) _ H (by exact d) (OL f top c k) (λj=>f _) (by omega) (by omega) (by exact C.out) (.inr (.inl (by omega)))).mono ?_;rintro e w' ⟨rfl,r,a⟩))
    all_goals
     have s:=r;rw [D.out] at s;have I:l.grownBy w' (ZV b):=gC p ⟨a.os,a.tape,a.output,a.size,a.block⟩;clear r a A B;go_wp2;go_roundw
     case rel=>exact ⟨k+1,by omega,by omega,by go_num,s,I⟩
     case measure=>simp [intOf];omega
  . have q:k=max n (top+1):=(by omega);rw [q] at d;clear q;go_wp2;go_end0
    exact ⟨rfl,d,p⟩
def gh (D:List a8) (x:Nat):Nat:=(D.getD (x/64) []).getD (x%64) 0
def ly (D:List a8) (k x:Nat):Nat:=if x/64<k then gh D x else 0
def Tryz.TN:(ZL.info? 281).map (λi=>(i.zero,i.size,i.bytes))=ZV (ZV (.agg (YH 4096 (Z7 .u8 0))),4096,4096):=by kernel_rfl
def Tryz.SL:(ZL.info? 281).map (λi=>i.size)=ZV 4096:=by kernel_rfl
def BF (w:ZS):(zeroValue 281).run ZL w=.ok (.agg (YH 4096 (Z7 .u8 0))) w:=by
 obtain ⟨c,a,b,_,_⟩:=Ut Tryz.TN;simp [zeroValue,typeInfo,UE,a,b]
def BG (w:ZS):(w.alloc (Z4 (YH 4096 (Z7 .u8 0)) 281)).rowIs w.heap.size 281 4096 (λ_=>Z7 .u8 0):=by
 have h:=aa5 w (YH 4096 (Z7 .u8 0)) 281 (λ_=>Z7 .u8 0) (λi a=>by simp at a;simp [a]);simpa using h
theorem Kv (h:w.rowIs b t n f):w.heap[b]?=ZV (Z4 ((YE n).map f).toArray t (0,0)):=by
 obtain ⟨c,d,g,e⟩:=h;have:c=((YE n).map f).toArray:=by
  apply Yu
  . simp [g]
  . intro i a j;have:=e i (by omega);rw [VV a] at this;simp at this;simp [this]
 rw [<- this];exact d
def D4 (C:o.guard=ZW) (d s:ZM)
 (ho:o.op=.call { callee:=.builtin .copy,args:=#[d,s],argTypes:=#[40,40] }) (g off n cap N t:Nat) (v:ZR) (hd:a.eval d=Z5 (ZV ⟨g,off,ZW⟩) n cap) (hs:a.eval s=v)
 (F:Nat->Nat) (src:a8) (hB:w.rowIs g t N (tv F)) (hS:Bs w v src) (h8:src.length<=n) (hn:off+n<=N)
 (h:∀ w',w'.rowIs g t N (tv (λx=>if off<=x/\x<off+src.length then src.getD (x-off) 0 else F x))->ZQ g w w'->wpList ZL ops Q rest (a.put o.dst (goInt src.length)) w'):wpList ZL ops Q (o::rest) a w:=by
 obtain ⟨ao,c,rfl,K,L,M,A⟩:=hS;refine aaX C d s 40 40 ho 5 Um (by kernel_rfl) (ZV ⟨g,off,ZW⟩) ao n cap src.length c hd hs g off _ t (Kv hB) (src.map (λx=>Value.int .u8 ((x:Nat):Int))) ?_ ?_ ?_ ?_ g w (TW _ _) lR ?_
 . rw [Ue];show src.length=min src.length n;omega
 . intro l;rw [Ue] at l;obtain ⟨b,off,rfl,E⟩:=A (by intro e;rw [e] at l;simp at l);refine ⟨rfl,_,rfl,λj u k=>?_⟩;have f:j<src.length:=by
    have:=U9.1 k;obtain ⟨q,_⟩:=this;simpa using q
   rw [Vl,E j f];simp [f] at k;simp [f,k]
 . simp;omega
 . intro u G;obtain ⟨x,_,rfl⟩:=T9.1 G;rfl
 . intro w' D B;have H:=D.out;rw [Ue];refine h w' ⟨_,H,?_,λi m=>?_⟩ B
   . rw [UH,length_splice _ _ _ (by simp;omega)];simp
   . unfold splice;rw [Xz];by_cases p:i<off
     . rw [Vv (by simp;omega)];have I:¬ (off<=i/\i<off+src.length):=(by omega);simp only [tv,TS I];simp [p,m,tv]
     . rw [U6 (by simp;omega)];have y:(((YE N).map (tv F)).take off).length=off:=(by simp;omega);rw [y];by_cases r:i<off+src.length
       . rw [Vv (by simp;omega)];have J:i-off<src.length:=(by omega);simp [J,tv,r,Wy.1 p]
       . rw [U6 (by simp;omega)];simp only [Ue];rw [Wi];have z:off+src.length+(i-off-src.length)=i:=(by omega);rw [z];simp [m,tv,r]
def LyR (w:ZS) (B:Nat) (D:List a8) (i:ZR) (wr:ZS):Prop:=
 ∃ k:Nat,k<=D.length/\i=Z7 Z9 (k:Nat)/\wr.rowIs (B+1) 281 4096 (tv (ly D k))/\wr.rowIs B 281 4096 (λ_=>Z7 .u8 0)/\ZQ B w wr
theorem BH (D:List a8) (k:Nat) (f:k<D.length) (hl:(D[k]).length<=64):(λx=>if k*64<=x/\x<k*64+(D[k]).length then (D[k]).getD (x-k*64) 0 else ly D k x)=ly D (k+1):=by
 have b:D.getD k []=D[k]:=by simp [f]
 funext x;unfold ly gh;by_cases h:k*64<=x/\x<k*64+(D[k]).length
 . rw [TT h,TT (by omega)];have c:x/64=k:=(by omega);have d:x%64=x-k*64:=(by omega);rw [c,b,d]
 . rw [TS h];by_cases a:x/64<k
   . rw [TT a,TT (by omega)]
   . rw [TS a];by_cases e:x/64=k
     . rw [TT (by omega),e,b,Ub,Vj (by omega)];rfl
     . rw [TS (by omega)]
def D5 (D:List a8) (x:Nat):ly D D.length x=gh D x:=by
 unfold ly;by_cases h:x/64<D.length
 . rw [TT h]
 . rw [TS h];unfold gh;simp [Vj (Wy.1 h)]
def tH {f:Nat->Nat} (b:cs.size=N) (h:∀ j,j<N->cs[j]?=ZV (tv f j)):cs.all (λv=>v.oneCell')=ZU:=by
 rw [X5];intro i a;have:=h i (by omega);rw [VV a] at this;simp at this;rw [this];rfl
theorem No (L:ZR) (D:List a8) (w:ZS) (H:Rd w L D) (r:rA D) :
 ZP ZL 161 #[L] w λe w'=>∃ cs:Array ZR,e=Z3 (.agg cs)/\cs.size=4096/\(∀ j,j<4096->cs[j]?=ZV (tv (gh D) j))/\bW w w':=by
 have HF:=ak r;have X:=r.1;have U:=H;obtain ⟨ao,c,rfl,hl,G⟩:=H;have t:=ak G;clear G r U;have V:=BF;go_enter func161,ntmps161;go_wp2;clear V;go_loopw [8] (λi wr=>LyR w w.heap.size D i wr) (λi _=>D.length-(intOf i).toNat)
 case atStart=>
  refine ⟨0,T8 _,rfl,?_,?_,?_⟩
  . have h:=BG (w.alloc (Z4 (YH 4096 (Z7 .u8 0)) 281));try change ZQ _ _ _ at h
    rw [Uh] at h;exact h.congr λj Q=>by unfold tv ly;simp
  . exact (BG w).alloc _
  . exact (bA _ _).alloc (by rw [Uh];omega) _
 case round=>
  rename ZS=>wo;obtain ⟨k,W,rfl,f,E,m⟩:=hrel;by_cases a:k<D.length
  . obtain ⟨b,off,rfl,A⟩:=t.o (by intro e;rw [e] at a;simp at a);obtain ⟨u,s,y⟩:=A k a;have S:=y.mono m;have F:=HF.o.2 k a;have I:=BH D k a F;have Y:wo.cell? ⟨b,off+k,ZW⟩=ZV u:=(by rw [m.cell (Uf s)];exact s);have R:=ak I;clear A I s y t;generalize D[k]=l at *;go_wp2_with (refine D4 rfl (Z0 15) (Z0 16) rfl (w.heap.size+1) (k*64) 64 64 4096 281 u rfl rfl (ly D k) l f S F (by omega) ?_;intro w2 d z);rw [R.out] at d;have T:=V6 E (z.block w.heap.size (by omega));go_wp2;go_roundw
    case rel=>exact ⟨k+1,by omega,by go_num,d,T,m.trans (z.mono (by omega))⟩
    case measure=>simp [intOf];omega
  . have C:k=D.length:=(by omega);rw [C] at f;clear C;have d:=f.congr (g:=tv (gh D)) (λj Q=>by unfold tv;rw [D5]);obtain ⟨cs,B,q,p⟩:=d;obtain ⟨M,J,Z,_⟩:=E;have O:=tH q p;have N:=ak p;have K:(ZL.info? 281).map (λi=>i.size)=ZV cs.size:=(by rw [Tryz.SL,q]);have n:=ak K;have P:=ak B;have x:=ak J;clear p f K B J;go_wp2_with (first
     | refine aaB rfl 281 (Z0 3) rfl (w.heap.size+1) rfl 281 cs (0,0) _ P.out underlying281 rfl n.o ?_
     | refine Ww rfl 281 (Z0 2) (Z0 19) rfl w.heap.size cs rfl rfl 281 M x.o n.o (by omega) O ?_)
    exact Us (v:=.agg cs) (Wk results161 _ _ w.heap.size 281 cs (0,0) _ rfl (Vp _ _ M cs _ _ x.o) underlying281 rfl n.o) rfl ⟨cs,rfl,q,N.o,below_setRow m lR cs⟩
def pB (G:Nat->Nat) (i:Nat):a8:=(YE 64).map λj=>G (i*64+j)
def lz (G:Nat->Nat) (n:Nat):List a8:=(YE n).map (pB G)
def iL (G:Nat->Nat) (i j:Nat):dJ (pB G i) j=if j<64 then G (i*64+j) else 0:=by
 unfold dJ pB;by_cases h:j<64
 . simp [h]
 . simp [h]
def gj (G:Nat->Nat) (n:Nat):(lz G n).length=n:=by simp [lz]
def gk (G:Nat->Nat) (n i:Nat) (h:i<(lz G n).length):(lz G n)[i]=pB G i:=by simp [lz]
def tI (a:∀ x,G x<256) (n:Nat):∀ l∈lz G n,∀ x∈l,x<256:=by
 intro l hl x b;obtain ⟨i,_,rfl⟩:=T9.1 hl;obtain ⟨j,_,rfl⟩:=T9.1 b;exact a _
def BI (G:Nat->Nat) (p r x:Nat):Nat:=if x/64=r then G (p*64+x%64) else if x/64=p then G (r*64+x%64) else G x
theorem zD (a:∀ x,G x<256) (p r x:Nat):BI G p r x<256:=by
 unfold BI;split
 . exact a _
 . split<;>exact a _
def D6 (G:Nat->Nat) (p r i j:Nat) (c:j<64):BI G p r (i*64+j)=if i=r then G (p*64+j) else if i=p then G (r*64+j) else G (i*64+j):=by
 have a:(i*64+j)/64=i:=by omega
 have b:(i*64+j)%64=j:=by omega
 unfold BI;rw [a,b]
def Kw (G:Nat->Nat) (p r c n:Nat):Nat->Nat:=wk (BI G p r) r c (gi (G (p*64+c))) (max n (r+1))
def Kx (a:∀ x,G x<256) (p r c n x:Nat):Kw G p r c n x<256:=OL (zD a p r) _ _ _ _
def Ky (G:Nat->Nat) (p r c n i j:Nat) (_hc:c<64) (d:j<64) (f:r<i) (e:i<n):Kw G p r c n (i*64+j)=if c<=j then BI G p r (i*64+j)^^^gm (gm (BI G p r (i*64+c)) (gi (G (p*64+c)))) (G (p*64+j)) else BI G p r (i*64+j):=by
 have a:(i*64+j)/64=i:=by omega
 have b:(i*64+j)%64=j:=by omega
 unfold Kw wk;rw [a,b,D6 G p r r j d,TT rfl];by_cases h:c<=j
 . rw [TT h,TT (by omega)]
 . rw [TS h,TS (by omega)]
theorem FK (d:∀ x,G x<256) (b:c<64) (o:p<n) (l:r<=p) (k:G (p*64+c)≠0) (q:∀ i,r<=i->i<n->∀ j,j<c->G (i*64+j)=0) (g:r<i) (e:i<n) :
 ∃ f,f<256/\dJ (pB (Kw G p r c n) i)=cA (dJ (pB G (if i=p then r else i))) f (dJ (pB G p))/\dJ (pB (Kw G p r c n) i) c=0:=by
 have m:∀ j,j<64->BI G p r (i*64+j)=G ((if i=p then r else i)*64+j):=by
  intro j a;rw [D6 G p r i j a,TS (by omega)];split<;>rfl
 refine ⟨gm (BI G p r (i*64+c)) (gi (G (p*64+c))),bt _ (zD d _ _ _),?_,?_⟩
 . funext j;show dJ (pB (Kw G p r c n) i) j=dJ (pB G (if i=p then r else i)) j^^^gm _ (dJ (pB G p) j);rw [iL,iL,iL];by_cases a:j<64
   . rw [TT a,TT a,TT a,Ky G p r c n i j b a g e,m j a];by_cases h:c<=j
     . rw [TT h]
     . rw [TS h,q p l o j (by omega),bD,U3]
   . rw [TS a,TS a,TS a,bD];exact (UR 0).symm
 . rw [iL,TT b,Ky G p r c n i c b b g e,TT lR];exact ny (zD d _ _ _) (d _) k
theorem D7 (a:∀ x,G x<256) (g:c<64) (l:p<n) (d:r<=p) (b:G (p*64+c)≠0) (u:∀ i,r<=i->i<n->∀ j,j<c->G (i*64+j)=0)
 (t:cQ m (nu (lz (Kw G p r c n) n) (r+1)) (c+1) k):cQ (m+1) (nu (lz G n) r) c (k+1):=by
 refine qD (p:=p) (T':=lz (Kw G p r c n) n) (tI a n) (tI (Kx a p r c n) n) (by rw [gj,gj]) d (by rw [gj];exact l) ?_ ?_ t
 . rw [gk,iL,TT g];exact b
 . intro i h q;rw [gj] at h;obtain ⟨f,s,e,o⟩:=FK a g l d b u q h;refine ⟨f,by rw [gj];split<;>omega,s,?_,?_⟩
   . rw [gk,gk,gk];exact e
   . rw [gk];exact o
structure GI (D:List a8) (c r n:Nat) (G:Nat->Nat):Prop where
 byt:∀ x,G x<256
 rle:r<=n
 zer:∀ i,r<=i->i<n->∀ j,j<c->G (i*64+j)=0
 tak:∀ k,cQ (64-c) (nu (lz G n) r) c k->mS D (r+k)
def GI.skip {D:List a8} (h:GI D c r n G) (f:c<64) (d:∀ i,r<=i->i<n->G (i*64+c)=0):GI D (c+1) r n G:=
 { h with
  zer:=λi b a j l=>by
   by_cases e:j=c
   . subst e;exact d i b a
   . exact h.zer i b a j (by omega)
  tak:=λk g=>by
   refine h.tak k ?_;have e:64-c=64-(c+1)+1:=(by omega);rw [e];refine su (λi a b=>?_) g;rw [gk,iL,TT f];rw [gj] at a;exact d i b a }
theorem GI.Tx {D:List a8} (h:GI D c r n G) (b:c<64) (a:r<=p) (d:p<n) (o:G (p*64+c)≠0):GI D (c+1) (r+1) n (Kw G p r c n) where
 byt:=Kx h.byt p r c n
 rle:=by omega
 zer:=λi y v j x=>by
  obtain ⟨f,_,e,l⟩:=FK h.byt b d a o h.zer (show r<i by omega) v;by_cases s:j=c
  . subst s;rw [iL,TT b] at l;exact l
  . have g:=congrFun e j;have t:=h.zer (if i=p then r else i) (by split<;>omega) (by split<;>omega) j (by omega);have u:=h.zer p a d j (by omega);rw [iL,TT (by omega)] at g;rw [g];show dJ (pB G (if i=p then r else i)) j^^^gm f (dJ (pB G p) j)=0;generalize (if i=p then r else i)=q at *;have m:j<64:=(by omega);rw [iL,iL,TT m,TT m,t,u,bD];exact UR 0
 tak:=λk w=>by
  have e:r+1+k=r+(k+1):=by omega
  rw [e];refine h.tak (k+1) ?_;have e:64-c=64-(c+1)+1:=by omega
  rw [e];exact D7 h.byt b d a o h.zer w
def GI.done {D:List a8} (h:GI D 64 r n G):mS D r:=
 h.tak 0 rfl
def Hd {D:List a8} (a:∀ l∈D,∀ x∈l,x<256) (x:Nat):gh D x<256:=by
 unfold gh;by_cases h:x/64<D.length
 . have e:D.getD (x/64) []=D[x/64]:=(by simp [h]);rw [e];exact dm (a _ (T6 h)) _
 . have e:D.getD (x/64) []=[]:=(by simp [Vj (Wy.1 h)]);rw [e];simp
theorem GI.start {D:List a8} (g:∀ l∈D,∀ x∈l,x<256) (h:rA D):GI D 0 0 D.length (gh D) where
 byt:=Hd g
 rle:=T8 _
 zer:=λ_ _ _ j a=>absurd a (Xx _)
 tak:=λk c=>by
  rw [Uj];have e:nu (lz (gh D) D.length) 0=nu D 0:=wt (by rw [gj]) (λi n b=>by
   rw [gk];funext j;rw [iL];have m:D.getD i []=D[i]:=(by simp [b]);by_cases a:j<64
   . rw [TT a];have d:(i*64+j)/64=i:=(by omega);have f:(i*64+j)%64=j:=(by omega);unfold gh dJ;rw [d,f,m]
   . rw [TS a];have:=h.2 i b;unfold dJ;simp [Vj (show (D[i]).length<=j by omega)]) 0
  rw [e] at c;exact c
def D8 (w:ZS) {ops:Array ZO} {rest:List ZO} {o:ZO} {a:Act} {Q:Exit->Act->ZS->Prop} (h:o.guard=ZW) (x y:ZM) (ho:o.op=.store 281 x y)
 (g:Nat) (f:Nat->Nat) (cs old:Array ZR) (l:a.eval x=Z6 (ZV ⟨g,0,ZW⟩)) (m:a.eval y=.agg cs) (d:w.heap[g]?=ZV (Z4 old 281 (0,0))) (hold:old.size=4096) (b:cs.size=4096) (c:∀ j,j<4096->cs[j]?=ZV (tv f j))
 (hK:∀ w2,w2.rowIs g 281 4096 (tv f)->w.grownBy w2 (ZV g)->wpList ZL ops Q rest (a.put o.dst ZX) w2):wpList ZL ops Q (o::rest) a w:=by
 refine Ww h 281 x y ho g cs l m 281 old d (by rw [Tryz.SL,b]) (by omega) (tH b c) (hK _ ?_ ?_)
 . exact ⟨cs,Vp w g old cs _ _ d,b,c⟩
 . refine ⟨rfl,rfl,rfl,by simp,λk n i=>?_⟩;have:g≠k:=λe=>i (by rw [e]);simp [World.setRow,VC,this]
theorem j9:∀ (a:List ZR) (o:Nat) (w:ZS) (f:Nat->ZR),w.rowIs b t n f->(w.setCells b o a).rowIs b t n (λx=>if o<=x/\x<o+a.length then a.getD (x-o) ZX else f x)
 | [],o,w,f,h=>h.congr (λi _=>by rw [TS (by simp)])
 | v::a,o,w,f,h=>(j9 a (o+1) _ _ (h.set o v)).congr (λi _=>by
  by_cases c:o+1<=i/\i<o+1+a.length
  . have e:i-o=(i-(o+1))+1:=(by omega);rw [TT c,TT (by simp;omega),e];simp
  . rw [TS c];by_cases d:i=o
    . subst d;rw [TT rfl,TT (by simp)];simp
    . rw [TS d,TS (by simp;omega)])
def iM:∀ (a:List ZR) (o:Nat) (w w':ZS),w.grownBy w' (ZV b)->w.grownBy (w'.setCells b o a) (ZV b)
 | [],_,_,_,h=>h
 | v::a,o,w,_,h=>iM a (o+1) w _ (eG h o v)
def xE (G:Nat->Nat) (i:Nat):List ZR:=(YE 64).map λj=>tv G (i*64+j)
def og (G:Nat->Nat) (i:Nat):(xE G i).length=64:=by simp [xE]
def BJ (G:Nat->Nat) (i j:Nat) (h:j<64):(xE G i).getD j ZX=tv G (i*64+j):=by simp [xE,h]
def xF (h:w.rowIs b t 4096 (tv G)) {i:Nat} (d:i<64):w.rangeAt b (i*64) (xE G i):=by
 intro j v a;have c:j<64:=by
  obtain ⟨q,_⟩:=U9.1 a;rwa [og] at q
 simp [xE,c] at a;rw [h.cell (by omega),a]
def xG (h:w.rowIs b t 4096 f) {i n:Nat} (a:i<64) (d:n<=64):w.there b (i*64) n:=λj c=>by
 rw [h.cell (by omega)];exact ⟨rfl,h.frozen _⟩
def FL (G:Nat->Nat) (i:Nat):(xE G i).toArray.all (λv=>v.oneCell')=ZU:=by
 rw [X5];intro j a;simp [xE,tv];rfl
theorem PZ (h:w.rowIs b t 4096 (tv G)) (p r:Nat):((w.setCells b (r*64) (xE G p)).setCells b (p*64) (xE G r)).rowIs b t 4096 (tv (BI G p r)):=by
 refine (j9 (xE G r) (p*64) _ _ (j9 (xE G p) (r*64) _ _ h)).congr (λx _=>?_);rw [og,og];by_cases e:p*64<=x/\x<p*64+64
 . have a:x/64=p:=(by omega);have c:x-p*64=x%64:=(by omega);rw [TT e,c,BJ _ _ _ (by omega)];unfold tv BI;rw [a];by_cases d:p=r
   . rw [TT d,d]
   . rw [TS d,TT rfl]
 . rw [TS e];by_cases f:r*64<=x/\x<r*64+64
   . have a:x/64=r:=(by omega);have c:x-r*64=x%64:=(by omega);rw [TT f,c,BJ _ _ _ (by omega)];unfold tv BI;rw [TT a]
   . rw [TS f];unfold tv BI;rw [TS (by omega),TS (by omega)]
def GpR (G:Nat->Nat) (r c n:Nat) (rv iv:ZR):Prop:=∃ k:Nat,r<=k/\k<=n/\rv=Z7 Z9 (r:Nat)/\iv=Z7 Z9 (k:Nat)/\∀ i,r<=i->i<k->G (i*64+c)=0
def GcR (w:ZS) (b:Nat) (D:List a8) (rv cv:ZR) (wr:ZS):Prop:=
 ∃ (r c:Nat) (G:Nat->Nat),c<=64/\rv=Z7 Z9 (r:Nat)/\cv=Z7 Z9 (c:Nat)/\GI D c r D.length G/\wr.rowIs b 281 4096 (tv G)/\bW w wr
theorem Kz (vd:ZR) (D:List a8) (w:ZS) (N:Rd w vd D) (hb:∀ l∈D,∀ x∈l,x<256) :
 ZP ZL 123 #[vd] w λe w'=>JE D w e w':=by
 have v:=ak N;have kr:=BF;obtain ⟨ao,c,rfl,hl,hc⟩:=N;clear hc;by_cases n:rA D
 . have hp:=n.1;have HF:=ak n;clear n;go_enter func123,ntmps123;go_wp2;go_step3;go_wp2_with (first
    | (go_at_call 160;refine (BD _ D _ v.o).mono ?_;rintro e wv ⟨d,_,rfl⟩;obtain rfl:=d HF.o)
    | (go_at_call 161;refine (No _ D _ v.o HF.o).mono ?_;rintro e K ⟨cs,rfl,Z,L,g⟩)
    | (refine D8 _ rfl (Z0 3) (Z0 11) rfl K.heap.size (gh D) cs _ rfl rfl (UC K _) (by simp) Z L ?_;intro wb R U))
   have S:bW wv wb:=gD (g.alloc g.size _) U (by rw [Uh];have:=g.size;omega) g.size;have Q:=GI.start hb HF.o;have kj:=g.size;have O:=ak Q;clear L Z g U kr Q;generalize K.heap.size=gb at *;go_step3;go_wp2;go_loopw [4,12] (λrv z wr=>GcR wv gb D rv z wr) (λ_ z _=>64-(intOf z).toNat)
   case atStart=>exact ⟨0,0,gh D,by omega,rfl,rfl,O.out,R,S⟩
   case round=>
    clear R S O;rename ZS=>wo;obtain ⟨r,a,G,kk,rfl,rfl,f,M,I⟩:=hrel;have ko:=f.rle;by_cases s:a<64
    . have E:=ak f;have y:=ak M;have C:=ak I;clear f M I;go_wp2;go_loop [4,6] (λrv J=>GpR G r a D.length rv J) (λ_ J=>D.length-(intOf J).toNat)
      case atStart=>exact ⟨r,TU _,ko,rfl,rfl,λi d q=>absurd d (by omega)⟩
      case round=>
       obtain ⟨p,kp,ks,rfl,rfl,t⟩:=hrel;by_cases km:p<D.length
       . have h8:wo.cell? ⟨gb,p*64+a,ZW⟩=ZV (Z7 .u8 ((G (p*64+a):Nat):Int)):=y.o.cell (by omega);have kg:=ak t;clear t;by_cases m:G (p*64+a)=0
         . rw [m] at h8;have HX:=ak m;clear m;go_wp2;go_round
           case rel=>
            refine ⟨p+1,by omega,by omega,rfl,by go_num,λi d q=>?_⟩;by_cases e:i=p
            . subst e;exact HX.o
            . exact kg.out i d (by omega)
           case measure=>simp [intOf];omega
         . have t0:(((G (p*64+a):Nat):Int)==0)=ZT:=(by rw [beq_eq_false_iff_ne];omega);have kb:=ak (E.out.Tx s kp km m);clear m;have H:wo.drew.rowIs gb 281 4096 (tv G):=y.o;have W:BI G p r (r*64+a)=G (p*64+a):=(by rw [D6 G p r r a s,TT rfl]);have hj:=ak W;have ka:=ak (zD E.out.byt p r);have A:p<64:=(by omega);have B:r<64:=(by omega);clear W;obtain ⟨u,k9,Y,X⟩:∃ u,(wo.drew.setCells gb (r*64) (xE G p)).setCells gb (p*64) (xE G r)=u/\u.rowIs gb 281 4096 (tv (BI G p r))/\wo.drew.grownBy u (ZV gb):=
            ⟨_,rfl,PZ H p r,iM (b:=gb) (xE G r) (p*64) wo.drew _ (iM (b:=gb) (xE G p) (r*64) wo.drew wo.drew (Ws _ _))⟩
           have kf:=ak Y;have kc:=ak X;have P:=ak k9;have k:=ak H;clear Y X k9 H;go_wp2;refine Ka gb p r (xE G p) (xE G r) (by kernel_rfl) (λ_ _ _ _ _ h=>h) rfl A B rfl rfl rfl (og _ _) (og _ _) (FL _ _) (FL _ _) (xF k.out A) (xF k.out B) (xG k.out B lR) (xG k.out A lR) ?_;rw [P.out];clear P k;unfold J9;generalize (xE G p).toArray=cp;generalize (xE G r).toArray=cr;go_wp2_with (go_at_call 162;refine (BE gb r a D.length (BI G p r) _ ka.out kf.out (by omega) s hp).mono ?_;rintro e w2 ⟨rfl,F,V⟩);have kh:w2.rowIs gb 281 4096 (tv (Kw G p r a D.length)):=by
            rw [hj.out] at F;exact F
           have j:=gC kc.out V;have ki:=gD C.out (w:=wo) ⟨j.os,j.tape,j.output,j.size,j.block⟩ C.out.size kj;clear F V j;go_wp2;go_roundw
           case rel=>exact ⟨r+1,a+1,Kw G p r a D.length,by omega,by go_num,by go_num,kb.out,kh,ki⟩
           case measure=>simp [intOf];omega
       . have ke:=ak (E.out.skip s (λi d q=>t i d (by omega)));clear t;go_wp2;go_roundw
         case rel=>exact ⟨r,a+1,G,by omega,rfl,by go_num,ke.out,y.o,C.out⟩
         case measure=>simp [intOf];omega
    . have T:a=64:=(by omega);rw [T] at f;have HK:=ak f.done;clear f T;go_wp2;try rw [Exit.noGoto_ret]
      go_ret;exact ⟨λ_=>⟨r,by omega,rfl,HK.o⟩,λh=>absurd HF.o h,I⟩
 . have HN:=ak n;clear n;go_enter func123,ntmps123;go_wp2;go_step3;go_wp2_with (go_at_call 160;refine (BD _ D _ v.o).mono ?_;rintro e w' ⟨_,q,rfl⟩;obtain rfl:=q HN.o);try rw [Exit.noGoto_ret]
   go_ret;exact ⟨λh=>absurd h HN.o,λ_=>rfl,TW _ _⟩
def eu.rdH {T:List (Nat×Nat×a8)} {M:List a8} (h:eu w B v T) (c:cL T D M) (k:∀ r∈M,r.length=D) (hl:M.length<=100000):Rd w v M:=by
 have a:T.length=M.length:=by simpa using Uy YK c
 obtain ⟨ao,cap,rfl,f⟩:=h.slice;refine ⟨ao,cap,by rw [a],by omega,λm=>?_⟩;obtain ⟨g,rfl⟩:=f (by intro e;rw [e] at a;exact m (UU a.symm));refine ⟨g,0,rfl,λi d=>?_⟩;have b:i<T.length:=by omega
 refine ⟨fx T[i],by rw [Uj];exact h.Sk b,?_⟩;have:=h.S3 b;have j:T[i].2=(D,M[i]):=by
  have:=Uy (λl=>l[i]?) c;simpa [b,d] using this
 rw [j] at this;have e:(M[i]).take D=M[i]:=by rw [<- k _ (T6 d),Vu]
 rw [e] at this;exact this
def Rd.byte {D:List a8} (h:Rd w v D):∀ l∈D,∀ x∈l,x<256:=by
 rcases h.cases with ⟨rfl,_⟩|⟨b,off,c,rfl,_,a⟩
 . intro l hl;simp at hl
 . intro l hl;obtain ⟨i,d,rfl⟩:=Xu.1 hl;obtain ⟨u,_,e⟩:=a i d;exact e.lt
def cI (D L G:Nat):(aT D L G).length=D+L+G:=by simp [aT];omega
def kl (D L G:Nat):∀ r∈aT D L G,r.length=D:=by
 intro r a;simp only [aT,Ui,T9,Uu] at a;rcases a with (⟨i,_,rfl⟩|⟨i,_,rfl⟩)|⟨i,_,rfl⟩
 . simp [dh]
 . simp [dy]
 . simp [de]
theorem oh (D L G:Nat) (c:D<=12) (d:G<=4):∀ r∈aT D L G,∀ x∈r,x<256:=by
 intro r b x a;simp only [aT,Ui,T9,Uu] at b;rcases b with (⟨i,_,rfl⟩|⟨i,_,rfl⟩)|⟨i,e,rfl⟩
 . rcases X8 a with h|h
   . have:=Vz h;omega
   . omega
 . simp only [dy,T9] at a;obtain ⟨j,_,rfl⟩:=a;split<;>decide
 . simp only [de,T9,Uu] at a;obtain ⟨j,f,rfl⟩:=a;exact iu (rq (by omega) (by omega))
def gq (D L G lost:Nat):Prop:=mu (nu (cW (aT D L G) lost (D+L+G)) 0) 0 D
def BK {G lost:Nat} (b:D<=12) (c:G<=4) (h:mS (cW (aT D L G) lost (D+L+G)) k):k=D↔gq D L G lost:=by
 have a:=te (aT D L G) lost (D+L+G) (by rw [cI];omega);exact Gs (λl hl=>oh D L G b c l (a l hl)) (λl hl=>by rw [kl D L G l (a l hl)];omega) (by omega) h
def BL (D L G lost:Nat) (b:D<=12) (d:L<=4) (c:G<=4):rA (cW (aT D L G) lost (D+L+G)):=by
 refine ⟨TV (jB _ _ _) (by omega),λi a=>?_⟩;rw [kl D L G _ (te (aT D L G) lost (D+L+G) (by rw [cI];omega) _ (T6 a))];omega
def KA (D L G lost:Nat) (w:ZS) (e:Ending) (w':ZS):Prop:=∃ b:Bool,e=Z3 (Z1 b)/\(b=ZU↔gq D L G lost)/\bW w w'
theorem kT (D L G lost:Nat) (E:cV D L G=ZU) (i:D<=12) (x:1<=L) (o:L<=4) (j:G<=4) (u:D%L=0) (hl:lost<18446744073709551616) (w:ZS) :
 ZP ZL 92 #[.agg #[Z7 Z9 D,Z7 Z9 L,Z7 Z9 G],Z7 Z8 lost] w λe w'=>KA D L G lost w e w':=by
 go_enter func92,ntmps92;go_wp2_with fail;refine (jZ D L G E i x o j u _).mono ?_;rintro e w1 ⟨v,T,rfl,g,p,b⟩;try change ZQ _ _ _ at g
 try change ZQ _ _ _ at b
 rw [Uh] at g b;have s:=b.size;try change ZQ _ _ _ at s
 rw [Uh] at s;obtain ⟨l,H,I⟩:=cP b;have q:=g.rdH p (kl D L G) (by rw [cI];omega);have n:bW w w1:=(bA _ _).trans (b.mono (by omega));have A:=ak q;have z:=ak n;clear g p b H I q n;go_wp2;go_region_held (λw'=>w'.cell? ⟨w.heap.size,0,ZW⟩=ZV (Z7 Z9 (D:Nat))) (first|assumption|exact l)
  (first
   | (go_at_call 124;refine (J8 _ (aT D L G) lost _ (show Rd w1.drew _ _ from A.out) hl (by rw [cI];omega)).mono ?_;rintro e w2 ⟨M,rfl,f⟩;rw [cI] at f
      have d:w2.cell? ⟨w.heap.size,0,ZW⟩=ZV (Z7 Z9 (D:Nat)):=(by rw [f.choose_spec.2.2.2.cell (Uf l)];exact l);have h:=ak f;clear f)
   | (go_at_call 123;refine (Kz _ _ _ (h.out.rd (TV (jB _ _ _) (by omega))) (h.out.rd (TV (jB _ _ _) (by omega))).byte).mono ?_
      rintro e J ⟨m,_,c⟩;obtain ⟨k,K,rfl,r⟩:=m (BL D L G lost i o j);have F:J.cell? ⟨w.heap.size,0,ZW⟩=ZV (Z7 Z9 (D:Nat)):=(by rw [c.cell (Uf d)];exact d);have B:=ak r;have y:=ak c;clear m r c))
 go_wp2;go_ret;have a:=h.out.choose_spec.2.2.2;have c:=y.out;have C:=a.size;change w1.heap.size<=_ at C;have t:bW w w2:=z.out.trans ((show bW w1 w2 from ⟨a.os,a.tape,a.output,a.size,a.block⟩).mono (by omega));refine ⟨((k:Int)==(D:Int)),rfl,?_,t.trans (c.mono (by omega))⟩;rw [<- BK i j B.out];simp;omega
theorem rZ (lost k:Nat) (hl:lost<18446744073709551616) (b:k<=64) (w:ZS) :
 ZP ZL 17 #[Z7 Z8 lost,Z7 Z9 k] w λe w'=>e=Z3 (Z1 (((lost/2^k%2:Nat):Int)==1))/\w'=w:=by
 have a:=FC lost k hl;go_enter func17,ntmps17;go_wp2;go_ret;exact ⟨rfl,rfl⟩
theorem pC (D L G lost:Nat) (Z:cV D L G=ZU) (y:D<=12) (hL:1<=L) (U:L<=4) (z:G<=4) (N:D%L=0) (hl:lost<18446744073709551616) (w:ZS) :
 ZP ZL 23 #[.agg #[Z7 Z9 D,Z7 Z9 L,Z7 Z9 G],Z7 Z8 lost] w λe w'=>KA D L G lost w e w':=by
 obtain ⟨i0,kc,kj,kk,km⟩:=Ut Tryz.RV;go_enter func23,ntmps23;go_wp2_with fail;refine (vJ D L G Z y hL U z N _).mono ?_;rintro e w1 ⟨v,T,rfl,n,P,f⟩;try change ZQ _ _ _ at n
 try change ZQ _ _ _ at f
 rw [Uh] at n f;have kh:=f.size;try change ZQ _ _ _ at kh
 rw [Uh] at kh;obtain ⟨p0,p1,p2⟩:=cP f;have hv:=n.rdH P (kl D L G) (by rw [cI];omega);have K:bW w w1:=(bA _ _).trans (f.mono (by omega));have k0:=ak K;have C:=cI D L G;have kf:(aT D L G).length<=64:=by omega
 clear n P f p1 p2 K;have S:=ak (λk=>BK (lost:=lost) (L:=L) (k:=k) y z);have R:=ak (BL D L G lost y U z);rw [<- C] at S R;have k9:=ak C;clear C Z N;generalize aT D L G=M at *;rcases hv.cases with ⟨rfl,ao,c,rfl⟩|⟨b,off,c,rfl,_,B⟩
 . exfalso;have:=k9.out;simp at this;omega
 . clear hv;go_wp2;go_loopw [7,8] (λv i wr=>KpR w1 M lost v i wr) (λ_ i _=>M.length-(intOf i).toNat)
   case atStart=>exact ⟨0,T8 _,rfl,Rl.nil _⟩
   case round=>
    rename ZS=>wo;obtain ⟨k,hk,rfl,a⟩:=hrel;have d:wo.cell? ⟨w.heap.size,0,ZW⟩=ZV (Z7 Z9 (D:Nat)):=(by rw [a.choose_spec.2.2.2.cell (Uf p0)];exact p0);by_cases X:k<M.length
    . obtain ⟨u,F,x⟩:=B k X;have ki:wo.cell? ⟨b,off+k,ZW⟩=ZV u:=(by rw [a.choose_spec.2.2.2.cell (Uf F)];exact F);obtain ⟨au,cu,rfl,_⟩:=id x;have HK:=ak (jB M lost k);have H:=ak x;have O:M.getD k []=M[k]:=(by simp [X]);have k5:=ak O;clear B x F O;by_cases m:lost/2^k%2=0
      . have r:=ak (show (((lost/2^k%2:Nat):Int)==1)=ZT by rw [m];rfl);have k6:=ak (FB M lost k m);clear m;obtain ⟨xs,s,Q,t,A⟩:=a;have HX:=ak Q;have k8:=ak s;have kp:xs.length<=64:=(by rw [s];exact TV HK.o (by omega));have hs:=A.size;clear Q s;go_wp2_with (first
         | (go_at_call 17;refine (rZ lost k hl (by omega) _).mono ?_;rintro e w' ⟨rfl,l⟩;have E:=l.symm;clear l;subst E;rw [r.o])
         | (at_builtin;refine WB _ rfl (Z0 29) (Z0 34) 108 rfl w1.heap.size 40 i0 (Z5 ZW 0 0) 1 24 VL kc kj kk km rfl (by decide) _ xs.length xs rfl (aq t (bA _ _)) ⟨wo.heap.size,0,ZW⟩ 1 1 [.slice au (M[k]).length cu] rfl rfl (lT _ _ rfl _ _) (by intro q Y;simp at Y;rw [Y];exact H.o.one) (by unfold maxLen;omega) (by omega) (by rw [Uh];omega) ?_;intro v' w2 J I kg))
        have V:=Rl.push k8.out HX.o t A rfl H.o I J;rw [<- k5.out,<- k6.out] at V;clear t J I kg A ki d;go_wp2;go_roundw
        case rel=>exact ⟨k+1,by omega,by go_num,V⟩
        case measure=>simp [intOf];omega
      . have g:lost/2^k%2=1:=(by omega);have r:=ak (show (((lost/2^k%2:Nat):Int)==1)=ZU by rw [g];rfl);have k7:=ak (Bt M lost k m);clear m g;have p:=ak a;clear a;go_wp2_with (go_at_call 17;refine (rZ lost k hl (by omega) _).mono ?_;rintro e w' ⟨rfl,l⟩;have E:=l.symm;clear l;subst E;rw [r.o]);go_roundw
        case rel=>exact ⟨k+1,by omega,by go_num,by rw [k7.out];exact p.o⟩
        case measure=>simp [intOf];omega
    . have ke:k=M.length:=(by omega);rw [ke] at a;have p:=ak a;have ka:=ak (a.rd (TV (jB _ _ _) (by omega)));clear B a;go_wp2_with fail;refine (GG _ _ _ ka.out).mono ?_;rintro e w3 ⟨g,_,h⟩;obtain ⟨j,hj,rfl,hx⟩:=g R.out;have hb:w3.cell? ⟨w.heap.size,0,ZW⟩=ZV (Z7 Z9 (D:Nat)):=(by rw [h.cell (Uf d)];exact d);have kb:=ak hx;have hy:=ak h;clear g hx h;go_wp2;go_ret;have W:=p.o.choose_spec.2.2.2;have h:=hy.out;have ko:=W.size;refine ⟨((j:Int)==(D:Int)),rfl,?_,(k0.out.trans (W.mono (by omega))).trans (h.mono (by omega))⟩;rw [<- S.out _ kb.out];simp;omega
def vP:Array ZR->Nat->List ZR->Array ZR
 | cur,_,[]=>cur
 | cur,o,v::r=>vP (cur.setIfInBounds o v) (o+1) r
def xH:∀ (a:List ZR) (o:Nat) (cur:Array ZR),(vP cur o a).size=cur.size
 | [],_,_=>rfl
 | v::r,o,cur=>by unfold vP;rw [xH r];simp
def xI:∀ (a:List ZR) (o:Nat) (cur:Array ZR),o+a.length<=cur.size->(vP cur o a).toList.take (o+a.length)=cur.toList.take o++a
 | [],o,cur,_=>by simp [vP]
 | v::r,o,cur,h=>by
  simp only [UA] at h ⊢;unfold vP;have:=xI r (o+1) (cur.setIfInBounds o v) (by simp;omega);rw [show o+(r.length+1)=o+1+r.length by omega,this,aaY];have e:(cur.toList.set o v).take (o+1)=cur.toList.take o++[v]:=by
   rw [Vd,List.take_set_of_le (TU o),Yy (by simp;omega)];rfl
  rw [e,Uz];rfl
def jm:∀ (c:List ZR) (o:Nat) (w:ZS) {b:Nat} {cur:Array ZR} {t:ZN} {a:Nat×Nat},w.heap[b]?=ZV (Z4 cur t a)->(w.setCells b o c).heap[b]?=ZV (Z4 (vP cur o c) t a)
 | [],_,_,_,_,_,_,h=>h
 | v::r,o,w,b,cur,t,a,h=>by
  show ((w.setCell ⟨b,o,ZW⟩ v).setCells b (o+1) r).heap[b]?=_;exact jm r (o+1) _ (by simp [World.setCell,VC,h])
def cC (w:ZS) (b o:Nat) (a:List ZR):w.grownBy (w.setCells b o a) (ZV b):=by
 obtain ⟨d,f,g⟩:=jk b a o w;exact ⟨d,f,g,by rw [jj];exact TU _,λk _ c=>aR b a o w k (λe=>c (by rw [e]))⟩
theorem kU (w:ZS) (base:Nat) (t tx p e:ZN) (i:TypeInfo) (z:ZR) (size bytes:Nat) (o:P.underlying t=ZV (.slice e)) (h:P.info? e=ZV i) (D:i.zero=ZV z)
 (F:i.size=size) (J:i.bytes=bytes) (O:z.cells.size=size) (v:ZR) (n:Nat) (xs:List ZR) (d:w.ownsRow base e size v n xs)
 (x:ZR) (m:Nat) (news:List ZR) (a:Src P size tx x m news w) (B:n+m<=maxLen) (A:(n+m)*bytes<=140737488355328) (E:base<=w.heap.size) :
 ∃ q w',(Builtin.append_ #[t,tx] p #[v,x]).run P w=.ok q w'/\w'.ownsRow base e size q (n+m) (xs++news)/\w.grownBy w' v.ownBlock/\(q.ownBlock=v.ownBlock\/q.ownBlock=ZV w.heap.size):=by
 subst F;subst J;have:n+m<=9223372036854775807:=by simp only [maxLen] at B;omega
 have f:(xs++news).length=(n+m)*i.size:=by rw [Ua,d.1,a.newsLen,XG]
 have grown:∀ (old:Nat),∀ (row:Option Nat),
  (w.drew.alloc (Z4 ((xs++news).toArray++Builtin.zeroCells z.cells (grownCap w (n+m) old e-(n+m))) e)).ownsRow base e i.size
   (Z5 (ZV ⟨w.heap.size,0,ZW⟩) (n+m) (grownCap w (n+m) old e)) (n+m) (xs++news) /\
  w.grownBy (w.drew.alloc (Z4 ((xs++news).toArray++Builtin.zeroCells z.cells (grownCap w (n+m) old e-(n+m))) e)) row:=by
  intro old row;have N:=aaF w (n+m) old e;have s:grownCap w (n+m) old e<=maxLen:=aaG w (n+m) old e B;refine ⟨⟨f,.inr ⟨w.heap.size,_,_,rfl,E,aaH w.drew _,N,s,?_,?_⟩⟩,⟨rfl,rfl,rfl,by simp,λk l _=>(UB w.drew _ k l:_)⟩⟩
  . rw [Array.size_append,UH,size_zeroCells,O,f,<- XG];congr 1;omega
  . rw [Array.toList_append,<- f];exact Ye
 rcases d.2 with ⟨rfl,rfl⟩|⟨g,cap,cur,rfl,I,y,T,s,C,G⟩
 . have Q:xs=[]:=UU (by simpa using d.1);subst Q;by_cases L:m=0
   . subst L;have M:news=[]:=UU (by simpa using a.newsLen);subst M;refine ⟨Z5 ZW 0 0,w,?_,UK w base e i.size,⟨rfl,rfl,rfl,TU _,λ_ _ _=>rfl⟩,.inl rfl⟩;rcases a.kind with ⟨R,l⟩|l<;>simp [Builtin.append_,UL o,UL l,sizeOf,typeInfo,h,a.len,a.cells]
   . have b:=run_append_grow_src (P:=P) (w:=w) t tx p e i z o h D ZW 0 0 [] (by simp [Builtin.firstCells]) x m news a (by omega) (by omega) (aaE (by omega) (by simpa using A));have c:=grown 0 (Value.ownBlock (Z5 ZW 0 0));simp only [Uj,Uq] at c b ⊢;exact ⟨_,_,b,c.1,c.2,.inr rfl⟩
 . by_cases r:n+m<=cap
   . have H:n*i.size+news.length<=cur.size:=(by rw [a.newsLen,C,<- XG];exact WU _ r);have b:=run_append_room_src (P:=P) (w:=w) t tx p e i o h g 0 n cap x m news a r (λj K=>by simp [World.cell?,y];omega) (λj K=>by simp [World.frozen?,y]);rw [Uj] at b;refine ⟨_,_,b,⟨f,.inr ⟨g,cap,_,rfl,I,jm news _ w y,r,s,by rw [xH];exact C,?_⟩⟩,cC w g _ news,.inl rfl⟩;rw [XG,<- a.newsLen,xI news _ cur H,G]
   . have holds:∀ j u,xs[j]?=ZV u->w.cell? ((⟨g,0,ZW⟩:Addr).add j)=ZV u:=d.cells (g:=g) rfl;have b:=run_append_grow_src (P:=P) (w:=w) t tx p e i z o h D (ZV ⟨g,0,ZW⟩) n cap xs (run_firstCells_some w.drew i.size n ⟨g,0,ZW⟩ n cap xs d.1 (by simpa using holds)) x m news a (by omega) (by omega) (aaE (by omega) A);have c:=grown cap (Value.ownBlock (Z5 (ZV ⟨g,0,ZW⟩) n cap));exact ⟨_,_,b,c.1,c.2,.inr rfl⟩
def ae (w:ZS) {ops:Array ZO} {rest:List ZO} {o:ZO} {a:Act} {Q:Exit->Act->ZS->Prop} (g:o.guard=ZW) (s x:ZM) (t tx:ZN)
 (ho:o.op=.call { callee:=.builtin .append,args:=#[s,x],argTypes:=#[t,tx] }) (base:Nat) (e:ZN) (i:TypeInfo) (z:ZR) (size bytes:Nat) (ht:P.underlying t=ZV (.slice e)) (hi:P.info? e=ZV i) (hz:i.zero=ZV z)
 (h5:i.size=size) (h8:i.bytes=bytes) (ha:z.cells.size=size) (v:ZR) (n:Nat) (xs:List ZR) (hv:a.eval s=v) (h6:w.ownsRow base e size v n xs)
 (u:ZR) (hu:a.eval x=u) (m:Nat) (news:List ZR) (hs:Src P size tx u m news w) (h7:n+m<=maxLen) (h0:(n+m)*bytes<=140737488355328) (h1:base<=w.heap.size)
 (h:∀ b w',w'.ownsRow base e size b (n+m) (xs++news)->w.grownBy w' v.ownBlock->(b.ownBlock=v.ownBlock\/b.ownBlock=ZV w.heap.size)->wpList P ops Q rest (a.put o.dst b) w'):wpList P ops Q (o::rest) a w:=by
 obtain ⟨b,w',j,c,d,f⟩:=kU (P:=P) w base t tx o.type e i z size bytes ht hi hz h5 h8 ha v n xs h6 u m news hs h7 h0 h1;refine VT g λK hK=>?_;unfold Oper.wp execOp;simp only [ho,resolve,invoke,builtin,UE,VJ,UQ,YA,U0,Wl,hv,hu,j];exact hK _ _ (h b w' c d f)
def pD (w:ZS) (t u q e:ZN) (k:IntKind) (i:TypeInfo) (z:ZR) (l:P.underlying t=ZV (.slice e)) (m:P.underlying u=ZV (.int k)) (g:P.info? e=ZV i) (p:i.zero=ZV z) (f:i.bytes=1) (j:i.size=1)
 (n:Nat) (a:0<n) (r:n<=1000000) :
 (Builtin.append_ #[t,u] q #[Z5 ZW 0 0,Z7 Z9 n]).run P w =
  .ok (Z5 (ZV ⟨w.heap.size,0,ZW⟩) n (grownCap w n 0 e)) (w.drew.alloc (Z4 (Builtin.zeroCells z.cells n++Builtin.zeroCells z.cells (grownCap w n 0 e-n)) e)):=by
 have h:n≠0:=by omega
 have d:¬ (9223372036854775807<(n:Int)):=by omega
 have o:IntKind.i64.wrap (n:Int)=n:=by rw [Ux];omega
 have hl:¬ ((n:Int)<0):=by omega
 have c:¬ (281474976710656<Builtin.nextslicecap n 0):=by rw [nextslicecap_zero a];omega
 have b:¬ (281474976710656<(n:Int)):=by omega
 simp [Builtin.append_,UL l,UL m,sizeOf,typeInfo,zeroValue,g,p,f,j,h,d,c,b,o,hl,Question.forced,run_firstCells_none,newRow,grownCap,asInt,asIntOf]
def Tryz.R5:(ZL.info? 5).map (λi=>(i.zero,i.size,i.bytes))=ZV (ZV (Z7 .u8 0),1,1):=by kernel_rfl
def He (w:ZS) (n c:Nat) (b:n<=c) (a:c<=maxLen):(w.drew.alloc (Z4 (Builtin.zeroCells (Value.cells (Z7 .u8 0)) n++Builtin.zeroCells (Value.cells (Z7 .u8 0)) (c-n)) 5)).ownsRow w.heap.size 5 1 (Z5 (ZV ⟨w.heap.size,0,ZW⟩) 0 c) 0 []:=by
 refine ⟨rfl,.inr ⟨w.heap.size,c,_,rfl,TU _,Ug w.drew _,T8 _,a,?_,by simp⟩⟩;simp [Builtin.zeroCells,Value.cells];omega
def zE (w w':ZS) {ops:Array ZO} {rest:List ZO} {o:ZO} {a:Act} {Q:Exit->Act->ZS->Prop} (b:o.guard=ZW) (s x:ZM) (t tx:ZN)
 (ho:o.op=.call { callee:=.builtin .append,args:=#[s,x],argTypes:=#[t,tx] }) (v u v':ZR) (hv:a.eval s=v) (hu:a.eval x=u) (hr:∀ c,(Builtin.append_ #[t,tx] c #[v,u]).run P w=.ok v' w')
 (h:wpList P ops Q rest (a.put o.dst v') w'):wpList P ops Q (o::rest) a w:=by
 refine VT b λK hK=>?_;unfold Oper.wp execOp;simp only [ho,resolve,invoke,builtin,UE,VJ,UQ,YA,U0,Wl,hv,hu,hr];exact hK _ _ h
theorem KB (n:Nat) (r:n<=1000000) (w:ZS):ZP ZL 170 #[Z5 ZW 0 0,Z7 Z9 n] w λe w'=>∃ v,e=Z3 v/\w'.ownsRow w.heap.size 5 1 v 0 []/\bW w w':=by
 obtain ⟨s,k,m,p,q⟩:=Ut Tryz.R5;by_cases j:0<n
 . have a:=λt=>pD (P:=ZL) w 40 3 t 5 .i64 s (Z7 .u8 0) Um WM k m q p n j r;have f:n<=grownCap w n 0 5:=aaF w n 0 5;have d:grownCap w n 0 5<=maxLen:=aaG w n 0 5 (by unfold maxLen;omega);have c:=He w n (grownCap w n 0 5) f d;have b:bW w (w.drew.alloc (Z4 (Builtin.zeroCells (Value.cells (Z7 .u8 0)) n++Builtin.zeroCells (Value.cells (Z7 .u8 0)) (grownCap w n 0 5-n)) 5)):=(TW _ w).drew.alloc lR _;obtain ⟨cp,g⟩:=nM (grownCap w n 0 5);rw [g] at a f d c b;obtain ⟨w2,h⟩:=nM (w.drew.alloc (Z4 (Builtin.zeroCells (Value.cells (Z7 .u8 0)) n++Builtin.zeroCells (Value.cells (Z7 .u8 0)) (cp-n)) 5));rw [h] at a c b;have H:=al c b;have i:=ak a;clear c b h g d a;go_enter func170,ntmps170;go_wp2_with (show wpList _ _ _ ({ dst:=ZV 22,op:=_,type:=_,pos:=_,after:=_,guard:=_ }::_) _ _;refine zE w w2 rfl (Z0 20) (Z0 21) 40 3 rfl (Z5 ZW 0 0) (Z7 Z9 n) (Z5 (ZV ⟨w.heap.size,0,ZW⟩) n cp) rfl rfl (by exact i.o) ?_);go_ret;exact ⟨_,rfl,H.o.1,H.o.2⟩
 . have l:n=0:=(by omega);subst l;go_enter func170,ntmps170;go_wp2;go_ret;exact ⟨_,rfl,UK _ _ _ _,TW _ _⟩
def ef {size:Nat} {xs:List ZR} (h:w.ownsRow base e size v n xs) {k:Nat} (a:v.ownBlock=ZV k):base<=k:=by
 rcases h.2 with ⟨c,_⟩|⟨g,cap,cur,b,d,_⟩
 . rw [c] at a;simp [Value.ownBlock] at a
 . rw [b] at a;simp [Value.ownBlock] at a;omega
def CcR (w:ZS) (K:Nat) (s i:ZR) (wr:ZS):Prop:=∃ k:Nat,k<=K/\i=Z7 Z9 k/\s=Z7 Z9 ((44*k:Nat):Int)/\wr=w
def CdR (w:ZS) (R:List a8) (v i:ZR) (wr:ZS):Prop:=∃ k:Nat,k<=R.length/\i=Z7 Z9 k/\wr.ownsRow w.heap.size 5 1 v (44*k) (aJ (R.take k).flatten)/\bW w wr
theorem Hf {R:List a8} (T:ML w base g R) (W:R.length<=1000):ZP ZL 136 #[Z5 (ZV ⟨g,0,ZW⟩) R.length c] w λe w'=>∃ v,e=Z3 v/\w'.ownsRow w.heap.size 5 1 v (44*R.length) (aJ R.flatten)/\bW w w':=by
 obtain ⟨i0,Z,hx,hy,hz⟩:=Ut Tryz.R5;obtain ⟨K,hK⟩:=nM (R.length);obtain ⟨_,Y,G⟩:=T;have f:=al G hK;rw [hK] at W ⊢;clear G hK;go_enter func136,ntmps136;go_wp2_with fail;go_loopw [3,11] (λs i wr=>CcR w K s i wr) (λ_ i _=>K-(intOf i).toNat)
 case atStart=>exact ⟨0,T8 _,rfl,rfl,rfl⟩
 case round=>
  obtain ⟨k,k6,rfl,rfl,P⟩:=hrel;obtain rfl:w=wr:=P.symm;clear P;by_cases D:k<K
  . obtain ⟨b,off,l,c1,B,m,n,p,C⟩:=f.o.1 k (by rw [f.o.2];exact D);clear B m n p C;have y:((44*k:Nat):Int)+44=((44*(k+1):Nat):Int):=(by omega);have U:44*(k+1)<=44000:=(by omega);obtain ⟨M,r⟩:=nM (44*k);obtain ⟨M',A⟩:=nM (44*(k+1));rw [r,A] at y;rw [A] at U;rw [r];go_wp2;refine ⟨⟨k+1,by omega,by go_num,by rw [A],rfl⟩,by simp [intOf];omega⟩
  . have hv:k=K:=(by omega);subst hv;obtain ⟨M,r⟩:=nM (44*k);have k0:M<=44000:=(by omega);rw [r];go_wp2_with fail;refine (KB M (by omega) w).mono ?_;rintro e w1 ⟨v,rfl,d,a⟩;have t:=al d a;clear d a;go_wp2_with fail;go_loopw [6,27] (λv i F=>CdR w R v i F) (λ_ i _=>k-(intOf i).toNat)
    case atStart=>exact ⟨0,T8 _,rfl,t.o.1,t.o.2⟩
    case round=>
     clear t;obtain ⟨j,hr,rfl,d,a⟩:=hrel;rw [f.o.2] at hr;by_cases D:j<k
     . have J:j<R.length:=(by rw [f.o.2];exact D);obtain ⟨b,off,l,c1,B,m,n,p,C⟩:=f.o.1 j J;have Q:wr.cell? ⟨g,j,ZW⟩=ZV (Z5 (ZV ⟨b,off,ZW⟩) 44 l):=(Uk (a.block g Y)).trans c1;have z:Src ZL 1 40 (Z5 (ZV ⟨b,off,ZW⟩) 44 l) 44 (aJ R[j]) wr:=Vi wr Um ⟨b,off,ZW⟩ 44 l (aJ R[j]) (by rw [aW,p]) (λq u hq=>by have I:wr.cell? ⟨b,off+q,ZW⟩=ZV u:=(Uk (a.block b m)).trans (n q u hq);unfold Addr.add;split<;>first|exact I|(rename_i S;subst S;exact I)) (λu hu=>by
        obtain ⟨x,_,rfl⟩:=T9.1 hu;rfl)
       have h:aJ (R.take (j+1)).flatten=aJ (R.take j).flatten++aJ R[j]:=by
        rw [Vd,Uc J,YL,abb,bJ];simp
       obtain ⟨E,N⟩:=nM (aJ R[j]);obtain ⟨rt,L⟩:=nM (aJ (R.take j).flatten);rw [N] at z h;rw [L] at d h;have O:=a.size;have H:=a5 d a z h;have k5:44*j+44<=44000:=(by omega);clear d a z h B m n p C c1 N L;go_wp2_with (show wpList _ _ _ ({ dst:=ZV 33,op:=_,type:=_,pos:=_,after:=_,guard:=_ }::_) _ _;refine ae _ rfl (Z0 31) (Z0 32) 40 40 rfl w.heap.size 5 i0 (Z7 .u8 0) 1 1 Um Z hx hy hz rfl _ (44*j) rt (by rfl) (by exact H.o.1) _ (by rfl) 44 E (by exact H.o.2.2.1) (by unfold maxLen;omega) (by omega) (by exact O) ?_;intro v' w3 V X _);obtain ⟨d,a,_,h⟩:=H.o;refine ⟨⟨j+1,by rw [f.o.2];omega,by go_num,?_,a.grown X O λq e=>ef d e⟩,by simp [intOf];omega⟩;rw [h,show 44*(j+1)=44*j+44 by omega];exact V
     . have hs:j=k:=(by omega);subst hs;have H:=al d a;clear d a;go_wp2;go_ret;refine ⟨_,rfl,?_,H.o.2⟩;have:=H.o.1;rw [UI (by rw [f.o.2];exact TU _)] at this;exact this
def Rk (v b g N gone sp:Nat):Array ZR:=#[Z6 (ZV ⟨v,0,ZW⟩),Z7 Z9 b,Z5 (ZV ⟨g,0,ZW⟩) N N,Z7 Z8 gone,Z7 Z8 sp]
def eh (w:ZS) (r v b g N gone sp:Nat):Prop:=w.heap[r]?=ZV (Z4 (Rk v b g N gone sp) 200 (0,0))
def eh.keep {v:Nat} (h:eh w r v b g N gone sp) (e:w'.heap[r]?=w.heap[r]?):eh w' r v b g N gone sp:=e.trans h
def eh.lt {v:Nat} (h:eh w r v b g N gone sp):r<w.heap.size:=(T5.1 h).1
def eh.cells {v:Nat} (h:eh w r v b g N gone sp):w.cell? ⟨r,0,ZW⟩=ZV (Z6 (ZV ⟨v,0,ZW⟩))/\w.cell? ⟨r,1,ZW⟩=ZV (Z7 Z9 b)/\w.cell? ⟨r,2,ZW⟩=ZV (Z5 (ZV ⟨g,0,ZW⟩) N N)/\w.cell? ⟨r,3,ZW⟩=ZV (Z7 Z8 gone)/\w.cell? ⟨r,4,ZW⟩=ZV (Z7 Z8 sp):=by
 have a:w.heap[r]?=ZV (Z4 (Rk v b g N gone sp) 200 (0,0)):=h;simp [World.cell?,a,Rk]
def eh.free {v:Nat} (h:eh w r v b g N gone sp) (i:Nat):w.frozen? ⟨r,i,ZW⟩=ZT:=by
 have a:w.heap[r]?=ZV (Z4 (Rk v b g N gone sp) 200 (0,0)):=h;simp [World.frozen?,a]
def vQ (w:ZS) {ops:Array ZO} {rest:List ZO} {o:ZO} {a:Act} {Q:Exit->Act->ZS->Prop}
 (h:o.guard=ZW) (l c:ZM) (e:o.op=Op.makeSlice 108 l c) (C:Int) (n:Nat) (hl:a.eval l=Z7 Z9 C) (g:a.eval c=Z7 Z9 C) (f:C=(n:Int)) (i:n<=1000000)
 (hK:∀ w',w'.rowIs w.heap.size 40 n (λ_=>Z5 ZW 0 0)->bW w w'->w'.heap.size=w.heap.size+1->wpList ZL ops Q rest (a.put o.dst (Z5 (ZV ⟨w.heap.size,0,ZW⟩) n n)) w') :
 wpList ZL ops Q (o::rest) a w:=by
 refine VT h λK d=>?_;have b:=XT (P:=ZL) 108 40 (Z5 ZW 0 0) 24 VL Tryz.R9 rfl .i64 .i64 n (by omega) (by omega) w;subst f;unfold Oper.wp;simp [execOp,e,hl,g,b,Result.andThen];exact d _ _ (hK _ (Xq w _ n _) (bA _ _) (Uh _ _))
theorem tJ (w:ZS) (n:ZN) (g N c:Nat) (f:Nat->ZR) (h:w.rowIs g 40 N f) (s:0<N):(Builtin.clear_ #[108] n #[Z5 (ZV ⟨g,0,ZW⟩) N c]).run ZL w=.ok (ZY #[]) (w.setRow g (YG N (Value.slice ZW 0 0)).toArray):=by
 obtain ⟨cs,d,e,o⟩:=h;obtain ⟨t,b,j,q,r⟩:=Ut Tryz.R9;have l:(Builtin.zeroCells (Value.cells (Z5 ZW 0 0)) N).toList=YG N (Value.slice ZW 0 0):=by
  apply Vb
  . simp [Builtin.zeroCells,Value.cells]
  . intro i _ _;simp [Builtin.zeroCells,Value.cells,Nat.mod_one]
 have a:=run_storeCells_from (P:=ZL) g 40 (YG N (Value.slice ZW 0 0)) 0 cs w d (by simp [e]) (λv k=>by rw [Vz k];rfl);have:N≠0:=by omega
 simp only [WG,Uq] at a;obtain ⟨m,rfl⟩:∃ m,N=m+1:=⟨N-1,by omega⟩;simp [Builtin.clear_,UL VL,zeroValue,typeInfo,b,j,l,a]
def zF (w:ZS) {ops:Array ZO} {rest:List ZO} {o:ZO} {a:Act} {Q:Exit->Act->ZS->Prop} (j:o.guard=ZW) (s:ZM)
 (ho:o.op=.call { callee:=.builtin .clear,args:=#[s],argTypes:=#[108] }) (h0:o.dst=ZW) {g N c:Nat} {f:Nat->ZR} (hv:a.eval s=Z5 (ZV ⟨g,0,ZW⟩) N c) (hr:w.rowIs g 40 N f) (hN:0<N)
 (h:∀ w',w'.rowIs g 40 N (λ_=>Z5 ZW 0 0)->aa (λk=>k=g) w w'->wpList ZL ops Q rest a w'):wpList ZL ops Q (o::rest) a w:=by
 refine VT j λK hK=>?_;unfold Oper.wp execOp;simp only [ho,resolve,invoke,builtin,UE,VJ,UQ,YA,U0,Wl,hv,tJ w _ g N c f hr hN];have b:=aX w g (YG N (Value.slice ZW 0 0)).toArray;obtain ⟨cs,d,_⟩:=hr;refine hK _ _ ?_;rw [h0];exact h _ ⟨_,Vp _ _ _ _ _ _ d,by simp,λi m=>by simp [m]⟩ ⟨b.os,b.tape,b.output,b.size,λk n l=>b.block k n (λe=>l (UM e))⟩
def D9 (w:ZS) (r:Nat) {v b0 g N gone sp:Nat} (h:eh w r v b0 g N gone sp) (b ho:Nat):eh (((w.setCell ⟨r,1,ZW⟩ (Z7 Z9 b)).setCell ⟨r,3,ZW⟩ (Z7 Z8 0)).setCell ⟨r,4,ZW⟩ (Z7 Z8 ho)) r v b g N 0 ho/\aa (λk=>k=r) w (((w.setCell ⟨r,1,ZW⟩ (Z7 Z9 b)).setCell ⟨r,3,ZW⟩ (Z7 Z8 0)).setCell ⟨r,4,ZW⟩ (Z7 Z8 ho)):=by
 refine ⟨?_,((aa.setCell (S:=λk=>k=r) w ⟨r,1,ZW⟩ _ rfl).trans (aa.setCell _ ⟨r,3,ZW⟩ _ rfl)).trans (aa.setCell _ ⟨r,4,ZW⟩ _ rfl)⟩;have a:=aaI w r 1 _ _ (Z7 Z9 b) h;have c:=aaI _ r 3 _ _ (Z7 Z8 0) a;exact aaI _ r 4 _ _ (Z7 Z8 ho) c
theorem FM {v G b0:Nat} (h:eh w r v b0 g N gone sp) (m:bg w v p D L G ps ho) (n:w.rowIs g 40 N f) (x:0<N) (d:g≠r) (u:v≠g) (b:Nat) :
 ZP ZL 110 #[Z6 (ZV ⟨r,0,ZW⟩),Z7 Z9 b] w λe w'=>e=Z3 (ZY #[])/\eh w' r v b g N 0 ho/\w'.rowIs g 40 N (λ_=>Z5 ZW 0 0)/\aa (λk=>k=r\/k=g) w w':=by
 obtain ⟨c0,c1,q,s,t⟩:=h.cells;have H:=aE h m n;clear h m n;go_enter func110,ntmps110;go_wp2_with (show wpList _ _ _ ({ dst:=ZW,op:=.call { callee:=.builtin .clear,args:=_,argTypes:=_ },type:=_,pos:=_,after:=_,guard:=_ }::_) _ _;refine zF _ rfl (Z0 7) rfl rfl (g:=g) (N:=N) (c:=N) (f:=f) rfl (by exact H.o.2.2) x ?_;intro w1 l a;obtain ⟨z,d1,A,B,C⟩:=(H.o.1.keep (a.block _ H.o.1.lt (λe=>d e.symm))).cells;obtain ⟨_,_,_,_,_,J⟩:=(H.o.2.1.keep (a.block _ H.o.2.1.lt u)).cells;have E:=(H.o.1.keep (a.block _ H.o.1.lt (λe=>d e.symm))).free 1;have F:=(H.o.1.keep (a.block _ H.o.1.lt (λe=>d e.symm))).free 3;have I:=(H.o.1.keep (a.block _ H.o.1.lt (λe=>d e.symm))).free 4;have i:=al l a;clear l a c0 c1 q s t);first|go_end0|skip
 have y:=H.o.1.keep (i.o.2.block _ H.o.1.lt (λe=>d e.symm));have j:=D9 w1 r y b ho;refine ⟨rfl,j.1,i.o.1.of_block (j.2.block _ i.o.1.lt (λe=>d e)),(i.o.2.mono λ_ _ e=>.inr e).trans (j.2.mono λ_ _ e=>.inl e)⟩
def Ea {o:Nat} {m:Nat->Nat} (h:w.there b o 16):(Instr.storeAt 287 (Z6 (ZV ⟨b,o,ZW⟩)) (.agg (fI m).toArray)).run ZL w=.ok () (w.setCells b o (fI m)):=aa4 (P:=ZL) w b o 287 (fI m).toArray (by simpa [jC] using h) (by simpa using Tryz.Si _) (Kg _)
theorem BM (b i:Nat) (C:Ck) (w:ZS) (n:aF w b C) (p:eA C) (A:i<16) :
 ZP ZL 230 #[Z6 (ZV ⟨b,0,ZW⟩),Z7 Z9 i] w λe w'=>
  (ix C i=ZW/\e=Z3 (Z1 ZT)/\w'=w)\/(∃ C',ix C i=ZV C'/\e=Z3 (Z1 ZU)/\aF w' b C'/\w.grownBy w' (ZV b)):=by
 go_enter func230,ntmps230;go_wp2_with fail;refine (xt b i C w n p A).mono ?_;rintro e w1 ⟨rfl,F⟩;subst F;cases h2:ei C i with
 | none=>
  have HN:b9 (ix C i=ZW):=ak (by unfold ix;rw [h2];rfl);simp only [Rh];clear h2;go_wp2;go_ret;exact .inl ⟨HN.o,rfl,rfl⟩
 | some r=>
  obtain ⟨J,K,L⟩:=gT h2;have HN:b9 (ix C i=ZV (gU C i r)):=ak (by unfold ix;rw [h2];rfl);have I:=p.Sa;simp only [Rh];clear h2;go_wp2_with fail;refine (xA b r i C _ n p (by omega) A).mono ?_;rintro e w2 ⟨rfl,f,x⟩;have s:=f.So;have D:=f.frozen 129;have v:(kY C C.count r i).count=C.count:=rfl;rw [v] at s;have c:=xB f (C.count-1);have a:=eG x 129 (Z7 Z9 ((C.count-1:Nat):Int));have E:IntKind.i64.wrap ((C.count:Int)-1)=((C.count-1:Nat):Int):=by rw [Ux];omega
  obtain ⟨g,y⟩:=nM (w2.setCell ⟨b,129,ZW⟩ (Z7 Z9 ((C.count-1:Nat):Int)));rw [y] at c a;have h:=c.So;have q:=ak (rW (show aF g.drew b _ from c) r (by omega) ((kY C C.count r i).m (C.count-1)));have u:b9 (w1.grownBy (g.drew.setCells b (r*16) (fI ((kY C C.count r i).m (C.count-1)))) (ZV b)):=ak (nV _ _ _ _ ⟨a.os,a.tape,a.output,a.size,a.block⟩);have j:=ak (show aF g.drew b _ from c);clear f x c a n;go_wp2;clear y s D E v;obtain ⟨t,B⟩:=nM (C.count-1);have k:=rX j.out (C.count-1) (by omega);have l:=Ea (m:=(kY C C.count r i).m (C.count-1)) (tg j.out r (by omega));simp only [B] at h k l ⊢;have k1:(r:Int)<8:=by omega
  have k2:(t:Int)<8:=by omega
  refine du 14 [(0,ZU),(1,ZU),(2,ZU),(3,ZU),(4,ZU),(5,ZU),(6,ZU),(7,ZU),(8,ZU),(9,ZU),(10,ZU),(11,ZU),(12,ZU),(13,ZU),(14,ZT)] (λw'=>w'.cell? ⟨b,129,ZW⟩=ZV (Z7 Z9 (t:Int))/\(Instr.loadAt 287 (Z6 (ZV ⟨b,t*16,ZW⟩))).run ZL w'=.ok (.agg (fI ((kY C C.count r i).m t)).toArray) w') (by kernel_rfl) (by kernel_rfl) ⟨h,k⟩ ?_;iterate 10 (refine aC rfl rfl ?_;apply YF;refine ⟨λw' d=>?_,?_⟩;(obtain ⟨G,H⟩:=d;first|(go_simp;done)|(go_simp;exact rfl));simp only [Act.put,TX,TY,TZ])
  refine aC rfl rfl ⟨_,λw' d=>by simp [execOp,Act.eval,d.2];rfl,?_⟩;simp only [Act.put,TX,TY,TZ];iterate 3 (refine aC rfl rfl ?_;apply YF;refine ⟨λw' d=>?_,?_⟩;(obtain ⟨G,H⟩:=d;first|(go_simp;done)|(go_simp;exact rfl));simp only [Act.put,TX,TY,TZ])
  refine jX rfl rfl (by simp [execOp,Act.eval,l];rfl) AR (cB ?_);simp only [Act.put];subst B;clear k l k1 k2 j h;obtain ⟨M,z⟩:=nM (g.drew.setCells b (r*16) (fI ((kY C C.count r i).m (C.count-1))));rw [z] at q u ⊢;clear z;go_wp2;go_ret;exact .inr ⟨_,HN.o,rfl,q.o,u.out⟩
theorem KC (m:Nat->Nat->Nat) (t r:Nat):rC (rC m t (m r)) r (m t)=dD m t r:=by
 funext k;unfold rC dD;by_cases b:k=r
 . rw [TT b];by_cases a:k=t
   . rw [TT a,<- b,<- a]
   . rw [TS a,TT b]
 . rw [TS b];by_cases a:k=t
   . rw [TT a,TT a]
   . rw [TS a,TS a,TS b]
theorem tK (b i:Nat) (C:Ck) (w:ZS) (f:aF w b C) (c:eA C) (t:i<16) :
 ZP ZL 210 #[Z6 (ZV ⟨b,0,ZW⟩),Z7 Z9 i] w λe w'=>
  (oU C i=ZW/\e=Z3 (Z1 ZT)/\w'=w)\/(∃ C',oU C i=ZV C'/\e=Z3 (Z1 ZU)/\aF w' b C'/\w.grownBy w' (ZV b)):=by
 go_enter func210,ntmps210;go_wp2_with fail;refine (xt b i C w f c t).mono ?_;rintro e w1 ⟨rfl,S⟩;subst S;cases h5:ei C i with
 | none=>
  have HN:b9 (oU C i=ZW):=ak (by unfold oU;rw [h5];rfl);simp only [Rh];clear h5;go_wp2;go_ret;exact .inl ⟨HN.o,rfl,rfl⟩
 | some r=>
  obtain ⟨r1,r2,r3⟩:=gT h5;have HN:b9 (oU C i=ZV (jh C i r)):=ak (by unfold oU;rw [h5];rfl);have Z:=c.Sa;simp only [Rh];clear h5;have k:=f.R6;have B:=rW (rW (show aF w1.drew b _ from f) C.told (by omega) (C.m r)) r (by omega) (C.m C.told);have z:(⟨rC (rC C.m C.told (C.m r)) r (C.m C.told),C.told,C.count⟩:Ck)=⟨dD C.m C.told r,C.told,C.count⟩:=by rw [KC]
  have D:aF ((w1.drew.setCells b (C.told*16) (fI (C.m r))).setCells b (r*16) (fI (C.m C.told))) b ⟨dD C.m C.told r,C.told,C.count⟩:=by rw [<- z];exact B
  have G:w1.grownBy ((w1.drew.setCells b (C.told*16) (fI (C.m r))).setCells b (r*16) (fI (C.m C.told))) (ZV b):=
   nV _ _ _ _ (nV _ _ _ _ ⟨rfl,rfl,rfl,TU _,λ_ _ _=>rfl⟩)
  have g:=ak D;have n:=ak G;have d:=ak (show aF w1.drew b C from f);clear B z D G f;go_wp2;have h:=rW d.out C.told (by omega) (C.m r);have q:=rX d.out r (by omega);have N:=rX d.out C.told (by omega);have s:=rX h r (by omega);have A:rC C.m C.told (C.m r) r=C.m r:=by unfold rC;split<;>rfl
  simp only [A] at s;have O:=Ea (m:=C.m r) (tg d.out C.told (by omega));have P:=Ea (m:=C.m C.told) (tg h r (by omega));have k1:(r:Int)<8:=by omega
  have k2:(C.told:Int)<8:=by omega
  refine du 29 [(0,ZU),(1,ZU),(2,ZU),(3,ZU),(4,ZU),(5,ZU),(6,ZU),(7,ZU),(8,ZU),(9,ZU),(10,ZU),(11,ZU),(12,ZU),(13,ZU),(14,ZU),(15,ZU),(16,ZU),(17,ZU),(18,ZU),(19,ZU),(20,ZU),(22,ZU),(23,ZU),(26,ZU),(27,ZU),(21,ZT),(24,ZU),(25,ZT),(28,ZU),(29,ZT)] (λw'=>w'.cell? ⟨b,128,ZW⟩=ZV (Z7 Z9 (C.told:Int))/\(Instr.loadAt 287 (Z6 (ZV ⟨b,r*16,ZW⟩))).run ZL w'=.ok (.agg (fI (C.m r)).toArray) w') (by kernel_rfl) (by kernel_rfl) ⟨d.out.R6,q⟩ ?_;iterate 12 (refine aC rfl rfl ?_;apply YF;refine ⟨λw' a=>?_,?_⟩;(obtain ⟨u,x⟩:=a;first|(go_simp;done)|(go_simp;exact rfl));simp only [Act.put,TX,TY,TZ])
  refine aC rfl rfl ⟨_,λw' a=>by simp [execOp,Act.eval,a.2];rfl,?_⟩;simp only [Act.put,TX,TY,TZ];iterate 12 (refine aC rfl rfl ?_;apply YF;refine ⟨λw' a=>?_,?_⟩;(obtain ⟨u,x⟩:=a;first|(go_simp;done)|(go_simp;exact rfl));simp only [Act.put,TX,TY,TZ])
  refine eK (v:=.agg (fI (C.m C.told)).toArray) (w1:=w1.drew) rfl rfl (by simp [execOp,Act.eval,N]) (λ_=>⟨d.out.R6,q⟩) ?_;simp only [Act.put,TX,TY,TZ];refine aC rfl rfl ?_;apply YF;refine ⟨λw' a=>?_,?_⟩;(obtain ⟨u,x⟩:=a;first|(go_simp;done)|(go_simp;exact rfl));simp only [Act.put,TX,TY,TZ];refine jX rfl rfl (by simp [execOp,Act.eval,O]) (λ_=>⟨h.R6,s⟩) ?_;simp only [Act.put,TX,TY,TZ];refine aC rfl rfl ?_;apply YF;refine ⟨λw' a=>?_,?_⟩;(obtain ⟨u,x⟩:=a;first|(go_simp;done)|(go_simp;exact rfl));simp only [Act.put,TX,TY,TZ];refine jX rfl rfl (by simp [execOp,Act.eval,P];rfl) AR (cB ?_);simp only [Act.put];clear h q N s A O P k1 k2 d;obtain ⟨w2,Q⟩:=nM ((w1.drew.setCells b (C.told*16) (fI (C.m r))).setCells b (r*16) (fI (C.m C.told)));rw [Q] at g n ⊢;clear Q k;have k:=g.out.R6;have V:eA ⟨dD C.m C.told r,C.told,C.count⟩:=⟨jw c.byt,c.le,c.Sa⟩;go_wp2_with fail;refine (Bu b C.told i _ _ g.out V (by omega) t).mono ?_;rintro e w3 ⟨rfl,p,K⟩;have W:eA ⟨eH (dD C.m C.told r) C.told i,C.told,C.count⟩:=⟨sA (jw c.byt),c.le,c.Sa⟩;have E:=gC n.out K;have l:=p.R6;have H:=ak p;have I:=ak E;clear p K E k g n;go_wp2_with fail;refine (xA b C.told i _ _ H.out W (by omega) t).mono ?_;rintro e X ⟨rfl,j,L⟩;have F:=gC I.out L;have J:=Kh j (C.told+1);have M:=eG F 128 (Z7 Z9 ((C.told+1:Nat):Int));have y:=j.R6;have Y:=j.frozen 128;have R:X.cell? ⟨b,128,ZW⟩=ZV (Z7 Z9 (C.told:Int)):=y;have k7:wrap64 ((C.told:Int)+1)=((C.told+1:Nat):Int):=by unfold wrap64;omega
  have k6:IntKind.i64.wrap ((C.told:Int)+1)=((C.told+1:Nat):Int):=by rw [Ux];omega
  have T:=ak J;have U:=ak M;clear j L F J M y l H I;go_wp2;go_ret;exact .inr ⟨_,HN.o,rfl,T.out,U.out⟩
def aY (C:Ck):Array ZR:=((YE 130).map (nr C)).toArray
def bX (C:Ck):(aY C).size=130:=by unfold aY;rw [UH,Ue,Vn]
def zG (C:Ck) (i:Nat) (a:i<130):(aY C)[i]?=ZV (nr C i):=by
 unfold aY;rw [Xz,UG,WK a];rfl
def Tryz.infoCk:(ZL.info? 332).map (λi=>i.size)=ZV 130:=by kernel_rfl
def dW (C:Ck):(ZL.info? 332).map (λi=>i.size)=ZV (aY C).size:=by rw [bX];exact Tryz.infoCk
theorem Np (C:Ck) (i:Nat):(nr C i).oneCell'=ZU:=by
 unfold nr;split
 . rfl
 . split<;>rfl
def l8 (C:Ck):(aY C).all (λv=>v.oneCell')=ZU:=by
 rw [X5];intro i a;have:=zG C i (by rw [<- bX C];exact a);rw [VV a] at this;rw [UM this];exact Np C i
theorem aF.heap (h:aF w b C):w.heap[b]?=ZV (Z4 (aY C) 332 (0,0)):=by
 obtain ⟨c,j,l,k⟩:=h;have e:c=aY C:=by
  apply Yu
  . rw [l,bX]
  . intro i f g;have a:=k i (by omega);have d:=zG C i (by omega);rw [VV f] at a;rw [VV g] at d;rw [UM a,UM d]
 rw [<- e];exact j
def aF.of_heap (h:w.heap[b]?=ZV (Z4 (aY C) 332 (0,0))):aF w b C:=⟨_,h,bX C,λi a=>zG C i a⟩
def aF.new (w:ZS) (C:Ck):aF (w.alloc (Z4 (aY C) 332)) w.heap.size C:=aF.of_heap (XW w _)
def aF.lt (h:aF w b C):b<w.heap.size:=(T5.1 h.heap).1
def aF.keep (h:aF w b C) (e:w'.heap[b]?=w.heap[b]?):aF w' b C:=aF.of_heap (e.trans h.heap)
def aF.setRow (C:Ck) (h:aF w b C'):aF (w.setRow b (aY C)) b C:=aF.of_heap (Vp w b (aY C') (aY C) _ _ h.heap)
def aQ (w:ZS) (b:Nat) (cs:Array ZR):w.grownBy (w.setRow b cs) (ZV b):=
 ⟨rfl,rfl,rfl,by simp,λk _ a=>by
  have:b≠k:=λe=>a (by rw [e]);simp [World.setRow,VC,this]⟩
def l9 (h:aF w b C):(Instr.loadAt 332 (Z6 (ZV ⟨b,0,ZW⟩))).run ZL w=.ok (.agg (aY C)) w:=by
 simp only [Instr.loadAt,Instr.sureAddr,UE,VJ,UQ,Xa w b 332 332 (aY C) (0,0) _ h.heap XH rfl (dW C)]
def kt (C:Ck) (h:aF w b C'):(Instr.storeAt 332 (Z6 (ZV ⟨b,0,ZW⟩)) (.agg (aY C))).run ZL w=.ok () (w.setRow b (aY C)):=by
 simp only [Instr.storeAt,Instr.sureAddr,UE,VJ,UQ,XU w b 332 332 (aY C') (aY C) h.heap (dW C) (by rw [bX,bX]) (l8 C)]
def ku (f:o.guard=ZW) (x:ZM) (ho:o.op=.load 332 x) (b:Nat) (C:Ck)
 (g:a.eval x=Z6 (ZV ⟨b,0,ZW⟩)) (e:aF w b C) (h:wpListIn F n ZL ops Q rest (a.put o.dst (.agg (aY C))) w):wpListIn F n ZL ops Q (o::rest) a w:=by
 refine Yf f λK hK=>?_;unfold Oper.wpIn;refine ⟨by simp [Oper.about,ho],?_⟩;rw [Wg F _ _ (by rw [ho];intro c d;cases d)];simp [execOp,ho,g,l9 e,Result.andThen];exact hK _ _ h
def jF (f:o.guard=ZW) (x y:ZM) (ho:o.op=.store 332 x y) (b:Nat) (C C':Ck)
 (g:a.eval x=Z6 (ZV ⟨b,0,ZW⟩)) (i:a.eval y=.agg (aY C)) (e:aF w b C') (h:wpListIn F n ZL ops Q rest (a.put o.dst ZX) (w.setRow b (aY C))):wpListIn F n ZL ops Q (o::rest) a w:=by
 refine Yf f λK hK=>?_;unfold Oper.wpIn;refine ⟨by simp [Oper.about,ho],?_⟩;rw [Wg F _ _ (by rw [ho];intro c d;cases d)];simp [execOp,ho,g,i,kt C e,Result.andThen];exact hK _ _ h
def dL:Ck:=⟨λ_ _=>0,0,0⟩
def Tryz.zeroCk:(ZL.info? 332).map (λi=>(i.zero,i.size,i.bytes))=ZV (ZV (.agg (aY dL)),130,144):=by kernel_rfl
def zeroCk (w:ZS):(zeroValue 332).run ZL w=.ok (.agg (aY dL)) w:=by
 obtain ⟨c,a,b,_,_⟩:=Ut Tryz.zeroCk;simp [zeroValue,typeInfo,UE,a,b]
def aF.mono (h:aF w b C) (c:ZQ B w w') (a:b<B):aF w' b C:=h.keep (c.block b a)
section
attribute [local go_sem] Oper.semAt_some
theorem xJ (p least Bl:Nat) (w:ZS) (a:w.cell? ⟨Bl,0,ZW⟩=ZV (Z7 Z9 (least:Int))) :
 ZP ZL 225 #[Z7 Z9 p,Z6 (ZV ⟨Bl,0,ZW⟩)] w λe w'=>e=Z3 (Z1 (decide (p<least)))/\w'=w:=by
 go_enter func225,ntmps225;go_wp2;go_ret;exact ⟨by simp,rfl⟩
def fU (Bl:Nat):ZR:=.func (.func 225) #[] #[Z6 (ZV ⟨Bl,0,ZW⟩)]
def Bx (W:ZS) (B:Nat) (v:ZR):Prop:=∃ t,Boxed W B t v
def Bx.cell (h:Bx W B v):W.cell? ⟨B,0,ZW⟩=ZV v:=by obtain ⟨t,h⟩:=h;exact h.cell
def Bx.frozen (h:Bx W B v):W.frozen? ⟨B,0,ZW⟩=ZT:=by obtain ⟨t,h⟩:=h;exact h.frozen
def Bx.lt (h:Bx W B v):B<W.heap.size:=by obtain ⟨t,h⟩:=h;exact h.lt
def Bx.keep (h:Bx W B v) (e:W'.heap[B]?=W.heap[B]?):Bx W' B v:=by obtain ⟨t,h⟩:=h;exact ⟨t,e.trans h⟩
def Bx.set (h:Bx W B v) (a:ZR):Bx (W.setCell ⟨B,0,ZW⟩ a) B a:=by obtain ⟨t,h⟩:=h;exact ⟨t,h.set a⟩
def Bx.new (W:ZS) (t:ZN) (v:ZR):Bx (W.alloc (Z4 #[v] t)) W.heap.size v:=⟨t,Ur W t v⟩
def Bx.alloc (h:Bx W B v) (o:Obj):Bx (W.alloc o) B v:=by obtain ⟨t,h⟩:=h;exact ⟨t,h.alloc o⟩
structure VB (W:ZS) (h:Nat) (C:Ck) (of q Bl l:Nat):Prop where
 ck:aF W h C
 set:Bx W (h+1) (Z7 Z8 (of:Int))
 pas:Bx W (h+1+1) (Z7 Z9 (q:Int))
 Sj:Bx W (h+1+1+1) (fU Bl)
 yld:Bx W (h+1+1+1+1) (.func (.yield l) #[] #[])
 res:Bx W (h+1+1+1+1+1) (Z1 ZT)
def VB.keep {l:Nat} (v:VB W h C of q Bl l) (e:∀ k,h<=k->k<h+6->W'.heap[k]?=W.heap[k]?):VB W' h C of q Bl l:=
 ⟨v.ck.keep (e _ (by omega) (by omega)),v.set.keep (e _ (by omega) (by omega)),v.pas.keep (e _ (by omega) (by omega)),v.Sj.keep (e _ (by omega) (by omega)),v.yld.keep (e _ (by omega) (by omega)),v.res.keep (e _ (by omega) (by omega))⟩
def VB.passed {l:Nat} (v:VB W h C of q Bl l) (a:Nat):VB (W.setCell ⟨h+1+1,0,ZW⟩ (Z7 Z9 (a:Int))) h C of a Bl l:=by
 have e:∀ k,k≠h+1+1->(W.setCell ⟨h+1+1,0,ZW⟩ (Z7 Z9 (a:Int))).heap[k]?=W.heap[k]?:=λk b=>V7 _ _ _ _ b;exact ⟨v.ck.keep (e _ (by omega)),v.set.keep (e _ (by omega)),v.pas.set _,v.Sj.keep (e _ (by omega)),v.yld.keep (e _ (by omega)),v.res.keep (e _ (by omega))⟩
def iZ (K:a8) (d:Nat) (C:Ck) (of p:Nat) (s:b8) (pre:List Sh):Nat×b8×Bool:=(pre.map (·.1)).foldl (gW (Dp K d) C of) (p,fs K s C,ZT)
def Eb (K:a8) (d:Nat) (C:Ck) (of p:Nat) (s:b8) (pre:List Sh) (x:Sh):iZ K d C of p s (pre++[x])=gW (Dp K d) C of (iZ K d C of p s pre) x.1:=by
 unfold iZ;rw [Uv,Wp];rfl
def Hg {K:a8} (h:pre.map (·.1)=ab of):(iZ K d C of p s pre).2.1=iz K d C of p s:=by
 unfold iZ;rw [h,oV]
def Ec {K:a8} (h:pre.map (·.1)<+:ab of) (e:(iZ K d C of p s pre).2.2=ZU):(iZ K d C of p s pre).2.1=iz K d C of p s:=by
 obtain ⟨R,c⟩:=h;rw [oV,<- c,Wp];show _=(R.foldl (gW (Dp K d) C of) (iZ K d C of p s pre)).2.1;obtain ⟨f,a⟩:∃ q sx,iZ K d C of p s pre=(q,sx,ZU):=⟨_,_,by rw [<- e]⟩;obtain ⟨a,b⟩:=a;rw [b,wD]
def VI (K:a8) (d:Nat) (C:Ck) (of p:Nat) (s:b8) (W:ZS) (B n0 Bl l:Nat) (J:b8->ZS->Prop) (brk:Bool) (pre:List Sh) (X:ZS):Prop:=
 (iZ K d C of p s pre).2.2=brk/\VB X W.heap.size C of (iZ K d C of p s pre).1 Bl l/\J (iZ K d C of p s pre).2.1 X/\bu n0 W X/\(iZ K d C of p s pre).1<=p+pre.length/\B<=X.heap.size
def VI.own {K:a8} {l:Nat} {brk:Bool} (f:∀ s A B,J s A->ZQ n0 A B->J s B) (o:W.heap.size+6<=B) (t:n0<=W.heap.size) :
 OwnFrom B (VI K d C of p s W B n0 Bl l J brk):=by
 rintro pre X Y row ⟨g,h,i,b,j,q⟩ a n;have c:∀ k,k<W.heap.size+6->Y.heap[k]?=X.heap[k]?:=λk c=>a.block k (by omega) (λe=>by have:=(n k e.symm).1;omega);have:=a.size;refine ⟨g,h.keep (λk _ m=>c k m),f _ _ _ i ⟨a.os,a.tape,a.output,a.size,λk r=>c k (by omega)⟩,⟨a.os.trans b.os,a.tape.trans b.tape,a.output.trans b.output,by have:=b.size;omega,λk k1 k2=>(c k (by omega)).trans (b.block k k1 k2)⟩,j,by omega⟩
def VX (K:a8) (d:Nat) (C:Ck) (of p:Nat) (s:b8) (W:ZS) (B n0 Bl l:Nat) (J:b8->ZS->Prop) (c:Code) (pre:List Sh) (X:ZS):Prop:=c=.exit 0/\VI K d C of p s W B n0 Bl l J ZU pre X
def Hh (h:¬ q<sx.2):gW rec C of (q,sx,ZT) i=(q,sx,ZU):=by unfold gW;simp [h]
def Hi (h:q<sx.2) (hl:ix C i=ZW):gW rec C of (q,sx,ZT) i=(q,sx,ZT):=by unfold gW;simp [h,hl]
def Nq (h:q<sx.2) (hl:ix C i=ZV C'):gW rec C of (q,sx,ZT) i=(q+1,rec C' (cZ of i) q sx,ZT):=by unfold gW;simp [h,hl]
def kA (s:Nat):(shs s).length=(ab s).length:=by rw [<- Na s,Ue]
def pE (s:Nat):(shs s).length<=16:=by
 rw [kA];exact TV (WO _ _) (by simp)
theorem Hk (q:Nat) (h:q<=100000):wrap64 ((q:Int)+1)=((q+1:Nat):Int)/\IntKind.i64.wrap ((q:Int)+1)=((q+1:Nat):Int):=by
 constructor
 . unfold wrap64;omega
 . rw [Ux];omega
theorem xK (b:∀ s A B,J s A->ZQ n0 A B->J s B) (w:n0<=W.heap.size) (q:W.heap.size<=B) (r:W.heap.size<=D) (j:B≠D)
 (i:Bx X B (Z1 ZT)) (t:J s X) (o:bu n0 W X) (hK:X.heap[D]?=ZV (.deferred (ZV []))) (f:a.defers=[{ target:=.collected D,args:=#[] }]) (h5:a.eval (Z0 10)=Z6 (ZV ⟨B,0,ZW⟩)) (hT:a.tmps.size=39) :
 bodyPostM Fence.wide n ZL Tryz.f229 (λe W'=>e=Z3 (Z1 ZU)/\J s W'/\bu n0 W W') .ret a (X.setCell ⟨B,0,ZW⟩ (Z1 ZU)):=by
 have d:(X.setCell ⟨B,0,ZW⟩ (Z1 ZU)).heap[D]?=ZV (.deferred (ZV [])):=(VY _ _ _).same D _ hK rfl;obtain ⟨g,u⟩:=a;simp only at f hT;subst f;refine ⟨by simp,.inl ⟨_,_,rfl,Wv d,?_⟩⟩;have k:Bx (X.setCell ⟨B,0,ZW⟩ (Z1 ZU)) B (Z1 ZU):=i.set _;have l:Bx ((X.setCell ⟨B,0,ZW⟩ (Z1 ZU)).putObj D (.deferred ZW)) B (Z1 ZU):=k.keep (UO (λe=>j e));have c:=l.cell;have m:=(T5.1 d).1;have h:g.getD 10 ZX=Z6 (ZV ⟨B,0,ZW⟩):=h5;refine ⟨Z1 ZU,?_,rfl,b _ _ _ (b _ _ _ t ((TW _ _).setCell (p:=⟨B,0,ZW⟩) (by show n0<=B;omega) _)) (Below.RO (TW _ _) (by omega) m _),(o.setCell (p:=⟨B,0,ZW⟩) (.inr q) _).putObj (.inr r) _⟩;have v:g[10]'(by omega)=Z6 (ZV ⟨B,0,ZW⟩):=by rw [<- h];simp [hT]
 simp only [results,results229];go_simp
theorem tL (K:a8) (n0 Bl l:Nat) (J:b8->ZS->Prop) (u:∀ s A B,J s A->ZQ n0 A B->J s B)
 (k6:∀ s A,J s A->A.cell? ⟨Bl,0,ZW⟩=ZV (Z7 Z9 (s.2:Int))/\n0<=A.heap.size/\aG A) (qp:2<=n0)
 (hY:∀ m s C W1,J s W1->eA C->YieldAt Fence.wide m ZL l #[.agg (aY C)] W1 λe W'=>e=Z3 (Z1 ZU)/\J (fs K s C) W'/\bu n0 W1 W')
 (d m:Nat) (C:Ck) (of p:Nat) (s:b8) (W:ZS) (hf:eA C) (kj:of<65536) (hp:p+16<=100000) (hJ:J s W)
 (km:∀ (m i:Nat) (C':Ck) (F p':Nat) (s':b8) (W':ZS),ix C i=ZV C'->F<65536->p'<=p+16->J s' W' ->
  CallsIn Fence.wide m ZL 229 #[.agg (aY C'),Z7 Z8 F,Z7 Z9 p',fU Bl,.func (.yield l) #[] #[]] W' λe L=>e=Z3 (Z1 ZU)/\J (Dp K d C' F p' s') L/\bu n0 W' L) :
 CallsIn Fence.wide m ZL 229 #[.agg (aY C),Z7 Z8 of,Z7 Z9 p,fU Bl,.func (.yield l) #[] #[]] W λe W'=>e=Z3 (Z1 ZU)/\J (iz K d C of p s) W'/\bu n0 W W':=by
 obtain ⟨_,S,_⟩:=k6 s W hJ;obtain ⟨n,HN⟩:∃ n:Nat,b9 (5<=n):=⟨5,TU _⟩;refine Vm.2 ((Vm (n:=n)).1 ?_);refine Wc func229 rfl trivial ?_ rfl;simp only [ntmps229,UH,UA,UT,YI,YJ,Ve,Vf,Vg,Vh,Uq,UX];have P:bW W ((((((W.alloc (Z4 (aY C) 332)).alloc (Z4 #[Z7 Z8 (of:Int)] 133)).alloc (Z4 #[Z7 Z9 (p:Int)] 3)).alloc (Z4 #[fU Bl] 201)).alloc (Z4 #[.func (.yield l) #[] #[]] 350)).alloc (Z4 #[Z1 ZT] 4)):=
  (((((bA W _).alloc (by simp) _).alloc (by simp;omega) _).alloc (by simp;omega) _).alloc (by simp;omega) _).alloc (by simp;omega) _
 have T:VB ((((((W.alloc (Z4 (aY C) 332)).alloc (Z4 #[Z7 Z8 (of:Int)] 133)).alloc (Z4 #[Z7 Z9 (p:Int)] 3)).alloc (Z4 #[fU Bl] 201)).alloc (Z4 #[.func (.yield l) #[] #[]] 350)).alloc (Z4 #[Z1 ZT] 4)) W.heap.size C of p Bl l:=by
  have O:∀ (X:ZS) (o:Obj) (k:Nat),k<X.heap.size->(X.alloc o).heap[k]?=X.heap[k]?:=λX o k h=>V8 X o k h;refine ⟨?_,?_,?_,?_,?_,?_⟩
  . exact (aF.new W C).keep (by rw [O _ _ _ (by simp;omega),O _ _ _ (by simp;omega),O _ _ _ (by simp;omega),O _ _ _ (by simp;omega),O _ _ _ (by simp)])
  . have h:=Bx.new (W.alloc (Z4 (aY C) 332)) 133 (Z7 Z8 (of:Int));rw [Ul] at h;exact (((h.alloc _).alloc _).alloc _).alloc _
  . have h:=Bx.new ((W.alloc (Z4 (aY C) 332)).alloc (Z4 #[Z7 Z8 (of:Int)] 133)) 3 (Z7 Z9 (p:Int));simp only [Ul] at h;exact ((h.alloc _).alloc _).alloc _
  . have h:=Bx.new (((W.alloc (Z4 (aY C) 332)).alloc (Z4 #[Z7 Z8 (of:Int)] 133)).alloc (Z4 #[Z7 Z9 (p:Int)] 3)) 201 (fU Bl);simp only [Ul] at h;exact (h.alloc _).alloc _
  . have h:=Bx.new ((((W.alloc (Z4 (aY C) 332)).alloc (Z4 #[Z7 Z8 (of:Int)] 133)).alloc (Z4 #[Z7 Z9 (p:Int)] 3)).alloc (Z4 #[fU Bl] 201)) 350 (.func (.yield l) #[] #[]);simp only [Ul] at h;exact h.alloc _
  . have h:=Bx.new (((((W.alloc (Z4 (aY C) 332)).alloc (Z4 #[Z7 Z8 (of:Int)] 133)).alloc (Z4 #[Z7 Z9 (p:Int)] 3)).alloc (Z4 #[fU Bl] 201)).alloc (Z4 #[.func (.yield l) #[] #[]] 350)) 4 (Z1 ZT);simp only [Ul] at h;exact h
 have k8:((((((W.alloc (Z4 (aY C) 332)).alloc (Z4 #[Z7 Z8 (of:Int)] 133)).alloc (Z4 #[Z7 Z9 (p:Int)] 3)).alloc (Z4 #[fU Bl] 201)).alloc (Z4 #[.func (.yield l) #[] #[]] 350)).alloc (Z4 #[Z1 ZT] 4)).heap.size=W.heap.size+6:=by simp
 unfold fU at P T k8 ⊢;obtain ⟨W6,kb⟩:=nM (((((((W.alloc (Z4 (aY C) 332)).alloc (Z4 #[Z7 Z8 (of:Int)] 133)).alloc (Z4 #[Z7 Z9 (p:Int)] 3)).alloc (Z4 #[.func (.func 225) #[] #[Z6 (ZV ⟨Bl,0,ZW⟩)]] 201)).alloc (Z4 #[.func (.yield l) #[] #[]] 350)).alloc (Z4 #[Z1 ZT] 4)));rw [kb] at P T k8;obtain ⟨fn,tmps,assign,body,hy,kz⟩:=hY (n-1) s C W6 (u s W W6 hJ (P.mono S)) hf;have c9:=T.yld.cell;have r:=ak T;have HB:=ak P;have HS:=ak k8;clear T P k8;gi_wp2_with (first
  | (rw [kb];refine ku rfl (Z0 5) rfl W.heap.size C rfl r.o.ck ?_)
  | (refine ku rfl (Z0 5) rfl W.heap.size C rfl r.o.ck ?_))
 refine ⟨λh=>(by cases h),kz.mono ?_⟩;rintro e f ⟨rfl,ky,Z⟩;have hA:bu n0 W f:=(bu.RM HB.o).trans Z;have kp:VB f W.heap.size C of p Bl l:=r.o.keep (λk k1 k2=>Z.block k (by omega) (by have:=HS.o;omega));have qq:W.heap.size+6<=f.heap.size:=by have:=Z.size;have:=HS.o;omega
 have q5:=k6 _ _ ky;have c6:=kp.set.cell;clear hy kz kb r HB HS Z c9;have r:=ak kp;clear kp;gi_wp2;refine cd (dN of f) ?_;rintro e w' ⟨rfl,rfl⟩;have q0:aG (f.alloc (Z4 #[Z7 Z8 (of:Int)] 133)):=q5.2.2.mono (B:=f.heap.size) (by omega) (bA _ _);have q2:(f.alloc (Z4 #[Z7 Z8 (of:Int)] 133)).cell? ⟨f.heap.size,0,ZW⟩=ZV (Z7 Z8 (of:Int)):=(Bx.new f 133 (Z7 Z8 (of:Int))).cell;have h0:VI K d C of p s W (f.alloc (Z4 #[Z7 Z8 (of:Int)] 133)).heap.size n0 Bl l J ZT [] (f.alloc (Z4 #[Z7 Z8 (of:Int)] 133)):=
  ⟨rfl,r.o.keep (λk k1 k2=>V8 _ _ _ (by omega)),u _ _ _ ky ((TW _ _).alloc q5.2.1 _),hA.trans (bu.RM (bA _ _)),TU _,TU _⟩
 have q8:(f.alloc (Z4 #[Z7 Z8 (of:Int)] 133)).heap.size=f.heap.size+1:=by simp
 obtain ⟨V,q1⟩:=nM (f.alloc (Z4 #[Z7 Z8 (of:Int)] 133));have H0:=ak h0;have HC:=ak q2;have HT:=ak q0;have j:=ak q8;clear h0 q2 q0 q8;gi_wp2;rw [q1] at H0 HC HT j;clear q1;refine Wd rfl (by have:=HN.o;omega) (gf:=147) (lb:=#[Z6 (ZV ⟨f.heap.size,0,ZW⟩)]) rfl trivial (U4 func147 (by kernel_rfl) rfl)
  (eR (n-1) f.heap.size of kj V (by have:=j.o;omega) HC.o (by have:=j.o;omega) HT.o) (λh k=>qM h k) (qN (by have:=j.o;omega)) (TW _ _) (λ_=>rfl)
  (VI K d C of p s W V.heap.size n0 Bl l J ZT) (VX K d C of p s W V.heap.size n0 Bl l J)
  (VI.own u (by have:=j.o;omega) S) (λc=>by
   rintro pre X Y row ⟨z,b⟩ hg hr;exact ⟨z,VI.own u (by have:=j.o;omega) S pre X Y row b hg hr⟩) H0.o
  (λx=>{ tmps:=#[.agg (aY C),Z7 Z8 (of:Int),Z7 Z9 (p:Int),.func (.func 225) #[] #[Z6 (ZV ⟨Bl,0,ZW⟩)],.func (.yield l) #[] #[],Z6 (ZV ⟨W.heap.size,0,ZW⟩),Z6 (ZV ⟨W.heap.size+1,0,ZW⟩),Z6 (ZV ⟨W.heap.size+1+1,0,ZW⟩),Z6 (ZV ⟨W.heap.size+1+1+1,0,ZW⟩),Z6 (ZV ⟨W.heap.size+1+1+1+1,0,ZW⟩),Z6 (ZV ⟨W.heap.size+1+1+1+1+1,0,ZW⟩),Z7 Z9 (x.1:Int),ZX,.func (.yield l) #[] #[],.agg (aY C),Z1 ZU,Z1 ZT,Z7 Z8 (of:Int),.func (.func 147) #[] #[Z6 (ZV ⟨f.heap.size,0,ZW⟩)],Z7 Z9 (x.1:Int),ZX,ZX,ZX,ZX,ZX,ZX,ZX,ZX,ZX,ZX,ZX,ZX,ZX,ZX,ZX,ZX,ZX,ZX,ZX],defers:=[] }) ?assign ?body ?done ?stop
 case assign=>
  intro l2 x X Kk hK;unfold qK;gi_wp2;exact hK
 case body=>
  rintro l2 pre x X ⟨z,b,g,w,E,G⟩ kh;obtain ⟨q,sx,q9⟩:∃ q sx,iZ K d C of p s pre=(q,sx,ZT):=⟨_,_,by rw [<- z]⟩;have ko:=Eb K d C of p s pre x;rw [q9] at b g E ko;simp only at b g E;have ki:(ab of).length<=16:=by rw [<- kA of];exact pE of
  have hq:q<=p+16:=by omega
  have qj:q<=100000:=by omega
  have hl:=k6 _ _ g;have cl:=hl.1;have c7:=b.pas.cell;have f7:=b.pas.frozen;have c8:=b.Sj.cell;unfold fU at c8;have r:=ak b;have HJ:=ak g;have HA:=ak w;have k9:=ak ko;have k0:=x.2;have U:=ak G;clear b g w q9 z ko hl G kh;gi_wp2;refine dq (xJ q sx.2 Bl X cl) ?_;rintro e w' ⟨rfl,rfl⟩;by_cases R:q<sx.2
  . have kf:decide (q<sx.2)=ZU:=UY R;rw [kf];have hz:=zeroCk;have kc:=r.o.ck;gi_wp2_with (first
     | (refine ku rfl (Z0 5) rfl W.heap.size C rfl kc ?_)
     | (refine jF rfl (Z0 12) (Z0 24) rfl w'.heap.size C dL rfl rfl (aF.new w' dL) ?_))
    have ke:aF ((w'.alloc (Z4 (aY dL) 332)).setRow w'.heap.size (aY C)) w'.heap.size C:=(aF.new w' dL).setRow C;have Q:bW w' ((w'.alloc (Z4 (aY dL) 332)).setRow w'.heap.size (aY C)):=(bA _ _).grown (aQ _ _ _) (by simp) (λk e=>by cases e;exact TU _);refine dq (BM w'.heap.size x.1 C _ ke hf k0) ?_;rintro e w2 (⟨q6,rfl,qm⟩|⟨C',q7,rfl,ka,q3⟩)
    ·
     subst qm;have HL:=ak q6;have H:=ak Q;clear q6 Q ke hz kc;gi_wp2;have kg:=j.o;have G:=U.o;have qg:=r.o.keep (λk k1 k2=>H.out.block k (by omega));refine ⟨(bu.RM H.out).keeps (T8 _),Fz.RM (by omega) H.out,?_⟩;unfold VI;rw [k9.out,Hi R HL.o];exact ⟨rfl,qg,u _ _ _ HJ.o (H.out.mono (by omega)),HA.o.trans (bu.RM H.out),by rw [Ua];exact YM E,by have:=H.out.size;omega⟩
    ·
     have k7:bW w' w2:=Q.grown q3 Q.size (λk e=>by cases e;exact TU _);have qk:w'.heap.size<w2.heap.size:=ka.lt;have ks:=ak q7;have qb:=ak k7;have qc:=ak ka;have qi:W.heap.size+6<=w'.heap.size:=(by have:=j.o;have:=U.o;omega);have qa:VB w2 W.heap.size C of q Bl l:=r.o.keep (λk k1 k2=>k7.block k (by omega));have q4:J sx w2:=u _ _ _ HJ.o (k7.mono (by omega));have N:=ak qa;have qd:=ak q4;clear q7 k7 ka q3 Q ke hz kc qa q4;gi_wp2;have hx:=(Vm (n:=9)).1 (km 9 x.1 C' (cZ of x.1) q sx w2.drew ks.out (oZ _ _ kj) (by omega) (u _ _ _ qd.out (TW _ _).drew));have hm:aF w2.drew w'.heap.size C':=qc.out;have c1:=N.out.set.cell;have c2:=N.out.pas.cell;have c3:=N.out.Sj.cell;have c4:=N.out.yld.cell;refine bB (dr _) 7 [(0,ZU),(1,ZU),(2,ZU),(4,ZU),(5,ZU),(6,ZU),(3,ZT),(7,ZT),(8,ZT)] (λt=>t=w2.drew) (by kernel_rfl) (by kernel_rfl) rfl ?_;refine aC rfl rfl ⟨.agg (aY C'),λt hS=>by subst hS;simp [execOp,Act.eval,l9 hm,Result.andThen],?_⟩;simp only [Act.put,TX,TY,TZ];iterate 5 (refine aC rfl rfl ?_;apply YF;refine ⟨λt hS=>?_,?_⟩;(subst hS;first|(go_simp;done)|(go_simp;exact rfl));simp only [Act.put,TX,TY,TZ])
     refine dF (dr _) (DN of x.1 kj k0 w2.drew) rfl rfl nofun (by go_simp) ?_;rintro e t ⟨rfl,rfl⟩;refine ⟨_,rfl,λ_=>rfl,?_⟩;simp only [Act.put,TX,TY,TZ];refine dF (dr _) hx rfl rfl nofun (by go_simp) ?_;rintro e t ⟨rfl,kv,I⟩;refine ⟨_,rfl,AR,?_⟩;simp only [Act.put,TX,TY,TZ];refine lU (dr _) (v:=Z1 ZT) (w1:=t) rfl rfl nofun (by go_simp) (λh=>absurd h (by decide)) (cB ?_);simp only [Act.put,TX,TY,TZ];rename_i hK
     refine hK _ _ ?_;clear hx hm c1 c2 c3 c4 hK;have h9:bu n0 w2 t:=⟨I.os,I.tape,I.output,I.size,I.block⟩;have hv3:VB t W.heap.size C of q Bl l:=N.out.keep (λk k1 k2=>h9.block k (by omega) (by omega));have c7:=hv3.pas.cell;have f7:=hv3.pas.frozen;obtain ⟨qs,qn⟩:=Hk q qj;have qf:=ak hv3;have qe:=ak kv;have kr:=ak h9;clear hv3 kv h9 I;gi_wp2;have kg:=j.o;have G:=U.o;have kx:J (Dp K d C' (cZ of x.1) q sx) (t.setCell ⟨W.heap.size+1+1,0,ZW⟩ (Z7 Z9 ((q+1:Nat):Int))):=u _ _ _ qe.out ((TW _ _).setCell (p:=⟨W.heap.size+1+1,0,ZW⟩) (by show n0<=W.heap.size+1+1;omega) _);have hh:bu n0 w' t:=(bu.RM qb.out).trans kr.out;have qh:KeepsFrom V.heap.size w' (t.setCell ⟨W.heap.size+1+1,0,ZW⟩ (Z7 Z9 ((q+1:Nat):Int))):=(hh.keeps (by omega)).trans ((VY _ _ _).from _);refine ⟨qh,λ_=>(k6 _ _ kx).2.2,?_⟩;unfold VI;rw [k9.out,Nq R ks.out];refine ⟨rfl,qf.out.passed (q+1),kx,(HA.o.trans hh).setCell (p:=⟨W.heap.size+1+1,0,ZW⟩) (.inr (TV (XI _) (XI _))) _,by rw [Ua];exact Nat.succ_le_succ E,?_⟩;have:=kr.out.size;simp only [World.setCell,Array.size_modify];omega
  . have kf:decide (q<sx.2)=ZT:=Vc R;rw [kf];gi_wp2;refine ⟨Yg _ _,rfl,?_⟩;unfold VI;rw [k9.out,Hh R];exact ⟨rfl,r.o,HJ.o,HA.o,by rw [Ua];exact YM E,U.o⟩
 case done=>
  rintro D xs X hD qo ⟨z,b,g,w,E,G⟩ hK;have M:=Hg (K:=K) (d:=d) (C:=C) (p:=p) (s:=s) qo;rw [M] at g;have hb:=b.res.cell;have f10:=b.res.frozen;have kg:=j.o;have y:=aE b g w;clear b g w;gi_wp2;clear M;exact xK (a:=_) u S (by omega) (by omega) (by omega) y.o.1.res y.o.2.1 y.o.2.2 hK (by simp) (by simp [Act.eval]) (by simp)
 case stop=>
  rintro D c pre X hD kk ⟨rfl,z,b,g,w,E,G⟩ hK;have M:=Ec (K:=K) (d:=d) (C:=C) (p:=p) (s:=s) kk z;rw [M] at g;have hb:=b.res.cell;have f10:=b.res.frozen;have kg:=j.o;have y:=aE b g w;clear b g w;gi_wp2;clear M;exact xK (a:=_) u S (by omega) (by omega) (by omega) y.o.1.res y.o.2.1 y.o.2.2 hK (by simp) (by simp [Act.eval]) (by simp)
def Hl (a:eA C) (h:ix C i=ZV C'):eA C':=by
 obtain ⟨r,rfl,b,c,_⟩:=gA h;have:=a.Sa;exact ⟨mT a.byt,by show C.told<=C.count-1;omega,by show C.count-1<=8;omega⟩
def KD (K:a8) (n0 Bl l:Nat) (J:b8->ZS->Prop) (h:∀ s A B,J s A->ZQ n0 A B->J s B)
 (j:∀ s A,J s A->A.cell? ⟨Bl,0,ZW⟩=ZV (Z7 Z9 (s.2:Int))/\n0<=A.heap.size/\aG A) (k:2<=n0)
 (n:∀ m s C c,J s c->eA C->YieldAt Fence.wide m ZL l #[.agg (aY C)] c λe W'=>e=Z3 (Z1 ZU)/\J (fs K s C) W'/\bu n0 c W') :
 ∀ (d m:Nat) (C:Ck) (of p:Nat) (s:b8) (W:ZS),eA C->C.count<=C.told+d->of<65536->p+16*(d+1)<=100000->J s W ->
  CallsIn Fence.wide m ZL 229 #[.agg (aY C),Z7 Z8 of,Z7 Z9 p,fU Bl,.func (.yield l) #[] #[]] W λe W'=>e=Z3 (Z1 ZU)/\J (iz K d C of p s) W'/\bu n0 W W':=by
 intro d;induction d with
 | zero=>
  intro m C of p s W b y f z g;refine tL K n0 Bl l J h j k n 0 m C of p s W b f (by omega) g ?_;intro m i C' a o q W' hl;obtain ⟨r,_,t,u,_⟩:=gA hl;omega
 | succ d ih=>
  intro m C of p s W b y f z g;refine tL K n0 Bl l J h j k n (d+1) m C of p s W b f (by omega) g ?_;intro m i C' a o q W' hl ho D w;have x:=Hl b hl;obtain ⟨r,v,t,u,_⟩:=gA hl;exact ih m C' a o q W' x (by rw [v];show C.count-1<=C.told+d;omega) ho (by omega) w
end
def pF (n nb:Nat):eJ:=⟨n,nb,λ_=>ZT,λ_ _=>ZT,λ_ _=>zb⟩
def pG (n nb S:Nat):aB:=⟨n,nb,λ_ _=>ZT,λ_=>ZT,λ_ _=>ZT,λ_ _=>ZT,λ_ _=>.blank,S⟩
def zH (n nb S:Nat):iV (pF n nb) (pG n nb S):=⟨rfl,rfl,λ_ _=>rfl,λ_ _ _ _=>yZ (r:=.blank) trivial,λ_ _ _ _ h=>by cases h⟩
def Ed (w:ZS) (b nb:Nat):Prop:=w.rowIs b 114 (64*nb) (λ_=>Z7 .u8 0)
def Hm (w:ZS) (b nb:Nat):Prop:=w.rowIs b 4 nb (λ_=>Z1 ZT)
def dR (nb:Nat) (q:Nat×Nat):List ZR:=[Z1 ZT,Z5 (ZV ⟨q.1,0,ZW⟩) nb nb,Z5 (ZV ⟨q.2,0,ZW⟩) nb nb,Z7 Z9 0]
def m8 (nb:Nat) (l:List (Nat×Nat)):List ZR:=l.flatMap (dR nb)
def Tryz.infoDrive:(ZL.info? 79).map (λi=>(i.zero,i.size,i.bytes))=ZV (ZV (.agg #[Z1 ZT,Z5 ZW 0 0,Z5 ZW 0 0,Z7 Z9 0]),4,64):=by kernel_rfl
def Tryz.Tb:(ZL.info? 4).map (λi=>(i.zero,i.size,i.bytes))=ZV (ZV (Z1 ZT),1,1):=by kernel_rfl
def KE (w:ZS) (nb:Nat):Ed (w.alloc (Z4 (madeCells (aH zb) (nb*64)) 114)) w.heap.size nb:=by
 refine ⟨_,Ug _ _,by rw [size_madeCells];omega,λi c=>?_⟩;have b:(aH zb).size=64:=by rw [il,dE]
 have:i%64<64:=V5 _ (by decide);have a:(aH zb)[i%64]! = Z7 .u8 0:=by
  have e:aH zb=YH 64 (Z7 .u8 0):=by simp only [aH,aJ,zb,List.map_replicate,List.toArray_replicate];rfl
  rw [getElem!_pos (aH zb) (i%64) (by omega)];simp only [e,Array.getElem_replicate]
 simp [madeCells,b,a,show i<nb*64 by omega]
def P0 (w:ZS) (p nb k:Nat) (L:List (Nat×Nat)) (v:ZR) (wr:ZS):Prop:=
 L.length=k/\wr.heap[p]?=ZV (Z4 #[v,Z7 Z9 (-1)] 75 (0,0))/\wr.ownsRow (p+1) 79 4 v k (m8 nb L)/\(∀ q∈L,(p<q.1/\p<q.2)/\Ed wr q.1 nb/\Hm wr q.2 nb)/\(L.map (λq=>q.1)).Nodup/\(L.map (λq=>q.2)).Nodup/\ZQ p w wr
def NaR (w:ZS) (p nb n:Nat) (i:ZR) (wr:ZS):Prop:=∃ k L v,k<=n/\i=Z7 Z9 (k:Nat)/\P0 w p nb k L v wr
def FN {xs:List ZR} (h:w.ownsRow base 79 4 v n xs) (j:w.rowIs b t m f) (l:t≠79):v.ownBlock≠ZV b:=by
 intro e;rcases h.2 with ⟨i,_⟩|⟨g,cap,cur,d,o,a,p⟩
 . rw [i] at e;simp [Value.ownBlock] at e
 . rw [d] at e;simp [Value.ownBlock] at e;subst e;obtain ⟨c,k,_⟩:=j;rw [k] at a;simp at a;exact l a.2
def tM (h:l.Nodup) (a:∀ x∈l,x<b) (c:Nat) (g:b<=c):(l++[c]).Nodup:=by
 rw [U8];refine ⟨h,by simp,λx d y f e=>?_⟩;simp at f;have:=a x d;omega
def P0.next {L:List (Nat×Nat)} {v':ZR} {q:Nat×Nat} (h:P0 w p nb k L v wr) (z:wr.heap.size<=q.1) (A:wr.heap.size<=q.2) (ho:w'.ownsRow (p+1) 79 4 v' (k+1) (m8 nb L++dR nb q))
 (B:Ed w' q.1 nb) (C:Hm w' q.2 nb) (u:w'.heap[p]?=ZV (Z4 #[v',Z7 Z9 (-1)] 75 (0,0))) (b:aa (λj=>j=p\/v.ownBlock=ZV j) wr w'):P0 w p nb (k+1) (L++[q]) v' w':=by
 obtain ⟨n,o,i,d,r,s,c⟩:=h;have:p<wr.heap.size:=(T5.1 o).1;have m:∀ x∈L,Ed w' x.1 nb/\Hm w' x.2 nb:=λx a=>by
  obtain ⟨⟨D,E⟩,f,g⟩:=d x a;refine ⟨V6 f (b.block _ f.lt ?_),V6 g (b.block _ g.lt ?_)⟩
  . rintro (e|e)
    . omega
    . exact FN i f (by decide) e
  . rintro (e|e)
    . omega
    . exact FN i g (by decide) e
 refine ⟨by simp [n],u,?_,λx a=>?_,?_,?_,⟨b.os.trans c.os,b.tape.trans c.tape,b.output.trans c.output,TV c.size b.size,λj t=>(b.block j (by omega) (λe=>?_)).trans (c.block j t)⟩⟩
 . have e:m8 nb (L++[q])=m8 nb L++dR nb q:=(by simp [m8]);rw [e];exact ho
 . rcases Ui.1 a with a|a
   . exact ⟨(d x a).1,m x a⟩
   . simp at a;subst a;exact ⟨⟨by omega,by omega⟩,B,C⟩
 . rw [Uv];exact tM r (λx a=>by obtain ⟨y,l,rfl⟩:=T9.1 a;exact (d y l).2.1.lt) _ z
 . rw [Uv];exact tM s (λx a=>by obtain ⟨y,l,rfl⟩:=T9.1 a;exact (d y l).2.2.lt) _ A
 . rcases e with e|e
   . omega
   . have:=(i.lt j e).1;omega
def KF (n nb:Nat) (w:ZS) (e:Ending) (w':ZS):Prop:=e=Z3 (Z6 (ZV ⟨w.heap.size,0,ZW⟩))/\bW w w'/\∃ F:aK,ah w' w.heap.size (pF n nb) F/\∀ k,F.S k->w.heap.size<=k
def BN (nb:Nat):∀ (L:List (Nat×Nat)) (i:Nat),i<L.length->(m8 nb L)[i*4]?=ZV (Z1 ZT)/\(m8 nb L)[i*4+1]?=ZV (Z5 (ZV ⟨(L.getD i (0,0)).1,0,ZW⟩) nb nb)/\(m8 nb L)[i*4+2]?=ZV (Z5 (ZV ⟨(L.getD i (0,0)).2,0,ZW⟩) nb nb)/\(m8 nb L)[i*4+3]?=ZV (Z7 Z9 0)
 | [],i,h=>absurd h (by simp)
 | q::L,0,_=>⟨rfl,rfl,rfl,rfl⟩
 | q::L,i+1,h=>by
  have e:m8 nb (q::L)=dR nb q++m8 nb L:=by simp [m8]
  have ih:=BN nb L i (by simpa using h);have a:∀ j,(dR nb q++m8 nb L)[(i+1)*4+j]?=(m8 nb L)[i*4+j]?:=λj=>by
   rw [U6 (by simp [dR];omega),show (i+1)*4+j-(dR nb q).length=i*4+j by simp [dR];omega]
  rw [e];exact ⟨(a 0).trans ih.1,(a 1).trans ih.2.1,(a 2).trans ih.2.2.1,(a 3).trans ih.2.2.2⟩
def BO (h:l.Nodup) {i j:Nat} (a:i<l.length) (b:j<l.length) (e:l[i]=l[j]):i=j:=(List.getElem_inj h).1 e
theorem P0.post {L:List (Nat×Nat)} (h:P0 w w.heap.size nb n L v wr) (K:0<n) (B:n<=1000) (C:nb<=1000000):KF n nb w (Z3 (Z6 (ZV ⟨w.heap.size,0,ZW⟩))) wr:=by
 obtain ⟨b,t,u,f,y,z,A⟩:=h;refine ⟨rfl,A,?_⟩;rcases u.2 with ⟨rfl,I⟩|⟨g,cap,cur,rfl,c,r,F,G,H,s⟩
 . omega
 . have l:∀ i,i<n->(L.getD i (0,0))∈L:=λi a=>by
    rw [Ub,Uc (show i<L.length by omega)];exact T6 _
   refine ⟨⟨g,cap,λi=>(L.getD i (0,0)).1,λi=>(L.getD i (0,0)).2,λk=>k=w.heap.size\/k=g\/∃ i,i<n/\(k=(L.getD i (0,0)).1\/k=(L.getD i (0,0)).2)⟩,⟨t,⟨cur,r,λi a=>?_⟩,λi a=>?_,λi a=>?_,λi j a d=>⟨λe=>?_,λe=>?_⟩,λk=>Yc,B,C,λ_ _=>⟨dE,λx D=>by have:=Vz D;omega⟩⟩,?_⟩
   . have q:=BN nb L i (by rw [b];exact a);have:i<n:=a;rw [<- s] at q;simp only [VF (show i*4<n*4 by omega),VF (show i*4+1<n*4 by omega),VF (show i*4+2<n*4 by omega),VF (show i*4+3<n*4 by omega),abc] at q;exact ⟨q.1,q.2.1,q.2.2.1,_,q.2.2.2⟩
   . refine World.rowIs.congr (f _ (l i a)).2.1 λj d=>?_;show Value.int .u8 0=Value.int .u8 ((zb.getD (j%64) 0:Nat):Int);have E:zb.getD (j%64) 0=0:=by
      unfold zb;rw [Ub,WC];split<;>rfl
     rw [E];rfl
   . exact (f _ (l i a)).2.2
   . have p:i<(L.map (λq=>q.1)).length:=(by rw [Ue,b];exact a);have c:j<(L.map (λq=>q.1)).length:=(by rw [Ue,b];exact d);refine BO y p c ?_;have m:i<L.length:=(by rw [b];exact a);have o:j<L.length:=(by rw [b];exact d);simpa [m,o] using e
   . have p:i<(L.map (λq=>q.2)).length:=(by rw [Ue,b];exact a);have c:j<(L.map (λq=>q.2)).length:=(by rw [Ue,b];exact d);refine BO z p c ?_;have m:i<L.length:=(by rw [b];exact a);have o:j<L.length:=(by rw [b];exact d);simpa [m,o] using e
   . rintro k (rfl|rfl|⟨i,a,rfl|rfl⟩)
     . exact TU _
     . exact Nat.le_of_succ_le c
     . exact Nat.le_of_lt (f _ (l i a)).1.1
     . exact Nat.le_of_lt (f _ (l i a)).1.2
def FkN (w w2:ZS) (nb b1 b2:Nat):Prop:=Ed w2 b1 nb/\Hm w2 b2 nb/\w.heap.size<=b1/\w.heap.size<=b2/\bW w w2
theorem kC (n nb:Nat) (w:ZS) (km:0<n) (hn:n<=1000) (ko:nb<=1000000) :
 ZP ZL 8 #[Z7 Z9 n,Z7 Z9 nb] w λe w'=>KF n nb w e w':=by
 go_enter func8,ntmps8;have h0:P0 w w.heap.size nb 0 [] (Z5 ZW 0 0) (w.alloc (Z4 #[Z5 ZW 0 0,Z7 Z9 (-1)] 75)):=⟨rfl,Ug _ _,UK _ _ _ _,λq hq=>(by simp at hq),by simp,by simp,bA w _⟩;go_wp2_with fail;go_loopw [9] (λi wr=>NaR w w.heap.size nb n i wr) (λi _=>n-(intOf i).toNat)
 case atStart=>exact ⟨0,[],_,T8 _,rfl,h0⟩
 case round=>
  clear h0;obtain ⟨k,L,v,hk,rfl,c⟩:=hrel;by_cases kp:k<n
  . have d:=ak c;clear c;go_wp2_with fail;obtain ⟨p,hp⟩:=nM (w.heap.size);have c:=d.o;rw [hp] at c ⊢;have I:=c.2.1;have he:=c.2.2.1;have ke:p<wr.heap.size:=(T5.1 I).1;have c0:wr.drew.cell? ⟨p,0,ZW⟩=ZV v:=show wr.cell? _=_ by simp [World.cell?,I]
    have n1:¬ (nb:Int)<0:=(by omega);obtain ⟨ib,kb,k7,k6,k5⟩:=Ut Tryz.zeroBlk;obtain ⟨ic,kc,ka,k9,k8⟩:=Ut Tryz.Tb;obtain ⟨id,R,kj,ki,kh⟩:=Ut Tryz.infoDrive;have N:∀ w',(Instr.makeSlice 76 (Z7 Z9 nb) (Z7 Z9 nb)).run ZL w'=.ok (Z5 (ZV ⟨w'.heap.size,0,ZW⟩) nb nb) (w'.alloc (Z4 (madeCells (aH zb) (nb*64)) 114)):=λw'=>by
     have E:=run_make (P:=ZL) w' 76 114 ib (.agg (aH zb)) underlying76 kb k7 .i64 .i64 nb nb (by omega) (Int.le_refl _) (by rw [k5];omega) (by omega);rw [k6,Vw] at E;exact E
    have H:∀ w',(Instr.makeSlice 77 (Z7 Z9 nb) (Z7 Z9 nb)).run ZL w'=.ok (Z5 (ZV ⟨w'.heap.size,0,ZW⟩) nb nb) (w'.alloc (Z4 (madeCells #[Z1 ZT] nb) 4)):=λw'=>by
     have E:=run_make (P:=ZL) w' 77 4 ic (Z1 ZT) underlying77 kc ka .i64 .i64 nb nb (by omega) (Int.le_refl _) (by rw [k8];omega) (by omega);rw [k9,Vw,V9] at E;exact E
    refine lh 16 (wl [(0,ZU),(1,ZU),(2,ZU),(3,ZU),(4,ZU),(5,ZU),(6,ZU),(8,ZU),(9,ZU)] (.fk (wl [(7,ZT),(10,ZT),(11,ZU),(12,ZT),(13,ZT),(14,ZU),(15,ZU),(16,ZT)] .en) (wl [(10,ZT),(7,ZT),(11,ZU),(12,ZT),(13,ZT),(14,ZU),(15,ZU),(16,ZT)] .en))) (λw'=>w'.cell? ⟨p,0,ZW⟩=ZV v) (by kernel_rfl) (by kernel_rfl) c0 ?_;iterate 9 (refine aC rfl rfl ?_;apply YF;refine ⟨λw' c=>?_,?_⟩;(first|(go_simp;done)|(go_simp;exact rfl));simp only [Act.put,TX,TY,TZ])
    have C:∀ w1:ZS,bW wr w1->w1.cell? ⟨p,0,ZW⟩=ZV v:=λw1 hb=>(hb.cell (p:=⟨p,0,ZW⟩) ke).trans c0;have x:bW wr wr.drew:=(TW _ wr).drew;have a:∀ {w1:ZS} (o:Obj),bW wr w1->bW wr (w1.alloc o):=λo h=>h.alloc h.size o;clear d;have d:=aE c he I;clear c he I c0;obtain ⟨f,T⟩:∃ o,Obj.cells (madeCells (aH zb) (nb*64)) 114=o:=⟨_,rfl⟩;obtain ⟨l,U⟩:∃ o,Obj.cells (madeCells #[Z1 ZT] nb) 4=o:=⟨_,rfl⟩;have W:∀ w':ZS,Ed (w'.alloc f) w'.heap.size nb:=λw'=>T▸KE w' nb;have X:∀ w':ZS,Hm (w'.alloc l) w'.heap.size nb:=λw'=>U▸Xq w' (Z1 ZT) nb _;rw [T] at N;rw [U] at H;refine ⟨?fa,?fb⟩
    case' fa=>
     obtain ⟨b1,A⟩:∃ b,wr.heap.size=b:=⟨_,rfl⟩;obtain ⟨b2,B⟩:∃ b,wr.heap.size+1=b:=⟨_,rfl⟩;refine eK (v:=Z5 (ZV ⟨b1,0,ZW⟩) nb nb) (w1:=wr.drew.alloc f) rfl rfl (by simp [execOp,Act.eval,N,A]) (λ_=>C _ (a _ x)) ?_;simp only [Act.put,TX,TY,TZ];refine eK (v:=Z5 (ZV ⟨b2,0,ZW⟩) nb nb) (w1:=(wr.drew.alloc f).alloc l) rfl rfl (by simp [execOp,Act.eval,H,B]) (λ_=>C _ (a _ (a _ x))) ?_;have z:FkN wr ((wr.drew.alloc f).alloc l) nb b1 b2:=⟨by rw [<- A];exact (W _).alloc _,by have:=X (wr.drew.alloc f);rw [Ul] at this;rw [<- B];exact this,by omega,by omega,a _ (a _ x)⟩;obtain ⟨w2,V⟩:=nM ((wr.drew.alloc f).alloc l)
    case' fb=>
     obtain ⟨b2,B⟩:∃ b,wr.heap.size=b:=⟨_,rfl⟩;obtain ⟨b1,A⟩:∃ b,wr.heap.size+1=b:=⟨_,rfl⟩;refine eK (v:=Z5 (ZV ⟨b2,0,ZW⟩) nb nb) (w1:=wr.drew.alloc l) rfl rfl (by simp [execOp,Act.eval,H,B]) (λ_=>C _ (a _ x)) ?_;simp only [Act.put,TX,TY,TZ];refine eK (v:=Z5 (ZV ⟨b1,0,ZW⟩) nb nb) (w1:=(wr.drew.alloc l).alloc f) rfl rfl (by simp [execOp,Act.eval,N,A]) (λ_=>C _ (a _ (a _ x))) ?_;have z:FkN wr ((wr.drew.alloc l).alloc f) nb b1 b2:=⟨by have:=W (wr.drew.alloc l);rw [Ul] at this;rw [<- A];exact this,by rw [<- B];exact (X _).alloc _,by omega,by omega,a _ (a _ x)⟩;obtain ⟨w2,V⟩:=nM ((wr.drew.alloc l).alloc f)
    all_goals
     simp only [Act.put,TX,TY,TZ];rw [V] at z ⊢;clear A B V W X N H kb k7 k6 k5 kc ka k9 k8 x T U;obtain ⟨z1,z2,q1,q2,z⟩:=z;refine aC rfl rfl ⟨.agg (dR nb (b1,b2)).toArray,λw' _=>by simp only [dR];go_simp,?_⟩;simp only [Act.put,TX,TY,TZ];refine eK (v:=Z5 (ZV ⟨w2.heap.size,0,ZW⟩) 1 1) (w1:=w2.alloc (Z4 (dR nb (b1,b2)).toArray 79)) rfl rfl (by simp only [dR];go_simp) (λ_=>C _ (a _ z)) ?_;simp only [Act.put,TX,TY,TZ];have y:=a (Z4 (dR nb (b1,b2)).toArray 79) z;have Q:=Ug w2 (Z4 (dR nb (b1,b2)).toArray 79);have r:=z1.alloc (Z4 (dR nb (b1,b2)).toArray 79);have s:=z2.alloc (Z4 (dR nb (b1,b2)).toArray 79);obtain ⟨Y,kf⟩:=nM (w2.alloc (Z4 (dR nb (b1,b2)).toArray 79));rw [kf] at y Q r s ⊢;refine sM rfl rfl λK hK=>?_;refine wp_append_own Y (Z0 15) (Z0 23) 73 rfl (p+1) 79 id _ 4 64 underlying73 R kj ki kh rfl (by decide) v k (m8 nb L) rfl (aq d.o.2.1 y) ⟨w2.heap.size,0,ZW⟩ 1 1 (dR nb (b1,b2)) rfl rfl (λj u S=>?_) (λu hu=>?_) (by simp [maxLen];omega) (by omega) (by have:=y.size;omega) ?_
     . rw [jy];simp only [World.cell?,Q];simpa using S
     . simp [dR] at hu;rcases hu with rfl|rfl|rfl|rfl<;>rfl
     intro v' m J t kk;have D:∀ b,wr.heap.size<=b->b<Y.heap.size->m.heap[b]?=Y.heap[b]?:=λb hb kg=>t.block b kg (λe=>by have:=(d.o.2.1.lt b e.symm).2;omega);have M:m.heap[p]?=ZV (Z4 #[v,Z7 Z9 (-1)] 75 (0,0)):=(t.block p (by have:=y.size;omega) (λe=>by have:=(d.o.2.1.lt p e.symm).1;omega)).trans ((y.block p ke).trans d.o.2.2);have Z:m.cell? ⟨p,0,ZW⟩=ZV v:=(by simp [World.cell?,M]);have f4:m.frozen? ⟨p,0,ZW⟩=ZT:=(by simp [World.frozen?,M]);have F:Ed m b1 nb:=V6 r (D _ q1 r.lt);have G:Hm m b2 nb:=V6 s (D _ q2 s.lt);have k0:aa (λj=>j=p\/v.ownBlock=ZV j) wr m:=(aa.RL y _).trans ⟨t.os,t.tape,t.output,t.size,λj S hs=>t.block j S (λe=>hs (.inr e.symm))⟩;refine hK _ _ (λ_=>Z) ?_;clear hK kk t D Q y r s z z1 z2 kf;obtain ⟨O,sl,sc,rfl⟩:∃ O sl sc,v'=.slice O sl sc:=by
      rcases J.2 with ⟨e,_⟩|⟨g,cap,cur,e,_⟩
      . exact ⟨_,_,_,e⟩
      . exact ⟨_,_,_,e⟩
     simp only [Act.put,TX,TY,TZ];iterate 2 (refine aC rfl rfl ?_;apply YF;refine ⟨λw' c=>?_,?_⟩;(first|(go_simp;done)|(go_simp;exact rfl));simp only [Act.put,TX,TY,TZ])
     refine jX (w1:=m.setCell ⟨p,0,ZW⟩ (.slice O sl sc)) rfl rfl (by go_simp) AR (cB ?_);have hN:=d.o.1.next (w':=m.setCell ⟨p,0,ZW⟩ (.slice O sl sc)) (q:=(b1,b2)) q1 q2 (J.kept (row:=ZV p) ⟨rfl,rfl,rfl,by simp [World.setCell],λi _ hi=>Ud _ _ _ _ (λe=>hi (by rw [e]))⟩ (.inr λe=>by have:=(J.lt p e).1;omega)) (V6 F (Ud _ _ _ _ (by show b1≠p;omega))) (V6 G (Ud _ _ _ _ (by show b2≠p;omega))) (by simp [World.setCell,VC,M]) (k0.trans (aa.setCell _ _ _ (.inl rfl)));have HN:=ak hN;clear hN d J F G k0 M Z f4;rename_i hK
     refine hK _ _ ?_;clear hK;simp only [Act.put];go_wp2;exact ⟨⟨k+1,_,_,by omega,by go_num,HN.o⟩,by simp [intOf];omega⟩
  . have D:k=n:=(by omega);subst D;have d:=ak c;clear c;go_wp2;go_ret;exact d.o.post km hn ko
def P2 (n nb S:Nat) (w:ZS) (e:Ending) (w':ZS):Prop:=e=Z3 (Z6 (ZV ⟨w.heap.size,0,ZW⟩))/\bW w w'/\∃ F:aK,az w' w.heap.size (pG n nb S) F/\∀ k,F.S k->w.heap.size<=k
def zI (n nb S:Nat) (w:ZS) (a:0<n) (f:n<=1000) (d:nb<=1000000) :
 ZP ZL 8 #[Z7 Z9 n,Z7 Z9 nb] w λe w'=>P2 n nb S w e w':=by
 refine (kC n nb w a f d).mono ?_;rintro e w' ⟨b,c,F,g,h⟩;exact ⟨b,c,F,⟨_,g,zH n nb S⟩,h⟩
def aO (L:List (ByteArray×ZR)):List ZR:=L.flatMap λq=>[ZZ q.1,q.2]
def kD (L:List (ByteArray×ZR)):(aO L).length=L.length*2:=by
 induction L with
 | nil=>rfl
 | cons q L ih=>simp only [aO,VE,Ua,UA] at ih ⊢;rw [ih];simp;omega
def tN (L:List (ByteArray×ZR)) (k:Nat) (a:k<L.length):(aO L)[k*2]?=ZV (ZZ L[k].1)/\(aO L)[k*2+1]?=ZV L[k].2:=by
 induction L generalizing k with
 | nil=>simp at a
 | cons q L ih=>
  have e:aO (q::L)=[ZZ q.1,q.2]++aO L:=by simp [aO]
  rw [e];cases k with
  | zero=>exact ⟨rfl,rfl⟩
  | succ k=>
   simp at a;obtain ⟨b,c⟩:=ih k a;refine ⟨?_,?_⟩
   . rw [U6 (by simp;omega),show (k+1)*2-[Value.string q.1,q.2].length=k*2 by simp;omega];exact b
   . rw [U6 (by simp;omega),show (k+1)*2+1-[Value.string q.1,q.2].length=k*2+1 by simp;omega];exact c
def jn (L M:List (ByteArray×ZR)):aO (L++M)=aO L++aO M:=by simp [aO]
structure rE (w:ZS) (r base:Nat) (v:ZR) (L:List (ByteArray×ZR)):Prop where
 top:w.heap[r]?=ZV (Z4 #[v] 38 (0,0))
 own:w.ownsRow base 101 2 v L.length (aO L)
def rE.shape {L:List (ByteArray×ZR)} (h:rE w r base v L):(v=Z5 ZW 0 0/\L=[])\/∃ g cap,v=Z5 (ZV ⟨g,0,ZW⟩) L.length cap/\base<=g/\L.length<=cap /\
 ∀ k (d:k<L.length),w.cell? ⟨g,k*2,ZW⟩=ZV (ZZ L[k].1)/\w.cell? ⟨g,k*2+1,ZW⟩=ZV L[k].2:=by
 rcases h.own.2 with ⟨i,j⟩|⟨g,cap,cur,c,e,n,f,o,p,q⟩
 . exact .inl ⟨i,UU j⟩
 . refine .inr ⟨g,cap,c,e,f,λk d=>?_⟩;obtain ⟨l,m⟩:=tN L k d;have:=h.own.cells (g:=g) (by rw [c];rfl);have a:=this _ _ l;have b:=this _ _ m;rw [jy] at a b;exact ⟨a,b⟩
def rE.cell {L:List (ByteArray×ZR)} (h:rE w r base v L):w.cell? ⟨r,0,ZW⟩=ZV v/\w.frozen? ⟨r,0,ZW⟩=ZT:=by simp [World.cell?,World.frozen?,h.top]
def FiR (w:ZS) (L:List (ByteArray×ZR)) (name:ByteArray) (i:ZR) (wr:ZS):Prop:=∃ k:Nat,k<=L.length/\i=Z7 Z9 k/\wr=w/\∀ j (hj:j<L.length),j<k->¬ L[j].1.toList=name.toList
theorem jG {L:List (ByteArray×ZR)} (h:rE w r base v L) (hl:L.length<=1000000) (name:ByteArray) :
 ZP ZL 37 #[Z6 (ZV ⟨r,0,ZW⟩),ZZ name] w λe w'=>w'=w/\((∃ k,∃ l:k<L.length,e=Z3 (Z7 Z9 (k:Nat))/\L[k].1.toList=name.toList/\∀ j (a:j<L.length),j<k->¬ L[j].1.toList=name.toList)\/(e=Z3 (Z7 Z9 (-1))/\∀ j (a:j<L.length),¬ L[j].1.toList=name.toList)):=by
 obtain ⟨c0,_⟩:=h.cell;have s:=h.shape;go_enter func37,ntmps37;go_wp2;go_loopw [5] (λi wr=>FiR w L name i wr) (λi _=>L.length-(intOf i).toNat)
 case atStart=>exact ⟨0,T8 _,rfl,rfl,λj _ a=>absurd a (by omega)⟩
 case round=>
  obtain ⟨k,l,rfl,rfl,c⟩:=hrel;rcases s with ⟨rfl,rfl⟩|⟨g,cap,rfl,x,u,m⟩
  . have p:k=0:=(by simpa using l);subst p;clear c;go_wp2;go_ret;exact ⟨rfl,.inr ⟨rfl,λj a=>absurd a (by simp)⟩⟩
  . by_cases f:k<L.length
    . obtain ⟨c1,t⟩:=m k f;have HN:=ak c;clear c;by_cases b:L[k].1.toList=name.toList
      . have n:(L[k].1.toList==name.toList)=ZU:=(by rw [b];exact beq_self_eq_true _);have d:=ak b;clear b;go_wp2;go_ret;exact ⟨rfl,.inl ⟨k,f,rfl,d.o,HN.o⟩⟩
      . have n:(L[k].1.toList==name.toList)=ZT:=(by rw [beq_eq_false_iff_ne];exact b);have d:=ak b;clear b;go_wp2;refine ⟨⟨k+1,by omega,by go_num,rfl,λj a y=>?_⟩,by simp [intOf];omega⟩;by_cases e:j=k
        . subst e;exact d.o
        . exact HN.o j a (by omega)
    . have q:k=L.length:=(by omega);subst q;have HN:=ak c;clear c;go_wp2;go_ret;exact ⟨rfl,.inr ⟨rfl,λj a=>HN.o j a a⟩⟩
def eL (n:ByteArray):Prop:=1<=n.size/\n.size<=16
def Nr (L:List (ByteArray×ZR)) (name:ByteArray) (k:Nat):Prop:=∃ hk:k<L.length,L[k].1.toList=name.toList/\∀ j (hj:j<L.length),j<k->¬ L[j].1.toList=name.toList
def pH (L:List (ByteArray×ZR)) (name:ByteArray):Prop:=∀ j (hj:j<L.length),¬ L[j].1.toList=name.toList
def P3 (L:List (ByteArray×ZR)) (name:ByteArray) (e:Ending):Prop:=
 (¬ eL name/\e=Z3 (ZY #[Z5 ZW 0 0,Z7 Z9 6]))\/(eL name/\pH L name/\e=Z3 (ZY #[Z5 ZW 0 0,Z7 Z9 9]))\/(eL name/\∃ k,Nr L name k/\e=Z3 (ZY #[(L.getD k (ByteArray.empty,ZX)).2,Z7 Z9 0]))
theorem BP {L:List (ByteArray×ZR)} (h:rE w r base v L) (hl:L.length<=1000000) (name:ByteArray) :
 ZP ZL 14 #[Z6 (ZV ⟨r,0,ZW⟩),ZZ name] w λe w'=>w'=w/\P3 L name e:=by
 obtain ⟨c0,_⟩:=h.cell;have i:=h.shape;have j:=jG h hl name;by_cases s:name.size=0
 . have n0:(name.size:Int)=0:=(by omega);go_enter func14,ntmps14;go_wp2;go_ret2;exact ⟨rfl,.inl ⟨λq=>by have:=q.1;omega,rfl⟩⟩
 . have n0:¬ (name.size:Int)=0:=(by omega);by_cases u:16<name.size
   . have n:(16:Int)<(name.size:Int):=(by omega);go_enter func14,ntmps14;go_wp2;go_ret2;exact ⟨rfl,.inl ⟨λq=>by have:=q.2;omega,rfl⟩⟩
   . have n:¬ (16:Int)<(name.size:Int):=(by omega);have f:eL name:=⟨by omega,by omega⟩;go_enter func14,ntmps14;go_wp2_with fail;refine j.mono ?_;rintro e w' ⟨rfl,m⟩;clear j;rcases m with ⟨k,a,rfl,l,b⟩|⟨rfl,d⟩
     . rcases i with ⟨rfl,rfl⟩|⟨g,cap,rfl,x,t,c⟩
       . exact absurd a (by simp)
       . obtain ⟨c1,p⟩:=c k a;have HF:=al l b;clear l b c;go_wp2;go_ret2;exact ⟨rfl,.inr (.inr ⟨f,k,⟨a,HF.o.1,HF.o.2⟩,by simp [a]⟩)⟩
     . have HF:=ak d;clear d i;go_wp2;go_ret2;exact ⟨rfl,.inr (.inl ⟨f,HF.o,rfl⟩)⟩
def BQ:ZR->Nat
 | .slice _ n _=>n
 | _=>0
def kF (v:ZR):Prop:=∃ ao n c,v=.slice ao n c/\n<=1000000
def bN (L:List (ByteArray×ZR)) (q k:Nat):Nat:=((L.take k).map λo=>BQ o.2/q+1).sum
def lA (L:List (ByteArray×ZR)) (q k:Nat) (a:k<L.length):bN L q (k+1)=bN L q k+(BQ L[k].2/q+1):=by
 unfold bN;rw [Vd,Uc a];simp only [Uv,YC,YL,U0,Wl,XB,List.sum_nil,VN]
def oq (L:List (ByteArray×ZR)) (q k:Nat) (h:∀ o∈L,BQ o.2<=1000000) (c:k<=L.length):bN L q k<=k*1000001:=by
 induction k with
 | zero=>simp [bN]
 | succ k ih=>
  rw [lA L q k (by omega)];have:=ih (by omega);have:=h L[k] (T6 _);have:BQ L[k].2/q<=BQ L[k].2:=VP _ _;omega
def jo (L:List (ByteArray×ZR)) (data:Nat) (more:Int):Nat:=
 let q:=data*44
 if 0<=more then bN L q L.length+(more.toNat/q+1)+2*((L.length+1)*200/q+1) else bN L q L.length+2*(L.length*200/q+1)
def NeR (w:ZS) (L:List (ByteArray×ZR)) (q:Nat) (n i:ZR) (wr:ZS):Prop:=∃ k:Nat,k<=L.length/\n=Z7 Z9 (bN L q k:Nat)/\i=Z7 Z9 k/\wr=w
theorem Ee {L:List (ByteArray×ZR)} (h:rE w r base v L) (hl:L.length<=1000) (D:∀ o∈L,kF o.2) (data:Nat) (W:1<=data) (U:data<=1000) (more:Int) (Y:-1<=more) (Z:more<=1000000) :
 ZP ZL 34 #[Z6 (ZV ⟨r,0,ZW⟩),Z7 Z9 data,Z7 Z9 more] w λe w'=>w'=w/\e=Z3 (Z7 Z9 (jo L data more:Nat)):=by
 obtain ⟨c0,_⟩:=h.cell;have l:=h.shape;have z:∀ o∈L,BQ o.2<=1000000:=λo ho=>by obtain ⟨ao,n,c,e,B⟩:=D o ho;rw [e];exact B
 obtain ⟨q,C⟩:∃ q,q=data*44:=⟨_,rfl⟩;have hj:1<=q:=by omega
 have hp:q<=44000:=by omega
 have hr:(data:Int)*44=(q:Int):=by omega
 have u:=ak C;clear C;have A:v=Z5 ZW 0 0/\L.length=0\/∃ g cap,v=Z5 (ZV ⟨g,0,ZW⟩) L.length cap:=by
  rcases l with ⟨a,f⟩|⟨g,cap,a,_⟩
  . exact .inl ⟨a,by rw [f];rfl⟩
  . exact .inr ⟨g,cap,a⟩
 obtain ⟨ao,cap,E⟩:∃ ao cap,v=.slice ao L.length cap:=by
  rcases A with ⟨a,f⟩|⟨g,cap,a⟩
  . exact ⟨ZW,0,by rw [a,f]⟩
  . exact ⟨_,_,a⟩
 rw [E] at c0;go_enter func34,ntmps34;go_wp2;go_loopw [8,10] (λn i wr=>NeR w L q n i wr) (λ_ i _=>L.length-(intOf i).toNat)
 case atStart=>exact ⟨0,T8 _,rfl,rfl,rfl⟩
 case round=>
  obtain ⟨k,N,rfl,rfl,rfl⟩:=hrel;by_cases j:k<L.length
  . rcases l with ⟨_,rfl⟩|⟨g,x,s,V,T,y⟩
    . exact absurd j (by simp)
    . rw [E] at s;simp at s;obtain ⟨rfl,rfl⟩:=s;obtain ⟨c1,G⟩:=y k j;obtain ⟨O,n,P,e,B⟩:=D L[k] (T6 _);have p:=lA L q k j;have M:=oq L q k z N;rw [e] at G p;have I:(n:Int)/(q:Int)=((n/q:Nat):Int):=(by omega);have Q:(n:Int).tdiv (q:Int)=((n/q:Nat):Int):=(by rw [XJ (by omega)];exact I);have X:n/q<=n:=VP _ _;have ho:NeR wr L q (Z7 Z9 ((bN L q k+(n/q+1):Nat):Int)) (Z7 Z9 ((k:Int)+1)) wr:=⟨k+1,by omega,by rw [p];rfl,rfl,rfl⟩;have F:=ak ho;clear ho p y;generalize bN L q k=S at *;generalize n/q=d at *;go_wp2;have:=F.o;rw [show ((S+(d+1):Nat):Int)=(S:Int)+(d:Int)+1 by omega] at this;exact ⟨this,by simp [intOf];omega⟩
  . have K:k=L.length:=(by omega);subst K;have M:=oq L q L.length z lR;clear l A;by_cases t:0<=more
    . obtain ⟨m,rfl⟩:=Int.eq_ofNat_of_zero_le t;have b:jo L data (m:Int)=bN L q L.length+(m/q+1)+2*((L.length+1)*200/q+1):=by
       unfold jo;rw [TT t,<- u.o,Vw]
      have R:(m:Int).tdiv (q:Int)=((m/q:Nat):Int):=(by rw [XJ (by omega)];omega);have J:(((L.length:Int)+1)*200).tdiv (q:Int)=(((L.length+1)*200/q:Nat):Int):=by
       rw [XJ (by omega),show ((L.length:Int)+1)*200=(((L.length+1)*200:Nat):Int) by omega];omega
      have b5:m/q<=m:=VP _ _;have b6:(L.length+1)*200/q<=(L.length+1)*200:=VP _ _;have HN:=ak b;clear b;generalize bN L q L.length=S at *;generalize m/q=d at *;generalize (L.length+1)*200/q=H at *;go_wp2;go_ret;exact ⟨rfl,by rw [HN.o];congr 2⟩
    . have b:jo L data more=bN L q L.length+2*(L.length*200/q+1):=by
       unfold jo;rw [TS t,<- u.o]
      have J:((L.length:Int)*200).tdiv (q:Int)=((L.length*200/q:Nat):Int):=by
       rw [XJ (by omega),show (L.length:Int)*200=((L.length*200:Nat):Int) by omega];omega
      have b6:L.length*200/q<=L.length*200:=VP _ _;have HN:=ak b;clear b;generalize bN L q L.length=S at *;generalize L.length*200/q=H at *;go_wp2;go_ret;exact ⟨rfl,by rw [HN.o];congr 2⟩
def pI (X:ZS) (p:Nat) (A:aB) (F:aK) (M:List (Nat×Nat)):Prop:=az X p A F/\∀ i b,A.tn i b=ZU->(i,b)∈M
def pI.keep {Y:ZS} {A:aB} {F:aK} (h:pI X p A F M) (a:∀ k,F.S k->Y.heap[k]?=X.heap[k]?):pI Y p A F M:=⟨h.1.keep a,h.2⟩
def aB.SO (A:aB) (d b:Nat):aB:={ A with bad:=λi m=>if i=d/\m=b then ZU else A.bad i m }
def aB.Tc (A:aB) (d:Nat):aB:={ A with lost:=λi=>if i=d then ZU else A.lost i }
def aB.renew (A:aB) (d:Nat):aB:={ A with lost:=λi=>if i=d then ZT else A.lost i,bad:=λi m=>if i=d then ZT else A.bad i m,bl:=λi m=>if i=d then ZU else A.bl i m }
def aB.turn (A:aB) (d b:Nat):aB:={ A with bad:=λi m=>if i=d/\m=b then ZU else A.bad i m,tn:=λi m=>if i=d/\m=b then ZU else A.tn i m }
theorem ah.setByte {R:eJ} {F:aK} (h:ah X p R F) {d b j z:Nat} (c:d<R.n) (f:j<64) (l:z<256):ah (X.setCell ⟨F.bb d,b*64+j,ZW⟩ (Z7 .u8 (z:Nat))) p (R.RT d λm=>if m=b then (R.blk d b).set j z else R.blk d m) F:=by
 refine h.RT c (((h.blk d c).set (b*64+j) (Z7 .u8 (z:Nat))).congr λm _=>?_) (λk g=>Ud _ _ _ _ g) λm=>?_
 . unfold MV;show _=Value.int .u8 (((if m/64=b then (R.blk d b).set j z else R.blk d (m/64)).getD (m%64) 0:Nat):Int);by_cases e:m/64=b
   . rw [TT e,e];simp only [Ub,Xf,(h.len d b).1];by_cases a:m=b*64+j
     . rw [TT a,TT (by omega),TT f];rfl
     . rw [TS a,TS (by omega)]
   . rw [TS (by omega),TS e]
 . split
   . refine ⟨by rw [VS];exact (h.len d b).1,λx i=>?_⟩;rcases X8 i with q|q
     . exact (h.len d b).2 x q
     . rw [q];exact l
   . exact h.len d m
theorem iV.turn {A:aB} {R:eJ} (a:iV R A) (hl:∀ i j,(R.blk i j).length=64/\∀ x∈R.blk i j,x<256) {d b j z:Nat} (s:j<64) (v:z<256) (o:z≠(R.blk d b).getD j 0) (u:A.tn d b=ZT):iV (R.RT d λm=>if m=b then (R.blk d b).set j z else R.blk d m) (A.turn d b):=by
 refine ⟨a.n,a.nb,a.lost,λi m h f=>?_,λi m h f c p=>?_⟩
 . have q:=a.rd i m h f;unfold eJ.rd aB.rd at q ⊢;show (if R.bad i m=ZU then ZW else I9 ((if i=d then λm=>if m=b then (R.blk d b).set j z else R.blk d m else R.blk i) m))=if (if i=d/\m=b then ZU else A.bad i m)=ZU then ZW else ZV (if A.bl i m=ZU then .blank else A.rc i m);by_cases e:i=d/\m=b
   . obtain ⟨rfl,rfl⟩:=e;rw [TT (show i=i/\m=m from ⟨rfl,rfl⟩),TT rfl,TT rfl];by_cases c:R.bad i m=ZU
     . rw [TT c];rfl
     . rw [TS c] at q ⊢;have r:¬ A.bad i m=ZU:=λe=>c (a.tn i m h f e u);rw [TS r] at q;unfold I9 at q ⊢;simp only [if_true];split at q
       . rename_i t
         rw [TS (JG (hl i m).1 (hl i m).2 s v o t)]
       . cases q
   . rw [TS e];by_cases k:i=d
     . subst k;rw [TT rfl];simp only [TS (show ¬ m=b from λq=>e ⟨rfl,q⟩)];exact q
     . rw [TS k];exact q
 . have l:(if i=d/\m=b then ZU else A.bad i m)=ZU:=c;have g:(if i=d/\m=b then ZU else A.tn i m)=ZT:=p;by_cases e:i=d/\m=b
   . rw [TT e] at g;cases g
   . rw [TS e] at l g;exact a.tn i m h f l g
def BR (R:eJ) (d b i m:Nat) (t:Bool):(R.RY d λm=>if m=b then t else R.bad d m).bad i m=if i=d/\m=b then t else R.bad i m:=by
 show (if i=d then λm=>if m=b then t else R.bad d m else R.bad i) m=_;by_cases e:i=d
 . subst e;rw [TT rfl];by_cases a:m=b<;>simp [a]
 . rw [TS e,TS (λq=>e q.1)]
theorem KG {A:aB} {F:aK} (k:pI w p A F M) (d:Nat) (j:d<A.n):ZP ZL 24 #[Z6 (ZV ⟨p,0,ZW⟩),Z7 Z9 d] w λe w'=>e=Z3 (ZY #[])/\pI w' p (A.Tc d) F M/\aa F.S w w':=by
 obtain ⟨⟨R,h,a⟩,g⟩:=k;rw [<- a.n] at j;obtain ⟨c0,c1⟩:=h.RQ;obtain ⟨l,d1,m,q⟩:=h.R4 d j;have t:=h.Se (d*4);have r:(0:Int)<=(d:Int):=by omega
 have s:(d:Int)<(R.n:Int):=by omega
 have H:=aE h a g;clear h a g;go_enter func24,ntmps24;go_wp2;first|go_end0|skip
 obtain ⟨h,a,g⟩:=H.o;refine ⟨rfl,⟨⟨_,h.S4 d ZU,⟨a.n,a.nb,λi f=>?_,λi b f hl=>?_,λi b f hl=>?_⟩⟩,g⟩,aa.setCell _ _ _ h.sg⟩
 . show (if i=d then ZU else R.lost i)=if i=d then ZU else A.lost i;rw [a.lost i f]
 all_goals
  have c:(if i=d then ZU else A.lost i)=ZT:=hl;by_cases e:i=d
  . rw [TT e] at c;cases c
  . rw [TS e] at c;first|exact a.rd i b f c|exact a.tn i b f c
theorem Hn {A:aB} {F:aK} (s:pI w p A F M) (d b:Nat) (c:d<A.n) (g:b<A.nb):ZP ZL 25 #[Z6 (ZV ⟨p,0,ZW⟩),Z7 Z9 d,Z7 Z9 b,Z7 Z9 (-1)] w λe w'=>e=Z3 (ZY #[])/\pI w' p (A.SO d b) F M/\aa F.S w w':=by
 obtain ⟨⟨R,h,a⟩,f⟩:=s;rw [<- a.n] at c;rw [<- a.nb] at g;obtain ⟨c0,c1⟩:=h.RQ;obtain ⟨u,d1,x,y⟩:=h.R4 d c;have j:=h.bad d c;have cb:=aaT j (i:=b) g;have J:=World.rowIs.frozen j b;have r:=iH h (by omega);have z:¬ (d:Int)<0:=by omega
 have B:¬ (R.n:Int)<=(d:Int):=by omega
 have C:¬ (b:Int)<0:=by omega
 have D:(d:Int)<(R.n:Int):=by omega
 have E:(b:Int)<(R.nb:Int):=by omega
 have G:(0:Int)<=(d:Int):=by omega
 have I:(0:Int)<=(b:Int):=by omega
 have H:=a5 h r a f;clear h r j a f;go_enter func25,ntmps25;go_wp2_with fail;refine H.o.2.1.mono ?_;rintro e w' ⟨rfl,rfl⟩;go_wp2;refine Us (v:=ZY #[]) (by simp [results,results25,go_sem]) rfl ?_;obtain ⟨h,_,a,f⟩:=H.o;refine ⟨rfl,⟨⟨_,h.TI c b ZU,⟨a.n,a.nb,a.lost,λi m k hl=>?_,λi m k hl g t=>?_⟩⟩,f⟩,aa.setCell _ _ _ (h.sd c)⟩
 . have q:=a.rd i m k hl;unfold eJ.rd aB.rd at q ⊢;rw [BR];show (if (if i=d/\m=b then ZU else R.bad i m)=ZU then ZW else I9 (R.blk i m))=if (if i=d/\m=b then ZU else A.bad i m)=ZU then ZW else ZV (if A.bl i m=ZU then .blank else A.rc i m);by_cases e:i=d/\m=b
   . simp only [TT e];rfl
   . simp only [TS e];exact q
 . rw [BR];have l:(if i=d/\m=b then ZU else A.bad i m)=ZU:=g;by_cases e:i=d/\m=b
   . exact TT e
   . rw [TS e] at l ⊢;exact a.tn i m k hl l t
theorem KH {A:aB} {F:aK} (N:pI w p A F M) (d b k:Nat) (f:d<A.n) (O:b<A.nb) (hk:k<512) (x:(d,b)∉M):ZP ZL 25 #[Z6 (ZV ⟨p,0,ZW⟩),Z7 Z9 d,Z7 Z9 b,Z7 Z9 k] w λe w'=>e=Z3 (ZY #[])/\pI w' p (A.turn d b) F (M++[(d,b)])/\aa F.S w w':=by
 obtain ⟨⟨R,h,c⟩,g⟩:=N;rw [<- c.n] at f;rw [<- c.nb] at O;obtain ⟨c0,c1⟩:=h.RQ;obtain ⟨V,d1,W,J⟩:=h.R4 d f;have G:=iH h (by omega);have X:¬ (d:Int)<0:=by omega
 have Y:¬ (R.n:Int)<=(d:Int):=by omega
 have Z:¬ (b:Int)<0:=by omega
 have e5:(d:Int)<(R.n:Int):=by omega
 have e6:(b:Int)<(R.nb:Int):=by omega
 have e7:(0:Int)<=(d:Int):=by omega
 have e8:(0:Int)<=(b:Int):=by omega
 have hh:(k:Int).tmod 512=(k:Nat):=by rw [aaJ (by omega)];omega
 obtain ⟨j,Q⟩:=nM (k/8);obtain ⟨t,U⟩:=nM (k%8);have hf:(k:Int).tdiv 8=(j:Nat):=by rw [XJ (by omega)];omega
 have hg:(k:Int).tmod 8=(t:Nat):=by rw [aaJ (by omega)];omega
 have E:j<64:=by omega
 have P:t<8:=by omega
 have cb:=(h.blk d f).cell (i:=b*64+j) (by omega);have fb:=(h.blk d f).frozen (b*64+j);have I:MV (R.blk d) (b*64+j)=Z7 .u8 (((R.blk d b).getD j 0:Nat):Int):=by
  unfold MV;rw [show (b*64+j)/64=b by omega,show (b*64+j)%64=j by omega]
 rw [I] at cb;have B:(R.blk d b).getD j 0<256:=by
  have hl:=h.len d b;rw [Ub,Uc (by omega)];exact hl.2 _ (T6 _)
 obtain ⟨y,r⟩:=nM ((R.blk d b).getD j 0);rw [r] at cb B;have v:2^t<256:=Vx (n:=8) (by decide) P;have a:y^^^2^t<256:=V4 (n:=8) B v;have l:y^^^2^t≠y:=λe=>by
  have K:y^^^(y^^^2^t)=y^^^y:=by rw [e]
  rw [<- U2,UR,VO] at K;have:=VH t;omega
 obtain ⟨z,C⟩:=nM (y^^^2^t);have s:bits .xor .u8 (y:Int) ((2:Int)^t%256)=(z:Nat):=by
  have T:(2:Int)^t=((2^t:Nat):Int):=by rw [Xk];rfl
  have L:∀ u:Nat,u<256->(u:Int)%256=(u:Int):=λu hu=>by omega
  rw [T,L _ v,u8_xor_nat y (2^t) B v,C]
 rw [C] at a l;have H:=hide9 h G c g r x a l s;clear h G c g r x I C Q U a l v J s;go_enter func25,ntmps25;go_wp2_with fail;refine H.o.2.1.mono ?_;rintro e w' ⟨rfl,rfl⟩;go_wp2;go_region;all_goals (
  go_end0
  obtain ⟨h,_,c,g,r,x,a,l,s⟩:=H.o;rw [s];refine ⟨rfl,⟨⟨_,(h.setByte f E a).keep λ_ _=>rfl,c.turn h.len E a (by rw [r];exact l) (Wn.2 λe=>x (g d b e))⟩,λi m e=>?_⟩,(aa.setCell _ _ _ (h.sb f)).trans (aa.drew _)⟩;have D:(if i=d/\m=b then ZU else A.tn i m)=ZU:=e;by_cases q:i=d/\m=b
  . rw [q.1,q.2];simp
  . rw [TS q] at D;exact UF _ (g i m D))
def aK.renew (F F1:aK) (n d p:Nat):aK:=⟨F.g,F.cap,λi=>if i=d then F1.bb 0 else F.bb i,λi=>if i=d then F1.bd 0 else F.bd i,λk=>k=p\/k=F.g\/∃ i,i<n/\(k=(if i=d then F1.bb 0 else F.bb i)\/k=(if i=d then F1.bd 0 else F.bd i))⟩
def eJ.renew (R:eJ) (d:Nat):eJ:={ R with lost:=λi=>if i=d then ZT else R.lost i,bad:=λi=>if i=d then λ_=>ZT else R.bad i,blk:=λi=>if i=d then λ_=>zb else R.blk i }
def zJ (F1:aK) (nb:Nat) (r:Int):List ZR:=[Z1 ZT,Z5 (ZV ⟨F1.bb 0,0,ZW⟩) nb nb,Z5 (ZV ⟨F1.bd 0,0,ZW⟩) nb nb,Z7 Z9 r]
def mb {T:ZN} {z:Nat×Nat} (h:X.heap[b]?=ZV (Z4 cs T z)) (v:ZR):(X.setCell ⟨b,k,ZW⟩ v).heap[b]?=ZV (Z4 (cs.setIfInBounds k v) T z):=by simp [World.setCell,VC,h]
theorem ah.renew {R:eJ} {F F1:aK} {r:Int} (h:ah X p R F) (f:ah X q (pF 1 R.nb) F1) (o:∀ k,F1.S k->¬ F.S k) (K:d<R.n):ah (X.setCells F.g (d*4) (zJ F1 R.nb r)) p (R.renew d) (F.renew F1 R.n d p):=by
 obtain ⟨B,y,J⟩:=h.apart;have m:∀ j,j≠F.g->(X.setCells F.g (d*4) (zJ F1 R.nb r)).heap[j]?=X.heap[j]?:=λj l=>aR _ _ _ _ _ l;obtain ⟨cs,c1,C⟩:=h.drv;have z:F1.S (F1.bb 0):=f.sb (show 0<1 by decide);have A:F1.S (F1.bd 0):=f.sd (show 0<1 by decide);have s:∀ i,i<R.n->F1.bb 0≠F.bb i/\F1.bd 0≠F.bd i:=λi a=>⟨λe=>o _ z (e▸h.sb a),λe=>o _ A (e▸h.sd a)⟩;refine ⟨(m _ B).trans h.top,⟨_,mb (mb (mb (mb c1 _) _) _) _,λi a=>?_⟩,λi a=>?_,λi a=>?_,λi j a l=>?_,λk=>Yc,h.n,h.nb,λi j=>?_⟩
 . obtain ⟨D,E,G,I,H⟩:=C i a;have t:=bF (bF (bF (bF D (Z1 ZT) (k:=d*4)) (Z5 (ZV ⟨F1.bb 0,0,ZW⟩) R.nb R.nb) (k:=d*4+1)) (Z5 (ZV ⟨F1.bd 0,0,ZW⟩) R.nb R.nb) (k:=d*4+1+1)) (Z7 Z9 r) (k:=d*4+1+1+1);have u:=bF (bF (bF (bF E (Z1 ZT) (k:=d*4)) (Z5 (ZV ⟨F1.bb 0,0,ZW⟩) R.nb R.nb) (k:=d*4+1)) (Z5 (ZV ⟨F1.bd 0,0,ZW⟩) R.nb R.nb) (k:=d*4+1+1)) (Z7 Z9 r) (k:=d*4+1+1+1);have v:=bF (bF (bF (bF G (Z1 ZT) (k:=d*4)) (Z5 (ZV ⟨F1.bb 0,0,ZW⟩) R.nb R.nb) (k:=d*4+1)) (Z5 (ZV ⟨F1.bd 0,0,ZW⟩) R.nb R.nb) (k:=d*4+1+1)) (Z7 Z9 r) (k:=d*4+1+1+1);have w:=bF (bF (bF (bF H (Z1 ZT) (k:=d*4)) (Z5 (ZV ⟨F1.bb 0,0,ZW⟩) R.nb R.nb) (k:=d*4+1)) (Z5 (ZV ⟨F1.bd 0,0,ZW⟩) R.nb R.nb) (k:=d*4+1+1)) (Z7 Z9 r) (k:=d*4+1+1+1);by_cases e:i=d
   . subst e;rw [TS (by omega),TS (by omega),TS (by omega),TT rfl] at t;rw [TS (by omega),TS (by omega),TT rfl] at u;rw [TS (by omega),TT (by omega)] at v;rw [TT (by omega)] at w;exact ⟨t.trans (by simp [eJ.renew]),u.trans (by simp [eJ.renew,aK.renew]),v.trans (by simp [eJ.renew,aK.renew]),r,w⟩
   . rw [TS (by omega),TS (by omega),TS (by omega),TS (by omega)] at t;rw [TS (by omega),TS (by omega),TS (by omega),TS (by omega)] at u;rw [TS (by omega),TS (by omega),TS (by omega),TS (by omega)] at v;rw [TS (by omega),TS (by omega),TS (by omega),TS (by omega)] at w;exact ⟨t.trans (by simp [eJ.renew,e]),u.trans (by simp [eJ.renew,aK.renew,e]),v.trans (by simp [eJ.renew,aK.renew,e]),I,w⟩
 . show World.rowIs _ (if i=d then F1.bb 0 else F.bb i) _ _ (MV (if i=d then λ_=>zb else R.blk i));by_cases e:i=d
   . rw [TT e,TT e];exact (f.blk 0 (show 0<1 by decide)).of_block (m _ λq=>o _ z (q▸h.sg))
   . rw [TS e,TS e];exact (h.blk i a).of_block (m _ (y i a).2.1)
 . show World.rowIs _ (if i=d then F1.bd 0 else F.bd i) _ _ (λj=>Z1 ((if i=d then λ_=>ZT else R.bad i) j));by_cases e:i=d
   . rw [TT e,TT e];exact (f.bad 0 (show 0<1 by decide)).of_block (m _ λq=>o _ A (q▸h.sg))
   . rw [TS e,TS e];exact (h.bad i a).of_block (m _ (y i a).2.2.2)
 . show ((if i=d then F1.bb 0 else F.bb i)=(if j=d then F1.bb 0 else F.bb j)->i=j)/\((if i=d then F1.bd 0 else F.bd i)=(if j=d then F1.bd 0 else F.bd j)->i=j);by_cases c:i=d
   . by_cases b:j=d
     . exact ⟨λ_=>c.trans b.symm,λ_=>c.trans b.symm⟩
     . rw [TT c,TS b,TT c,TS b];exact ⟨λq=>absurd q (s j l).1,λq=>absurd q (s j l).2⟩
   . by_cases b:j=d
     . rw [TS c,TT b,TS c,TT b];exact ⟨λq=>absurd q.symm (s i a).1,λq=>absurd q.symm (s i a).2⟩
     . rw [TS c,TS b,TS c,TS b];exact h.inj i j a l
 . show ((if i=d then λ_=>zb else R.blk i) j).length=64/\∀ x∈(if i=d then λ_=>zb else R.blk i) j,x<256;split
   . exact f.len 0 0
   . exact h.len i j
def iV.renew {R:eJ} {A:aB} (h:iV R A) (d:Nat):iV (R.renew d) (A.renew d):=by
 refine ⟨h.n,h.nb,λi c=>?_,λi b c hl=>?_,λi b c hl=>?_⟩
 . show (if i=d then ZT else R.lost i)=if i=d then ZT else A.lost i;rw [h.lost i c]
 . have a:(if i=d then ZT else A.lost i)=ZT:=hl;show (if (if i=d then λ_=>ZT else R.bad i) b=ZU then ZW else I9 ((if i=d then λ_=>zb else R.blk i) b))=if (if i=d then ZT else A.bad i b)=ZU then ZW else ZV (if (if i=d then ZU else A.bl i b)=ZU then .blank else A.rc i b);by_cases e:i=d
   . simp only [TT e];exact yZ (r:=.blank) trivial
   . simp only [TS e] at a ⊢;exact h.rd i b c a
 . have a:(if i=d then ZT else A.lost i)=ZT:=hl;show (if i=d then ZT else A.bad i b)=ZU->A.tn i b=ZT->(if i=d then λ_=>ZT else R.bad i) b=ZU;by_cases e:i=d
   . simp only [TT e];exact λq=>absurd q (by decide)
   . simp only [TS e] at a ⊢;exact h.tn i b c a
def infoDrive:(ZL.info? 79).map (·.size)=ZV 4:=by kernel_rfl
theorem xL {A:aB} {F:aK} (hR:pI w p A F M) (d:Nat) (z:d<A.n):ZP ZL 18 #[Z6 (ZV ⟨p,0,ZW⟩),Z7 Z9 d] w λe w'=>e=Z3 (ZY #[])/\aa F.S w w'/\∃ B,pI w' p (A.renew d) B M/\∀ k,B.S k->F.S k\/w.heap.size<=k:=by
 obtain ⟨⟨R,h,s⟩,t⟩:=hR;rw [<- s.n] at z;obtain ⟨c0,c1⟩:=h.RQ;have hn:=h.n;have e2:(0:Int)<=(d:Int):=by omega
 have e3:(d:Int)<(R.n:Int):=by omega
 have N:=kC 1 R.nb w.drew (by decide) (by decide) h.nb;have I:=iH (h.keep (Y:=w.drew) λ_ _=>rfl) (by omega);have H:=a6 h s t N I;clear h s t N I;go_enter func18,ntmps18;go_wp2_with fail;refine du 14 [(0,ZU),(1,ZU),(2,ZU),(3,ZU),(4,ZU),(5,ZU),(6,ZT),(7,ZT),(8,ZU),(9,ZU),(10,ZT),(11,ZU),(12,ZT),(13,ZU),(14,ZT)] (λw'=>w'.cell? ⟨p,0,ZW⟩=ZV (Z5 (ZV ⟨F.g,0,ZW⟩) R.n F.cap)) (by kernel_rfl) (by kernel_rfl) c0 ?_;iterate 6 (refine aC rfl rfl ?_;apply YF;refine ⟨λw' y=>?_,?_⟩;(first|(go_simp;done)|(go_simp;exact rfl));simp only [Act.put,TX,TY,TZ])
 refine fF H.o.2.2.2.2 rfl rfl (by go_simp) ?_;rintro e w1 ⟨rfl,rfl⟩;refine ⟨_,rfl,λ_=>c0,?_⟩;simp only [Act.put,TX,TY,TZ];refine fF H.o.2.2.2.1 rfl rfl (by go_simp) ?_;rintro e w1 ⟨rfl,m,b,f,u⟩;have hj:p<w.drew.heap.size:=H.o.1.RN H.o.1.sp;have j:w1.cell? ⟨p,0,ZW⟩=ZV (Z5 (ZV ⟨F.g,0,ZW⟩) R.n F.cap):=(m.cell (p:=⟨p,0,ZW⟩) hj).trans c0;refine ⟨_,rfl,λ_=>j,?_⟩;simp only [Act.put,TX,TY,TZ];obtain ⟨n0,_⟩:=f.RQ;obtain ⟨C,d1,D,r,E⟩:=f.R4 0 (show 0<1 by decide);have O:w1.rangeAt b.g 0 (zJ b R.nb r):=by
  intro k v a;unfold zJ at a;match k,a with
  | 0,a=>simp at a;subst a;exact C
  | 1,a=>simp at a;subst a;exact d1
  | 2,a=>simp at a;subst a;exact D
  | 3,a=>simp at a;subst a;exact E
  | k+4,a=>simp at a
 have l:ah w1 p R F:=H.o.1.keep λk c=>m.block k (H.o.1.RN c);have T:w1.there F.g (d*4) 4:=λk c=>by
  obtain ⟨X,Z,g2,r',g3⟩:=l.R4 d z;refine ⟨?_,l.Se _⟩;match k,c with
  | 0,_=>exact X▸rfl
  | 1,_=>exact Z▸rfl
  | 2,_=>exact g2▸rfl
  | 3,_=>exact g3▸rfl
 have G:(zJ b R.nb r).toArray.size=4:=rfl;have Q:=aa4 (P:=ZL) w1 F.g (d*4) 79 (zJ b R.nb r).toArray (by rw [G];exact T) infoDrive (by unfold zJ;simp [Value.oneCell']);have L:=aaA (P:=ZL) w1 b.g 0 79 (zJ b R.nb r) _ O underlying79 rfl infoDrive;have V:=a5 f l u m;have hb:w1.cell? ⟨w.heap.size,0,ZW⟩=ZV (Z5 (ZV ⟨b.g,0,ZW⟩) 1 b.cap):=n0;obtain ⟨W,J⟩:=nM ((zJ b R.nb r).toArray);rw [J] at Q L G;clear f l u m C d1 D E n0 T O;iterate 2 (refine aC rfl rfl ?_;apply YF;refine ⟨λw' y=>?_,?_⟩;(first|(go_simp;done)|(go_simp;exact rfl));simp only [Act.put,TX,TY,TZ])
 refine eK (w1:=w1) (v:=Z5 (ZV ⟨b.g,0,ZW⟩) 1 b.cap) rfl rfl (by go_simp) (λ_=>j) ?_;simp only [Act.put,TX,TY,TZ];iterate 1 (refine aC rfl rfl ?_;apply YF;refine ⟨λw' y=>?_,?_⟩;(first|(go_simp;done)|(go_simp;exact rfl));simp only [Act.put,TX,TY,TZ])
 refine eK (w1:=w1) (v:=.agg W) rfl rfl (by simp [execOp,Act.eval,L]) (λ_=>j) ?_;simp only [Act.put,TX,TY,TZ];iterate 1 (refine aC rfl rfl ?_;apply YF;refine ⟨λw' y=>?_,?_⟩;(first|(go_simp;done)|(go_simp;exact rfl));simp only [Act.put,TX,TY,TZ])
 refine sM rfl rfl λK hK=>?_;simp [Oper.wp,execOp,Act.eval,Q];refine hK _ _ AR (cB ?_);clear hK;go_end0
 obtain ⟨f,l,u,m⟩:=V.o;obtain ⟨h,s,t,_,_⟩:=H.o;have hh:∀ k,F.S k->k<w.heap.size:=λk c=>h.RN c;have x:∀ k,b.S k->w.heap.size<=k:=u;rw [<- J];refine ⟨rfl,((aa.drew w).trans (aa.RL m _)).trans (aa.setCells _ _ _ _ h.sg),F.renew b R.n d p,⟨⟨_,l.renew (r:=r) f (λk c q=>by have:=hh k q;have:=x k c;omega) z,s.renew d⟩,t⟩,λk c=>?_⟩;rcases c with q|q|⟨i,U,q|q⟩
 . exact .inl (q▸h.sp)
 . exact .inl (q▸h.sg)
 . by_cases e:i=d
   . rw [TT e] at q;exact .inr (q▸x _ (f.sb (show 0<1 by decide)))
   . rw [TS e] at q;exact .inl (q▸h.sb U)
 . by_cases e:i=d
   . rw [TT e] at q;exact .inr (q▸x _ (f.sd (show 0<1 by decide)))
   . rw [TS e] at q;exact .inl (q▸h.sd U)
