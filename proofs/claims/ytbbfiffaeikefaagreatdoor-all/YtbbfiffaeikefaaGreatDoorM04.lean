import Derived.Test.YtbbfiffaeikefaaGreatDoorM03
import Derived.Defers
import Derived.Recover
import Derived.ChangeSame
import Derived.ChangeVars
import Derived.JoinedOf
import Derived.RowKit
import Derived.LaidLaws
import Derived.LaidHandle
import Derived.Stop.Joined
import Derived.Lib.SmallJoins
import Derived.Deep.RegionHeld
import Derived.Sort.QuietIn
import Derived.Sort.QuietTacIn
import Derived.Deep.AppendLies
import Derived.Lib.LaidTab
import Derived.Carry
set_option maxRecDepth 100000
set_option linter.all false
set_option maxHeartbeats 8000000
open Go.IntKind renaming i64 -> Z9, u64 -> Z8
open Go.Value renaming int -> Z7, pointer -> Z6, slice -> Z5, bool -> Z1, tuple -> ZZ
open Go.Obj renaming cells -> Z4
open Go.Ending renaming returned -> Z3
open Go.Operand renaming tmp -> Z0
open Go renaming undef -> ZY, World -> ZT, Value -> ZS, Calls -> ZQ, Ending -> ZP, Oper -> ZO, TypeId -> ZN, Boxed -> ZM, Operand -> ZL
open Option renaming none -> ZX, some -> ZW
open Bool renaming true -> ZV, false -> ZU
open Go.RowKit renaming Below -> ZR
open List renaming range -> YE, prefix_refl -> YI, length -> YJ, prefix_append_right_inj -> YK, take_prefix -> YL, replicate -> YM
open Nat renaming reduceAdd -> YF, reduceSub -> YG
open Array renaming replicate -> YH
open Go.Proofs.Tryz renaming prog -> ZK
open Go.Proofs.Tryz
namespace Go.Proofs.YtbbfiffaeikefaaGreatDoor
def WD:=@List.flatMap_append
def VH:=@Go.Value.slice.injEq
def ab0:=@List.length_singleton
def ab1:=@Go.KeepsOthers.of_grownBy
def abu:=@Go.wpListIn_plain
def abv:=@Go.Proofs.Tryz.underlying131
def Yh:=@Go.KeepsFrom.refl
def Xu:=@Nat.zero_testBit
def WZ:=@Nat.succ_mul
def Vn:=@Go.Src.ofSlice
def Yi:=@List.length_pos_iff
def abw:=@Go.Addr.mk.injEq
def VO:=@List.getElem?_take_of_lt
def abx:=@Array.getElem?_toList
def aby:=@Int.tmod_eq_emod_of_nonneg
def Yj:=@Bool.eq_false_iff
def ace:=@List.sublist_append_right
end Go.Proofs.YtbbfiffaeikefaaGreatDoor
namespace Go.Proofs.YtbbfiffaeikefaaGreatDoor
open Go.RowKit Go.Deep Go.Shelf Gf
variable {a:Act} {ops:Array ZO} {args cs:Array ZS} {off:Bool} {C:Ck} {R:ZP->ZT->Prop} {Q:Exit->Act->ZT->Prop} {F:aQ} {fn:Func} {room:Int} {O:List (Int×Nat×Nat×a8)} {M:List a8} {T:List (Nat×Nat×a8)} {l dl:a8} {rest:List ZO} {xs vs:List ZS} {sb v b c k D L G t f n ar D' L' G' t' f' n' p ps ho m g base B i nb nn b0 q count r N lost:Nat} {K:Nat->Prop} {o:ZO} {P:Program} {e:ZN} {pg ob x v0:ZS} {Vi:ZS->ZT->Prop} {w w' Z W w0 wr X:ZT} {S:ZT->Prop}
theorem tH (p:Addr) (w:ZT):CallsD ZK 104 #[Z6 (ZW p)] .returning w λe u' w'=>e=Z3 (ZZ #[])/\u'=.returning/\w'=w:=by
 refine callsD_of_wpS func104 rfl λa cs f=>?_;have g:∀ w,(binOp .eql 20 .nilIface .nilIface).run ZK w=.ok (Z1 ZV) w:=λw=>by
  have b:∀ d,(Op.equalIn (d+1) 20 .nilIface .nilIface).run ZK w=.ok ZV w:=λd=>by
   simp only [Op.equalIn,Ux,UO underlying20,UM];rfl
  have c:=b 9999;simp only [binOp];simp [Op.equal,Op.maxDepth,c]
 apply wpS_seq;apply wpS_region;generalize hN:Code.wpS ZK _ _=N;simp [wpOpsS,go_sem,recoverD,f,ntmps104,Exit.thenS];rw [<- hN];clear hN;refine wpS_of_wp ?_;simp only [Vj,Vk,Vl,Uo,UU,Ue,Uc,Uf,Vm];go_wp2;cases a;simp_all [bodyPostS,results,results104]
def isErr (v:ZS):Prop:=v=.nilIface\/∃ t u,v=.iface t u
def mX (D L G:Int) (lost:Int) (reading:Bool) (regs:Int) (steps:ZS) (n o:ZS):Array ZS:=#[Z7 Z9 D,Z7 Z9 L,Z7 Z9 G,Z7 Z8 lost,Z1 reading,Z7 Z9 regs,steps,n,o]
structure pL (w:ZT) (sb:Nat) (room:Int):Prop where
 ends:w.heap[sb]?=ZW (Z4 (mX 0 0 0 0 ZU 0 (Z5 ZX 0 0) (Z6 (ZW ⟨sb,0,ZX⟩)) (Z6 (ZW ⟨sb,0,ZX⟩))) 263 (0,0))
 map:∃ n,w.heap[sb+1]?=ZW (.map #[] n)
 list:w.heap[sb+1+1]?=ZW (Z4 #[Z7 Z9 room,.map (ZW (sb+1)),Z6 (ZW ⟨sb,0,ZX⟩)] 266 (0,0))
 RZ:w.heap[sb+1+1+1]?=ZW (Z4 #[Z6 (ZW ⟨sb+1+1,0,ZX⟩)] 230 (0,0))
def pL.lt (h:pL w sb room):sb+1+1+1<w.heap.size:=(TX.1 h.RZ).1
def pL.keep (h:pL w sb room) (a:∀ k,sb<=k->k<=sb+1+1+1->w'.heap[k]?=w.heap[k]?):pL w' sb room:=
 ⟨(a _ (by omega) (by omega)).trans h.ends,h.map.imp λ_ q=>(a _ (by omega) (by omega)).trans q,(a _ (by omega) (by omega)).trans h.list,(a _ (by omega) (by omega)).trans h.RZ⟩
def pL.below (h:pL w sb room) (a:bW w w'):pL w' sb room:=h.keep λk _ b=>a.block k (by have:=h.lt;omega)
def mY (w:ZT) (a b c:Obj):(((w.alloc a).alloc b).alloc c).heap[w.heap.size]?=ZW a/\(((w.alloc a).alloc b).alloc c).heap[w.heap.size+1]?=ZW b/\(((w.alloc a).alloc b).alloc c).heap[w.heap.size+1+1]?=ZW c:=by
 refine ⟨(UC _ _ _ (by simp;omega)).trans ((UC _ _ _ (by simp)).trans (Ug _ _)),(UC _ _ _ (by simp)).trans ?_,?_⟩
 . have:=Ug (w.alloc a) b;rwa [Uq] at this
 . have:=Ug ((w.alloc a).alloc b) c;rwa [Uq,Uq] at this
structure aa1 (w:ZT) (sb:Nat) (room:Int):Prop where
 ends:w.heap[sb]?=ZW (Z4 (mX 0 0 0 0 ZU 0 (Z5 ZX 0 0) (Z6 (ZW ⟨sb,0,ZX⟩)) (Z6 (ZW ⟨sb,0,ZX⟩))) 263 (0,0))
 map:∃ n,w.heap[sb+1]?=ZW (.map #[] n)
 list:w.heap[sb+1+1]?=ZW (Z4 #[Z7 Z9 room,.map (ZW (sb+1)),Z6 (ZW ⟨sb,0,ZX⟩)] 266 (0,0))
theorem we (n:Int) (w:ZT):ZQ ZK 131 #[Z7 Z9 n] w λe w'=>e=Z3 (Z6 (ZW ⟨w.heap.size+1+1,0,ZX⟩))/\aa1 w' w.heap.size n/\w'.heap.size=w.heap.size+1+1+1/\bW w w':=by
 have i:∀ w,(Instr.makeMap 264 ZX).run ZK w=.ok (.map (ZW w.heap.size)) (w.alloc (.map #[] 0)):=λ_=>rfl;have a:∀ b c d:Obj,bW w (((w.alloc b).alloc c).alloc d):=λb c d=>((bA w _).alloc (by simp) _).alloc (by simp;omega) _;have H:=ak a;clear a;go_enter func131,ntmps131;go_wp2;go_ret;obtain ⟨f,g,h⟩:=mY w (Z4 (mX 0 0 0 0 ZU 0 (Z5 ZX 0 0) (Z6 (ZW ⟨w.heap.size,0,ZX⟩)) (Z6 (ZW ⟨w.heap.size,0,ZX⟩))) 263) (.map #[] 0) (Z4 #[Z7 Z9 n,.map (ZW (w.heap.size+1)),Z6 (ZW ⟨w.heap.size,0,ZX⟩)] 266);exact ⟨rfl,⟨f,⟨0,g⟩,h⟩,by simp,H.o _ _ _⟩
theorem zI (n:Int) (w:ZT):ZQ ZK 90 #[Z7 Z9 n] w λe w'=>∃ b,e=Z3 (Z6 (ZW ⟨b+1+1+1,0,ZX⟩))/\w.heap.size<=b/\pL w' b n/\bW w w':=by
 go_enter func90,ntmps90;go_wp2_with fail;refine (we n w).mono ?_;rintro e w1 ⟨rfl,a,d,c⟩;have H:=aE c a d;have g:=c.size;clear c a d;go_wp2;go_ret;obtain ⟨c,a,d⟩:=H.o;have f:bW w1 (w1.alloc (Z4 #[Z6 (ZW ⟨w.heap.size+1+1,0,ZX⟩)] 230)):=bA w1 _;refine ⟨w.heap.size,by rw [d];rfl,TV _,⟨(f.block _ (by omega)).trans a.ends,a.map.imp λ_ q=>(f.block _ (by omega)).trans q,(f.block _ (by omega)).trans a.list,?_⟩,c.trans (f.mono g)⟩;have:=Ug w1 (Z4 #[Z6 (ZW ⟨w.heap.size+1+1,0,ZX⟩)] 230);rwa [d] at this
theorem Er (p D L G:Nat) (n:Int) (w:ZT):ZQ ZK 67 #[Z6 (ZW ⟨p,0,ZX⟩),.agg #[Z7 Z9 D,Z7 Z9 L,Z7 Z9 G],Z7 Z9 n] w λe w'=>∃ v b,e=Z3 (Z6 (ZW ⟨v,0,ZX⟩))/\w.heap.size<=v/\bt w' v p D L G (b+1+1+1) 0/\(w.heap.size<=b/\b+1+1+1<v/\pL w' b n)/\bW w w':=by
 obtain ⟨w1,l⟩:=nM (w.alloc (Z4 #[Z7 Z9 (D:Int),Z7 Z9 (L:Int),Z7 Z9 (G:Int)] 27));have d:w1.heap[w.heap.size]?=ZW (Z4 #[Z7 Z9 (D:Int),Z7 Z9 (L:Int),Z7 Z9 (G:Int)] 27 (0,0)):=by rw [<- l];exact Ug w (Z4 #[Z7 Z9 (D:Int),Z7 Z9 (L:Int),Z7 Z9 (G:Int)] 27)
 have k:bW w w1:=by rw [<- l];exact bA w _
 have c0:w1.cell? ⟨w.heap.size,0,ZX⟩=ZW (Z7 Z9 (D:Int)):=by simp [World.cell?,d]
 have c1:w1.cell? ⟨w.heap.size,1,ZX⟩=ZW (Z7 Z9 (L:Int)):=by simp [World.cell?,d]
 have q:w1.cell? ⟨w.heap.size,2,ZX⟩=ZW (Z7 Z9 (G:Int)):=by simp [World.cell?,d]
 have H:=al d k;clear d k;go_enter func67,ntmps67;go_wp2_with fail;go_region_with (go_at_call 90;refine (zI n _).mono ?_;rintro e w2 ⟨b,rfl,g,c,a⟩;have f:=(a.block _ (TX.1 H.o.1).1).trans H.o.1;have r:w2.cell? ⟨w.heap.size,0,ZX⟩=ZW (Z7 Z9 (D:Int)):=(by simp [World.cell?,f]);have d1:w2.cell? ⟨w.heap.size,1,ZX⟩=ZW (Z7 Z9 (L:Int)):=(by simp [World.cell?,f]);have s:w2.cell? ⟨w.heap.size,2,ZX⟩=ZW (Z7 Z9 (G:Int)):=(by simp [World.cell?,f]);have m:=aE g c a;clear g c a f);all_goals (
  go_wp2;go_ret;obtain ⟨g,c,a⟩:=m.o;have h:=H.o.2.size;have t:w1.heap.size<=w2.heap.size:=a.size;have j:=(TW _ w2).alloc lR (Z4 #[Z6 (ZW ⟨p,0,ZX⟩),Z7 Z9 D,Z7 Z9 L,Z7 Z9 G,Z6 (ZW ⟨b+1+1+1,0,ZX⟩),Z7 Z8 0] 144);have i:bW w w2:=H.o.2.drew.trans (a.mono h);exact ⟨_,b,rfl,by omega,Ug _ _,⟨TU h g,c.lt,c.below j⟩,i.trans (j.mono i.size)⟩)
def lH (v D L G t f n:Nat) (pg ob:ZS) (off:Bool):Array ZS:=#[Z6 (ZW ⟨v,0,ZX⟩),Z7 Z9 D,Z7 Z9 L,Z7 Z9 G,Z7 Z8 t,Z7 Z9 f,Z7 Z9 n,pg,ob,Z1 off]
def bf (w:ZT) (a v D L G t f n:Nat) (pg ob:ZS) (off:Bool):Prop:=w.heap[a]?=ZW (Z4 (lH v D L G t f n pg ob off) 135 (0,0))
def mZ (v:ZS):Prop:=v=.nilIface\/∃ n:Int,n≠13/\v=.iface 66 (Z7 Z9 n)
def mZ.isErr {v:ZS} (h:mZ v):isErr v:=by
 rcases h with h|⟨n,_,h⟩
 . exact .inl h
 . exact .inr ⟨_,_,h⟩
section
attribute [local go_sem] Oper.semAt_some
def Nm (w:ZT) (b:Nat):Prop:=∃ cs T z,w.heap[b]?=ZW (Z4 cs T z)/\T≠61
def Nm.lt (h:Nm w b):b<w.heap.size:=by
 obtain ⟨cs,T,z,h,_⟩:=h;exact (TX.1 h).1
def Nm.keep (h:Nm w b) (c:w'.heap[b]?=w.heap[b]?):Nm w' b:=by
 obtain ⟨cs,T,z,h,a⟩:=h;exact ⟨cs,T,z,c.trans h,a⟩
def bg (K:Nat->Prop) (w:ZT) (v:ZS) (l:a8):Prop:=
 ∃ ao c,v=.slice ao l.length c/\l.length<=1000000/\(l≠[]->∃ b off,ao=ZW ⟨b,off,ZX⟩/\K b/\Nm w b/\∀ i (hi:i<l.length),w.cell? ⟨b,off+i,ZX⟩=ZW (Z7 Z9 ((l[i]:Nat):Int)))
structure Ob where
 name:ByteArray
 size:Nat
 RL:a8
def eN (K:Nat->Prop) (w:ZT) (v:ZS) (os:List Ob):Prop:=
 ∃ ao c,v=.slice ao os.length c/\os.length<=1000000/\(os≠[]->∃ b off,ao=ZW ⟨b,off,ZX⟩/\K b/\Nm w b/\∀ i (hi:i<os.length),∃ sv,
  w.cell? ⟨b,off+i*3,ZX⟩=ZW (.string os[i].name)/\w.cell? ⟨b,off+i*3+1,ZX⟩=ZW (Z7 Z9 (os[i].size:Nat))/\w.cell? ⟨b,off+i*3+2,ZX⟩=ZW sv/\bg K w sv os[i].RL)
def eu (K:Nat->Prop) (w w':ZT):Prop:=w.heap.size<=w'.heap.size/\∀ k,k<w.heap.size->K k->w'.heap[k]?=w.heap[k]?
def eu.refl (K:Nat->Prop) (w:ZT):eu K w w:=⟨TV _,λ_ _ _=>rfl⟩
def eu.trans {a b c:ZT} (h:eu K a b) (k:eu K b c):eu K a c:=⟨TU h.1 k.1,λi d e=>(k.2 i (TZ d h.1) e).trans (h.2 i d e)⟩
def eu.RM (h:bW w w'):eu K w w':=⟨h.size,λk a _=>h.block k a⟩
def bg.Sw {v:ZS} (h:bg K w v l) (e:∀ k,Nm w k->K k->w'.heap[k]?=w.heap[k]?):bg K w' v l:=by
 obtain ⟨ao,c,f,g,j⟩:=h;refine ⟨ao,c,f,g,λhl=>?_⟩;obtain ⟨b,off,n,a,d,o⟩:=j hl;exact ⟨b,off,n,a,d.keep (e b d a),λi m=>(Uk (e b d a)).trans (o i m)⟩
def eN.Sw {v:ZS} {os:List Ob} (h:eN K w v os) (d:∀ k,Nm w k->K k->w'.heap[k]?=w.heap[k]?):eN K w' v os:=by
 obtain ⟨ao,c,g,j,l⟩:=h;refine ⟨ao,c,g,j,λhl=>?_⟩;obtain ⟨b,off,n,e,f,o⟩:=l hl;refine ⟨b,off,n,e,f.keep (d b f e),λi m=>?_⟩;obtain ⟨t,p,q,r,s⟩:=o i m;have a:=d b f e;exact ⟨t,(Uk a).trans p,(Uk a).trans q,(Uk a).trans r,s.Sw d⟩
def bg.keep {v:ZS} (h:bg K w v l) (a:eu K w w'):bg K w' v l:=h.Sw λk q=>a.2 k q.lt
def eN.keep {v:ZS} {os:List Ob} (h:eN K w v os) (a:eu K w w'):eN K w' v os:=h.Sw λk q=>a.2 k q.lt
def bg.nil (K:Nat->Prop) (w:ZT):bg K w (Z5 ZX 0 0) []:=⟨ZX,0,rfl,by decide,λh=>absurd rfl h⟩
def eN.nil (K:Nat->Prop) (w:ZT):eN K w (Z5 ZX 0 0) []:=⟨ZX,0,rfl,by decide,λh=>absurd rfl h⟩
def af (os:List Ob):a8:=os.flatMap (·.RL)
def Es (os:List Ob) (k:Nat) (a:k<os.length):af (os.take (k+1))=af (os.take k)++os[k].RL:=by
 have e:os.take (k+1)=os.take k++[os[k]]:=by rw [Vh,Ua a];rfl
 rw [e];unfold af;rw [WD];simp
def nu (x:Nat):Array ZS:=#[Z7 Z9 (x:Int)]
def BN {os:List Ob} (m:Nat) (b:k<os.length):af (os.take k)++(os[k].RL).take m<+:af os:=by
 have a:af os=af (os.take k)++(os[k].RL++af (os.drop (k+1))):=by
  have e:af (os.take k++os[k]::os.drop (k+1))=af (os.take k)++(os[k].RL++af (os.drop (k+1))):=by unfold af;rw [WD,VN]
  rwa [<- X7 b,Wo] at e
 rw [a];refine (YK _).2 ?_;exact (YL m _).trans (XW _ _)
theorem lI (K:Nat->Prop) (n l b1:Nat) (v:ZS) (os:List Ob) (J X:a8->ZT->Prop) (k6:∀ pre A B,J pre A->bW A B->J pre B)
 (I:a8) (hY:∀ pre x W,J pre W->pre++[x]<+:I->YieldAt Fence.wide (n-1) ZK l (nu x) W λe g=>(e=Z3 (Z1 ZV)/\J (pre++[x]) g/\eu K W g)\/(e=Z3 (Z1 ZU)/\X (pre++[x]) g))
 (a:a8) (k7:a++af os<+:I) (W:ZT) (M:W.cell? ⟨b1,0,ZX⟩=ZW v) (O:eN K W v os) (Y:J a W) :
 CallsIn Fence.wide n ZK 148 #[.func (.yield l) #[] #[],Z6 (ZW ⟨b1,0,ZX⟩)] W λe g=>(∃ v,e=Z3 v) /\
  ((J (a++af os) g)\/(∃ pre,pre<+:af os/\X (a++pre) g)):=by
 obtain ⟨ao,c,rfl,ka,u⟩:=id O;refine Xs func148 rfl trivial ?_ rfl;simp only [ntmps148,UH,UD,UW,YF,YG,Vj,Vk,Vl,Vm,Uo,UU];have V:=al O Y;clear O Y u;gi_wp2;gi_loopw [9] (λp wr=>∃ k:Nat,p=Z7 Z9 (k:Nat)/\k<=os.length/\J (a++af (os.take k)) wr/\eN K wr (.slice ao os.length c) os)
  (λp _=>os.length-(intOf p).toNat)
 case atStart=>
  exact ⟨0,rfl,T5 _,by simpa [af] using V.o.2,V.o.1⟩
 case round=>
  obtain ⟨k,rfl,hk,s,C⟩:=hrel;by_cases i:k<os.length
  . obtain ⟨hd,c',q,_,u⟩:=id C;obtain ⟨b,off,L,kg,kh,hx⟩:=u (λe=>by rw [e] at i;simp at i);simp only [VH] at q;obtain ⟨rfl,_,rfl⟩:=q;subst L;obtain ⟨sv,r1,r2,r3,G⟩:=hx k i;obtain ⟨so,sc,rfl,kc,t⟩:=id G;obtain ⟨st,S⟩:=nM (os[k].RL);obtain ⟨NN,hN⟩:=nM (os.length);obtain ⟨nm,hz⟩:=nM (os[k].name);obtain ⟨sz,k5⟩:=nM (((os[k].size:Nat):Int));rw [S] at r3 G kc t;rw [hz] at r1;rw [k5] at r2;have H:=a6 s C G S hN;clear s C u hx G t S hN hz k5;gi_wp2;obtain ⟨wx,T⟩:=nM (wr.alloc (Z4 #[.string nm,Z7 Z9 sz,.slice so st.length sc] 137));have E:bW wr wx:=(by rw [<- T];exact bA wr _);rw [T];clear T;have hv:=k6 _ _ _ H.o.1 E;have hr:=H.o.2.1.keep (eu.RM E);have hs:=H.o.2.2.1.keep (eu.RM E);gi_loopw [16] (λp U=>∃ m:Nat,p=Z7 Z9 (m:Nat)/\m<=st.length/\J (a++(af (os.take k)++st.take m)) U/\eN K U (Z5 (ZW ⟨b,off,ZX⟩) os.length c) os/\bg K U (.slice so st.length sc) st)
     (λp _=>st.length-(intOf p).toNat)
    case atStart=>
     exact ⟨0,rfl,T5 _,by simpa using hv,hr,hs⟩
    case round=>
     clear hv hr hs E;obtain ⟨m,rfl,hm,f,z,D⟩:=hrel;by_cases r:m<st.length
     . obtain ⟨kj,ki,q,_,t⟩:=id D;obtain ⟨b2,hb,L,kf,k8,Z⟩:=t (λe=>by rw [e] at r;simp at r);simp only [VH] at q;obtain ⟨rfl,_,rfl⟩:=q;subst L;have g1:=Z m r;obtain ⟨y,F⟩:=nM (st[m]);rw [F] at g1;have k0:(a++(af (os.take k)++st.take m))++[y]<+:I:=by
        have M:=BN (os:=os) (m+1) i;rw [H.o.2.2.2.1,Vh,Ua r,F] at M;have h2:=((YK a).2 M).trans k7;simpa using h2
       obtain ⟨fn,tmps,assign,body,ke,hR⟩:=hY _ y _ f k0;clear k0;unfold nu at ke;have d:=a6 f z D hR F;clear f z D hR t Z F;gi_wp2;refine ⟨λh=>(by cases h),d.o.2.2.2.1.mono ?_⟩;have w:a++(af (os.take k)++st.take m)++[y]=a++(af (os.take k)++st.take (m+1)):=by
        have e:st.take (m+1)=st.take m++[y]:=(by rw [Vh,Ua r,d.o.2.2.2.2];rfl);rw [e];simp
       rintro e W3 (⟨rfl,Q,R⟩|⟨rfl,N⟩)
       . rw [w] at Q;have j:=aE Q (d.o.2.1.keep R) (d.o.2.2.1.keep R);clear Q R w;gi_wp2;go_roundw
         case rel=>exact ⟨m+1,by go_num,by omega,j.o.1,j.o.2.1,j.o.2.2⟩
         case measure=>simp only [intOf];omega
       . rw [w] at N;have j:=ak N;clear N w;gi_wp2;refine Ur (XK rfl _ _ _) rfl ?_;have hp:=BN (os:=os) (m+1) i;rw [H.o.2.2.2.1] at hp;exact ⟨⟨_,rfl⟩,.inr ⟨_,hp,j.o⟩⟩
     . have kb:m=st.length:=(by omega);subst kb;rw [VE] at f;have P:=Es os k i;rw [H.o.2.2.2.1] at P;rw [<- P] at f;have d:=al f z;clear f z D P;gi_wp2;go_roundw
       case rel=>exact ⟨k+1,by go_num,by omega,d.o.1,d.o.2⟩
       case measure=>simp only [intOf];omega
  . have k9:k=os.length:=(by omega);subst k9;rw [VE] at s;have HJ:=ak s;clear s C;gi_wp2;go_end0
    exact ⟨⟨_,rfl⟩,.inl HJ.o⟩
def K3 {α:Type} {pre l:List α} {x:α} (h:pre++[x]<+:l):pre.length<l.length:=by
 have:=h.length_le;rw [T8,ab0] at this;omega
def tI (K:Nat->Prop) (n l b1:Nat) (v:ZS) (os:List Ob) (J c:a8->ZT->Prop) (g:∀ pre A B,J pre A->bW A B->J pre B)
 (N:Nat) (j:∀ pre x W,J pre W->pre.length<N->YieldAt Fence.wide (n-1) ZK l (nu x) W λe b=>(e=Z3 (Z1 ZV)/\J (pre++[x]) b/\eu K W b)\/(e=Z3 (Z1 ZU)/\c (pre++[x]) b))
 (a:a8) (m:a.length+(af os).length<=N) (W:ZT) (f:W.cell? ⟨b1,0,ZX⟩=ZW v) (i:eN K W v os) (d:J a W) :
 CallsIn Fence.wide n ZK 148 #[.func (.yield l) #[] #[],Z6 (ZW ⟨b1,0,ZX⟩)] W λe b=>(∃ v,e=Z3 v) /\
  ((J (a++af os) b)\/(∃ pre,pre<+:af os/\c (a++pre) b)):=
 lI K n l b1 v os J c g (a++af os) (λpre x W h k=>j pre x W h (by have:=K3 k;rw [T8] at this;omega)) a (YI _) W f i d
end
def bf.cells {a:Nat} (h:bf w a v D L G t f n pg ob off):w.cell? ⟨a,0,ZX⟩=ZW (Z6 (ZW ⟨v,0,ZX⟩))/\w.cell? ⟨a,4,ZX⟩=ZW (Z7 Z8 t)/\w.cell? ⟨a,6,ZX⟩=ZW (Z7 Z9 n)/\w.cell? ⟨a,7,ZX⟩=ZW pg/\w.cell? ⟨a,8,ZX⟩=ZW ob:=by
 have b:w.heap[a]?=ZW (Z4 (lH v D L G t f n pg ob off) 135 (0,0)):=h;simp [World.cell?,b,lH]
def bf.keep (h:bf w ar v D' L' G' t' f' n' pg ob off) (e:w'.heap[ar]?=w.heap[ar]?):bf w' ar v D' L' G' t' f' n' pg ob off:=X2 e h
def bf.lt (h:bf w ar v D' L' G' t' f' n' pg ob off):ar<w.heap.size:=(TX.1 h).1
theorem kF (h:bt w v p D L G ps ho):ZQ ZK 93 #[Z6 (ZW ⟨v,0,ZX⟩)] w λe w'=>e=Z3 (.agg #[Z7 Z9 D,Z7 Z9 L,Z7 Z9 G])/\bW w w'/\w'.heap.size=w.heap.size+1/\w'.heap[w.heap.size]?=ZW (Z4 #[Z7 Z9 D,Z7 Z9 L,Z7 Z9 G] 27 (0,0)):=by
 have q:=h.lt;have f:bt (w.alloc (Z4 #[Z7 Z9 0,Z7 Z9 0,Z7 Z9 0] 27)) v p D L G ps ho:=h.keep (UC _ _ _ q);obtain ⟨c0,c1,l,m,n⟩:=f.cells;have c:bW w (w.alloc (Z4 #[Z7 Z9 0,Z7 Z9 0,Z7 Z9 0] 27)):=bA w _;have a:=Ug w (Z4 #[Z7 Z9 0,Z7 Z9 0,Z7 Z9 0] 27);obtain ⟨w1,d⟩:=nM (w.alloc (Z4 #[Z7 Z9 0,Z7 Z9 0,Z7 Z9 0] 27));rw [d] at c0 c1 l m n c a;have u:w1.cell? ⟨w.heap.size,0,ZX⟩=ZW (Z7 Z9 0):=by simp [World.cell?,a]
 have x:w1.cell? ⟨w.heap.size,1,ZX⟩=ZW (Z7 Z9 0):=by simp [World.cell?,a]
 have y:w1.cell? ⟨w.heap.size,2,ZX⟩=ZW (Z7 Z9 0):=by simp [World.cell?,a]
 have b:∀ k,w1.frozen? ⟨w.heap.size,k,ZX⟩=ZU:=λk=>by simp [World.frozen?,a]
 have r:=b 0;have s:=b 1;have t:=b 2;have g:w1.heap.size=w.heap.size+1:=by rw [<- d];simp
 have H:=aE c a g;clear f c a b h g;go_enter func93,ntmps93;go_wp2;have i:=ag (j:=2) (ag (j:=1) (ag (j:=0) H.o.2.1 (Z7 Z9 (D:Int))) (Z7 Z9 (L:Int))) (Z7 Z9 (G:Int));refine Ur (v:=.agg #[Z7 Z9 D,Z7 Z9 L,Z7 Z9 G]) (V4 results93 _ _ w.heap.size 27 #[Z7 Z9 (D:Int),Z7 Z9 (L:Int),Z7 Z9 (G:Int)] (0,0) _ rfl i underlying27 rfl (by kernel_rfl)) rfl ?_;exact ⟨rfl,((H.o.1.setCell (p:=⟨w.heap.size,0,ZX⟩) lR _).setCell (p:=⟨w.heap.size,1,ZX⟩) lR _).setCell (p:=⟨w.heap.size,2,ZX⟩) lR _,by simp [World.setCell,H.o.2.2],i⟩
def wg (h:bt w v p D L G ps ho):ZQ ZK 93 #[Z6 (ZW ⟨v,0,ZX⟩)] w λe w'=>e=Z3 (.agg #[Z7 Z9 D,Z7 Z9 L,Z7 Z9 G])/\bW w w':=(kF h).mono λ_ _ q=>⟨q.1,q.2.1⟩
theorem dF (h:bt w v p D L G ps ho) (f:D<=1000):ZQ ZK 77 #[Z6 (ZW ⟨v,0,ZX⟩)] w λe w'=>e=Z3 (Z7 Z9 ((D*44:Nat):Int))/\w'=w:=by
 obtain ⟨c0,c1,b,c,d⟩:=h.cells;have a:((D*44:Nat):Int)=(D:Int)*44:=by omega
 rw [a];go_enter func77,ntmps77;go_wp2;go_ret;exact ⟨rfl,rfl⟩
theorem kG {a:Nat} (d:bf w a v D' L' G' t f n pg ob off) (h:bt w v p D L G ps ho) (i:1<=D) (c:D<=1000):ZQ ZK 117 #[Z6 (ZW ⟨a,0,ZX⟩)] w λe w'=>e=Z3 (Z7 Z9 ((D*44-4:Nat):Int))/\w'=w:=by
 obtain ⟨c0,_⟩:=d.cells;have b:((D*44-4:Nat):Int)=((D*44:Nat):Int)-4:=by omega
 rw [b];have g:=dF h c;have b1:D*44<=44000:=by omega
 generalize D*44=q at *;go_enter func117,ntmps117;go_wp2_with fail;refine g.mono ?_;rintro e w' ⟨rfl,rfl⟩;go_wp2;go_ret;exact ⟨rfl,rfl⟩
theorem length_nil (w:ZT):ZQ ZK 84 #[Z5 ZX 0 0] w λe w'=>e=Z3 (Z7 Z9 0)/\w'=w:=by
 go_enter func84,ntmps84;go_wp2;refine VC 1 ?_;rw [U5];go_wp2;go_ret;exact ⟨rfl,rfl⟩
section
attribute [local go_sem] Oper.semAt_some
def If {m':Nat} {l:Nat} (h:YieldAt Fence.wide m P l args w R):YieldAt Fence.wide m' P l args w R:=by
 obtain ⟨fn,tmps,assign,body,a,b⟩:=h;exact ⟨fn,tmps,assign,body,a,wV b⟩
theorem lJ (ao:Option Addr) (m c:Nat) (w:ZT) :
 ZQ ZK 123 #[.slice ao m c] w λe w'=>e=Z3 (.func (.func 148) #[] #[Z6 (ZW ⟨w.heap.size,0,ZX⟩)])/\w'=w.alloc (Z4 #[.slice ao m c] 133):=by
 go_enter func123,ntmps123;go_wp2;go_ret;exact ⟨rfl,rfl⟩
theorem lK (ar:Nat) (w:ZT) :
 ZQ ZK 86 #[Z6 (ZW ⟨ar,0,ZX⟩)] w λe w'=>e=Z3 (.func (.func 122) #[] #[Z6 (ZW ⟨w.heap.size,0,ZX⟩)])/\w'=w.alloc (Z4 #[Z6 (ZW ⟨ar,0,ZX⟩)] 106):=by
 go_enter func86,ntmps86;go_wp2;go_ret;exact ⟨rfl,rfl⟩
theorem lL (K:Nat->Prop) (n l b1 ar:Nat) (v D L G t f nn:Nat) (pg ob:ZS) (off:Bool) (P:a8) (os:List Ob) (hv:K b1) (hs:K ar) (J N:a8->ZT->Prop) (hn:∀ pre A B,J pre A->bW A B->J pre B)
 (hY:∀ pre x W,J pre W->pre++[x]<+:P++af os->YieldAt Fence.wide (n-1) ZK l (nu x) W λe j=>(e=Z3 (Z1 ZV)/\J (pre++[x]) j/\eu K W j)\/(e=Z3 (Z1 ZU)/\N (pre++[x]) j))
 (W:ZT) (a:ZM W b1 106 (Z6 (ZW ⟨ar,0,ZX⟩))) (g:bf W ar v D L G t f nn pg ob off) (w:bg K W pg P) (u:eN K W ob os) (z:J [] W) :
 CallsIn Fence.wide n ZK 122 #[.func (.yield l) #[] #[],Z6 (ZW ⟨b1,0,ZX⟩)] W λe j=>(∃ v,e=Z3 v) /\
  ((∃ ys,ys=P++af os/\J ys j)\/(∃ pre,pre<+:P++af os/\N pre j)):=by
 obtain ⟨ao,c,rfl,k0,C⟩:=id w;obtain ⟨c0,_,_,c7,V⟩:=g.cells;have X:=a.cell;refine Xs func122 rfl trivial ?_ rfl;simp only [ntmps122,UH,UD,UW,YF,YG,Vj,Vk,Vl,Vm,Uo,UU];have I:=a6 a g w u z;clear a g w u z C;gi_wp2;gi_loopw [10] (λp wr=>∃ k:Nat,p=Z7 Z9 (k:Nat)/\k<=P.length/\J (P.take k) wr/\eu K W wr)
  (λp _=>P.length-(intOf p).toNat)
 case atStart=>
  exact ⟨0,rfl,T5 _,I.o.2.2.2.2,eu.refl _ _⟩
 case round=>
  clear c0 c7 V X;obtain ⟨k,rfl,hk,m,d⟩:=hrel;by_cases s:k<P.length
  . obtain ⟨hb,c',Y,_,C⟩:=I.o.2.2.1.keep d;obtain ⟨b,bo,e2,hx,k6,hr⟩:=C (λe=>by rw [e] at s;simp at s);simp only [VH] at Y;obtain ⟨rfl,_,rfl⟩:=Y;subst e2;have g1:=hr k s;obtain ⟨y,H⟩:=nM (P[k]);rw [H] at g1;obtain ⟨fn,tmps,assign,body,k5,hR⟩:=hY _ y _ m (by
     have a:=(YL (k+1) P).trans (XW P (af os));rwa [Vh,Ua s,H] at a)
    unfold nu at k5;have M:=a5 m d hR H;clear m d hR C hr H;gi_wp2;refine ⟨λh=>(by cases h),M.o.2.2.1.mono ?_⟩;have E:P.take k++[y]=P.take (k+1):=(by rw [Vh,Ua s,M.o.2.2.2];rfl);rintro e W3 (⟨rfl,S,hq⟩|⟨rfl,Q⟩)
    . rw [E] at S;have i:=al S (M.o.2.1.trans hq);clear S hq E;gi_wp2;go_roundw
      case rel=>exact ⟨k+1,by go_num,by omega,i.o.1,i.o.2⟩
      case measure=>simp only [intOf];omega
    . rw [E] at Q;have i:=ak Q;clear Q E;gi_wp2;refine Ur (XK rfl _ _ _) rfl ?_;exact ⟨⟨_,rfl⟩,.inr ⟨_,(YL (k+1) P).trans (XW _ _),i.o⟩⟩
  . have hz:k=P.length:=(by omega);subst hz;rw [VE] at m;obtain ⟨a,g,w,u,z⟩:=I.o;have hg:ZM wr b1 106 (Z6 (ZW ⟨ar,0,ZX⟩)):=(d.2 _ a.lt hv).trans a;have hh:=g.keep (d.2 _ g.lt hs);have R:=u.keep d;obtain ⟨_,_,_,_,V⟩:=hh.cells;have X:=hg.cell;obtain ⟨r,q,rfl,hol,_⟩:=id R;have U:=aE m d R;clear m d a g w u z hg hh R;gi_wp2;refine cj (lJ r os.length q wr) ?_;rintro e w2 ⟨rfl,rfl⟩;have F:bW wr (wr.alloc (Z4 #[.slice r os.length q] 133)):=bA wr _;have O:(wr.alloc (Z4 #[.slice r os.length q] 133)).cell? ⟨wr.heap.size,0,ZX⟩=ZW (.slice r os.length q):=(Ut wr _ _).cell;obtain ⟨w2,T⟩:=nM (wr.alloc (Z4 #[.slice r os.length q] 133));rw [T] at F O;have hm:=hn _ _ _ U.o.1 F;have hi:=U.o.2.2.keep (eu.RM F);have Z:=lI K (n-1) l wr.heap.size (.slice r os.length q) os J N hn (P++af os) (λpre x W1 hj hp=>If (hY pre x W1 hj hp)) P (YI _) w2 O hi hm;have H2:=ak Z;clear F O hm hi Z;rw [T];clear T;gi_wp2;refine ⟨trivial,λh=>(by cases h),H2.o.mono ?_⟩;rintro e W3 ⟨⟨x,rfl⟩,h9⟩;have i:=ak h9;clear h9;gi_wp2;go_end0
    refine ⟨⟨_,rfl⟩,?_⟩;rcases i.o with h|⟨pre,a,h2⟩
    . exact .inl ⟨_,rfl,h⟩
    . exact .inr ⟨_,(YK _).2 a,h2⟩
def pM (K:Nat->Prop) (n b1 ar v D L G t f nn:Nat) (pg ob:ZS) (off:Bool) (P:a8) (os:List Ob) (m:K b1) (j:K ar) (w:ZT) (c:ZM w b1 106 (Z6 (ZW ⟨ar,0,ZX⟩))) (d:bf w ar v D L G t f nn pg ob off) (q:bg K w pg P) (o:eN K w ob os) :
 SeqStopsK Fence.wide n ZK 122 #[Z6 (ZW ⟨b1,0,ZX⟩)] nu (eu K) (λz=>z=P++af os) (λpre=>pre<+:P++af os) (P++af os).length w:=λl J g W b p _ s i=>
 lL K n l b1 ar v D L G t f nn pg ob off P os m j J g (λpre A B h a=>p pre A B ZX h ⟨a.os,a.tape,a.output,a.size,λk u _=>a.block k u⟩ (λr e=>by cases e)) (λpre x W h y=>s pre x W h (K3 y)) W
  ((b.block _ c.lt).trans c) (d.keep (b.block _ d.lt)) (q.keep (eu.RM b)) (o.keep (eu.RM b)) i
def Sn (l:a8):Type:={ x:Nat // x∈l }
def Pp {l:a8} (x:Sn l):Array ZS:=nu x.1
def pN (K:Nat->Prop) (n b1 ar v D L G t f nn:Nat) (pg ob:ZS) (off:Bool) (P:a8) (os:List Ob) (y:K b1) (u:K ar) (w:ZT) (b:ZM w b1 106 (Z6 (ZW ⟨ar,0,ZX⟩))) (p:bf w ar v D L G t f nn pg ob off) (E:bg K w pg P) (z:eN K w ob os) :
 SeqStopsK Fence.wide n ZK 122 #[Z6 (ZW ⟨b1,0,ZX⟩)] (Pp (l:=P++af os)) (eu K) (λa=>a.map (·.1)=P++af os) (λpre=>pre.map (·.1)<+:P++af os) (P++af os).length w:=λl J q W i C _ F s=>by
 refine (lL K n l b1 ar v D L G t f nn pg ob off P os y u (λpre X=>∃ a:List (Sn (P++af os)),a.map (·.1)=pre/\J a X) (λpre X=>∃ a:List (Sn (P++af os)),a.map (·.1)=pre/\q a X)
  (λpre A B ⟨a,e,h⟩ g=>⟨a,e,C a A B ZX h ⟨g.os,g.tape,g.output,g.size,λk I _=>g.block k I⟩ (λr e=>by cases e)⟩) ?_ W
  ((i.block _ b.lt).trans b) (p.keep (i.block _ p.lt)) (E.keep (eu.RM i)) (z.keep (eu.RM i)) ⟨[],rfl,s⟩).mono ?_
 . rintro pre x X ⟨a,rfl,H⟩ j;have m:x∈P++af os:=j.subset (by simp);refine (F a ⟨x,m⟩ X H (by have:=K3 j;rwa [T9] at this)).mono ?_;rintro e M (⟨b,c,d⟩|⟨b,c⟩)
   . exact .inl ⟨b,⟨a++[⟨x,m⟩],by rw [Uv];rfl,c⟩,d⟩
   . exact .inr ⟨b,⟨a++[⟨x,m⟩],by rw [Uv];rfl,c⟩⟩
 . rintro e X ⟨b,⟨a,rfl,o,c,d⟩|⟨pre,j,o,rfl,d⟩⟩
   . exact ⟨b,.inl ⟨o,c,d⟩⟩
   . exact ⟨b,.inr ⟨o,j,d⟩⟩
end
section
variable {w:ZT} {p:Nat} {A:aF} {F:aQ}
theorem Et (h:aA w p A F):ZQ ZK 66 #[Z6 (ZW ⟨p,0,ZX⟩)] w λe w'=>e=Z3 (Z7 Z9 A.n)/\w'=w:=by
 obtain ⟨R,a,b⟩:=h;obtain ⟨c0,c1⟩:=a.RT;rw [b.n] at c0;go_enter func66,ntmps66;go_wp2;go_ret;exact ⟨rfl,rfl⟩
theorem kH {R:gQ} (h:ah w p R F) (a:0<R.n):ZQ ZK 36 #[Z6 (ZW ⟨p,0,ZX⟩)] w λe w'=>e=Z3 (Z7 Z9 R.nb)/\w'=w:=by
 obtain ⟨c0,c1⟩:=h.RT;obtain ⟨b,d1,c,d⟩:=h.Sc 0 a;rw [abt,Ui] at d1;go_enter func36,ntmps36;go_wp2;go_ret;exact ⟨rfl,rfl⟩
def tJ (h:aA w p A F) (c:0<A.n):ZQ ZK 36 #[Z6 (ZW ⟨p,0,ZX⟩)] w λe w'=>e=Z3 (Z7 Z9 A.nb)/\w'=w:=by
 obtain ⟨R,b,a⟩:=h;rw [<- a.nb];exact kH b (by rw [a.n];exact c)
end
theorem tK (n m:Nat) (f:n<=5000000000) (c:1<=m/\m<=1000000) (w:ZT):ZQ ZK 116 #[Z7 Z9 n,Z7 Z9 m] w λe w'=>e=Z3 (Z7 Z9 (((n+m-1)/m:Nat):Int))/\w'=w:=by
 obtain ⟨g,h⟩:=c;have a:(((n+m-1)/m:Nat):Int)=((n:Int)+m-1)/(m:Int):=by rw [X8,show ((n+m-1:Nat):Int)=(n:Int)+m-1 by omega]
 have d:Int.tdiv ((n:Int)+m-1) (m:Int)=((n:Int)+m-1)/(m:Int):=XP (by omega);have b:wrap64 (((n:Int)+m-1)/(m:Int))=((n:Int)+m-1)/(m:Int):=by rw [<- a];exact iB (TU (VU _ _) (by omega))
 rw [a];go_enter func116,ntmps116;go_wp2;go_ret;exact ⟨Uy (λx=>Ending.returned (Z7 Z9 x)) b,rfl⟩
def pgs (D m:Nat):Nat:=max 1 ((m+(D*44-4)-1)/(D*44-4))
theorem jb {a:Nat} (s:bf w a v D' L' G' t f n pg ob off) (h:bt w v p D L G ps ho) (l:1<=D) (r:D<=1000) (m:Nat) (u:m<=5000000000):ZQ ZK 83 #[Z6 (ZW ⟨a,0,ZX⟩),Z7 Z9 m] w λe w'=>e=Z3 (Z7 Z9 (pgs D m:Nat))/\w'=w:=by
 have c:=tK m (D*44-4) u ⟨by omega,by omega⟩ w;obtain ⟨q,d⟩:=nM ((m+(D*44-4)-1)/(D*44-4));rw [d] at c;have i:pgs D m=max 1 q:=by unfold pgs;rw [d]
 rw [i];have x:∀ b k w,(Builtin.max_ b k #[Z7 Z9 1,Z7 Z9 (q:Nat)]).run ZK w=.ok (Z7 Z9 ((max 1 q:Nat):Int)) w:=λb k w=>by
  rw [lA];by_cases g:(q:Int)>1
  . rw [TT g,Nat.max_eq_right (by omega)]
  . rw [TS g,Nat.max_eq_left (by omega)];rfl
 have j:=kG s h l r;have H:=al c j;clear c j i d;go_enter func83,ntmps83;go_wp2_with fail;refine H.o.2.mono ?_;rintro e w' ⟨rfl,rfl⟩;generalize ((D*44-4:Nat):Int)=y at *;go_wp2_with fail;refine H.o.1.mono ?_;rintro e w' ⟨rfl,rfl⟩;go_wp2;go_ret;exact ⟨rfl,rfl⟩
theorem js {A:aF} (d:bt w v p D L G ps ho) (h:aA w p A F) (c:0<A.n):ZQ ZK 137 #[Z6 (ZW ⟨v,0,ZX⟩)] w λe w'=>e=Z3 (Z7 Z9 A.nb)/\w'=w:=by
 obtain ⟨c0,_⟩:=d.cells;have f:=h.Sx.2;have a:=tJ h c;obtain ⟨nb,b⟩:=nM (A.nb);rw [b] at a f ⊢;clear h c b;go_enter func137,ntmps137;go_wp2_with fail;refine a.mono ?_;rintro e w' ⟨rfl,rfl⟩;go_wp2;go_ret;exact ⟨rfl,rfl⟩
section
attribute [local go_sem] Oper.semAt_some
abbrev Ch (D:Nat):={ i:Nat // i<D }
def DB (g i:Nat):ZS:=Z5 (ZW ⟨g,i*44,ZX⟩) 44 44
def Ge (g:Nat) {D:Nat} (x:Ch D):Array ZS:=#[DB g x.1]
noncomputable def RCh:Array ZO:=((Tryz.f202.body.bind (DA · 3))).getD #[]
def aa2:List (Op×Option Nat×a8):=[(Op.load 3 (Z0 2),ZW 13,[]),
 (Op.load 39 (Z0 1),ZW 14,[]),
 (Op.move (Z0 4),ZW 15,[]),
 (Op.slice 39 (Z0 14) (ZW (Z0 15)) ZX ZX,ZW 16,[1,2]),
 (Op.call { callee:=Callee.builtin Builtin.len,args:=#[Z0 16],argTypes:=#[39] },ZW 17,[3]),
 (Op.call { callee:=Callee.builtin Builtin.min,args:=#[Z0 13,Z0 17],argTypes:=#[3,3] },ZW 18,[0,4]),
 (Op.assign (Z0 18),ZW 5,[5,0,1,2,3,4,5])]
def Ig:bD RCh 5 19 aa2:=eQ (by kernel_rfl) (by kernel_rfl)
def aa3 (g D k:Nat):List ZS:=[Z7 Z9 44,Z5 (ZW ⟨g,0,ZX⟩) (D*44) (D*44),Z7 Z9 (k*44:Nat),Z5 (ZW ⟨g,k*44,ZX⟩) (D*44-k*44) (D*44-k*44),Z7 Z9 (D*44-k*44:Nat),Z7 Z9 44,Z7 Z9 44]
theorem zJ {b1 b2:Nat} (F:RCh=ops) (s:k<D) (C:w.cell? ⟨b1,0,ZX⟩=ZW (Z5 (ZW ⟨g,0,ZX⟩) (D*44) (D*44))) (E:w.cell? ⟨b2,0,ZX⟩=ZW (Z7 Z9 44)) (M:a.tmps.size=31)
 (z:a.eval (Z0 1)=Z6 (ZW ⟨b1,0,ZX⟩)) (A:a.eval (Z0 2)=Z6 (ZW ⟨b2,0,ZX⟩)) (B:a.eval (Z0 4)=Z7 Z9 (k*44:Nat))
 (G:Q .normal (Act.RQ a 5 [Z7 Z9 44,a.eval (Z0 6),a.eval (Z0 7),a.eval (Z0 8),a.eval (Z0 9),a.eval (Z0 10),a.eval (Z0 11),a.eval (Z0 12),Z7 Z9 44,Z5 (ZW ⟨g,0,ZX⟩) (D*44) (D*44),Z7 Z9 (k*44:Nat),Z5 (ZW ⟨g,k*44,ZX⟩) (D*44-k*44) (D*44-k*44),Z7 Z9 (D*44-k*44:Nat),Z7 Z9 44]) w.drew) :
 (Code.region 3 ops ZV).wp ZK Q a w:=by
 subst F;refine gj (by kernel_rfl) Ig a w (by omega) (λi u _=>u=(aa3 g D k).getD i ZY) (λ_ w'=>w'=w.drew) rfl ?_ ?_
 . intro i x;have c1:w.drew.cell? ⟨b1,0,ZX⟩=ZW (Z5 (ZW ⟨g,0,ZX⟩) (D*44) (D*44)):=C;have I:w.drew.cell? ⟨b2,0,ZX⟩=ZW (Z7 Z9 44):=E;match i,x with
   | 0,_=>
    intro o c w' l r ho f s p q j d b;subst d;have u0:c.eval (Z0 2)=Z6 (ZW ⟨b2,0,ZX⟩):=(s.slot 2 (by omega)).trans A;exact aJ (v:=Z7 Z9 44) (by (conv at ho=>rhs;whnf);simp only [execOp,ho,u0];go_simp) f ⟨rfl,rfl,kq⟩
   | 1,_=>
    intro o c w' l r ho f s p q j d b;subst d;have u0:c.eval (Z0 1)=Z6 (ZW ⟨b1,0,ZX⟩):=(s.slot 1 (by omega)).trans z;exact aJ (v:=Z5 (ZW ⟨g,0,ZX⟩) (D*44) (D*44)) (by (conv at ho=>rhs;whnf);simp only [execOp,ho,u0];go_simp) f ⟨rfl,rfl,kq⟩
   | 2,_=>exact λo c w' l r ho f s p q j d b=>aJ (bS ho ((s.slot 4 (by omega)).trans B) w') f ⟨d,rfl,kq⟩
   | 3,_=>
    intro o c w' l r ho f t p q j d b;have u0:c.eval (Z0 14)=Z5 (ZW ⟨g,0,ZX⟩) (D*44) (D*44):=b 1 (j 1 (by decide));have u1:c.eval (Z0 15)=Z7 Z9 (k*44:Nat):=b 2 (j 2 (by decide));have K:k*44<D*44:=(by omega);have H:c.tmps[15]?.getD ZY=Z7 Z9 (k*44:Nat):=(by simpa [Act.eval] using u1);have L:¬ D*44=k*44:=(by omega);refine aJ (v:=Z5 (ZW ⟨g,k*44,ZX⟩) (D*44-k*44) (D*44-k*44)) ?_ f ⟨d,rfl,kq⟩;(conv at ho=>rhs;whnf);simp only [execOp,ho,u0];generalize k*44=N at *;generalize D*44=y at *;go_simp;intro h;omega
   | 4,_=>
    intro o c w' l r ho f t p q j d b;have u0:c.eval (Z0 16)=Z5 (ZW ⟨g,k*44,ZX⟩) (D*44-k*44) (D*44-k*44):=b 3 (j 3 (by decide));refine aJ (v:=Z7 Z9 (D*44-k*44:Nat)) ?_ f ⟨d,rfl,kq⟩;(conv at ho=>rhs;whnf);simp only [execOp,ho,resolve,invoke,builtin,Ux,Vf,UM,V3,UG,Vg,u0];generalize D*44-k*44=y at *;go_simp
   | 5,_=>
    intro o c w' l r ho f t p q j d b;have u0:c.eval (Z0 13)=Z7 Z9 44:=b 0 (j 0 (by decide));have u1:c.eval (Z0 17)=Z7 Z9 (D*44-k*44:Nat):=b 4 (j 4 (by decide));refine aJ (v:=Z7 Z9 44) ?_ f ⟨d,rfl,kq⟩;(conv at ho=>rhs;whnf);simp only [execOp,ho,resolve,invoke,builtin,Ux,Vf,UM,V3,UG,Vg,u0,u1,gy];rw [TS (by omega)]
   | 6,_=>
    intro o c w' l r ho f t p q j d b;have u0:c.eval (Z0 18)=Z7 Z9 44:=b 5 (j 5 (by decide));exact aJ (v:=Z7 Z9 44) (by (conv at ho=>rhs;whnf);simp [execOp,ho,u0]) f ⟨d,rfl,kq⟩
   | n+7,hn=>exact absurd hn (by show ¬ n+7<7;omega)
 . rintro c w' t m ⟨l,J,d⟩ b;subst d;have e:c=Act.RQ a 5 [Z7 Z9 44,a.eval (Z0 6),a.eval (Z0 7),a.eval (Z0 8),a.eval (Z0 9),a.eval (Z0 10),a.eval (Z0 11),a.eval (Z0 12),Z7 Z9 44,Z5 (ZW ⟨g,0,ZX⟩) (D*44) (D*44),Z7 Z9 (k*44:Nat),Z5 (ZW ⟨g,k*44,ZX⟩) (D*44-k*44) (D*44-k*44),Z7 Z9 (D*44-k*44:Nat),Z7 Z9 44]:=t.out _ rfl (by omega) (λi x=>?_)
   . rw [e];exact G
   . match i,x with
     | 0,_=>exact b 6 (by decide)
     | 1,_=>exact m 6 (by decide)
     | 2,_=>exact m 7 (by decide)
     | 3,_=>exact m 8 (by decide)
     | 4,_=>exact m 9 (by decide)
     | 5,_=>exact m 10 (by decide)
     | 6,_=>exact m 11 (by decide)
     | 7,_=>exact m 12 (by decide)
     | 8,_=>exact b 0 (by decide)
     | 9,_=>exact b 1 (by decide)
     | 10,_=>exact b 2 (by decide)
     | 11,_=>exact b 3 (by decide)
     | 12,_=>exact b 4 (by decide)
     | 13,_=>exact b 5 (by decide)
     | n+14,hn=>exact absurd hn (by simp)
def Kp2 (b1 b2:Nat) (W W':ZT):Prop:=W'.heap[b1]?=W.heap[b1]?/\W'.heap[b2]?=W.heap[b2]?
theorem Eu (n l b1 b2 g D:Nat) (O:D<=1000) (J m:List (Ch D)->ZT->Prop) (L:∀ pre W,J pre W->J pre W.drew)
 (M:∀ pre x W,J pre W->pre.length<D->YieldAt Fence.wide (n-1) ZK l (Ge g x) W λe a=>
  (e=Z3 (Z1 ZV)/\J (pre++[x]) a/\Kp2 b1 b2 W a)\/(e=Z3 (Z1 ZU)/\m (pre++[x]) a))
 (W:ZT) (I:W.cell? ⟨b1,0,ZX⟩=ZW (Z5 (ZW ⟨g,0,ZX⟩) (D*44) (D*44))) (K:W.cell? ⟨b2,0,ZX⟩=ZW (Z7 Z9 44)) (G:J [] W) :
 CallsIn Fence.wide n ZK 202 #[.func (.yield l) #[] #[],Z6 (ZW ⟨b1,0,ZX⟩),Z6 (ZW ⟨b2,0,ZX⟩)] W λe a=>(∃ v,e=Z3 v) /\
  ((∃ C,C.map (·.1)=YE D/\J C a)\/(∃ pre,pre.map (·.1)<+:YE D/\m pre a)):=by
 refine Xs func202 rfl trivial ?_ rfl;simp only [ntmps202,UH,UD,UW,YF,YG,Vj,Vk,Vl,Vm,Uo,UU];gi_wp2;gi_loopw [4] (λp wr=>∃ (pre:List (Ch D)) (k:Nat),p=Z7 Z9 (k*44:Nat)/\k<=D/\pre.map (·.1)=YE k/\J pre wr/\wr.cell? ⟨b1,0,ZX⟩=ZW (Z5 (ZW ⟨g,0,ZX⟩) (D*44) (D*44))/\wr.cell? ⟨b2,0,ZX⟩=ZW (Z7 Z9 44))
  (λp _=>D*44-(intOf p).toNat)
 case atStart=>
  exact ⟨[],0,rfl,T5 _,rfl,G,I,K⟩
 case round=>
  obtain ⟨pre,k,rfl,R,b,c,c1,r⟩:=hrel;have u:pre.length=k:=by have:=Uy YJ b;simpa using this
  by_cases d:k<D
  . have S:((k*44:Nat):Int)<((D*44:Nat):Int):=(by omega);have i:wr.drew.cell? ⟨b1,0,ZX⟩=ZW (Z5 (ZW ⟨g,0,ZX⟩) (D*44) (D*44)):=c1;have j:wr.drew.cell? ⟨b2,0,ZX⟩=ZW (Z7 Z9 44):=r;obtain ⟨fn,tmps,assign,body,B,A⟩:=M pre ⟨k,d⟩ wr.drew (L _ _ c) (by omega);unfold Ge DB at B;simp only at B;have H:=a5 A c b u;clear A c b u;gi_wp2;refine wpIn_wide.2 (zJ (by kernel_rfl) d c1 r rfl rfl rfl rfl ?_);rename_i hK
    refine hK _ _ ?_;clear hK;simp only [Act.RQ,Act.put,Ue,Uc,Uf];have P:k*44+44-k*44=44:=(by omega);have Q:k*44+44<=D*44:=(by omega);generalize z:k*44=N at *;generalize ha:D*44=s at *;generalize hf:N+44=F at *;gi_wp2;refine ⟨λh=>(by cases h),H.o.1.mono ?_⟩;rintro e q (⟨rfl,w,y⟩|⟨rfl,t⟩)
    . have d1:q.cell? ⟨b1,0,ZX⟩=ZW (Z5 (ZW ⟨g,0,ZX⟩) s s):=(Uk y.1).trans i;have E:q.cell? ⟨b2,0,ZX⟩=ZW (Z7 Z9 44):=(Uk y.2).trans j;have f:=ak w;clear w;gi_wp2;go_roundw
      case rel=>exact ⟨pre++[⟨k,d⟩],k+1,by rw [show (k+1)*44=F by omega];congr 1;omega,by omega,by rw [Uv,H.o.2.2.1,Vy];rfl,f.o,by rw [ha];exact d1,E⟩
      case measure=>simp only [intOf];omega
    . have f:=ak t;clear t;gi_wp2;refine Ur (XK rfl _ _ _) rfl ?_;refine ⟨⟨_,rfl⟩,.inr ⟨pre++[⟨k,d⟩],?_,f.o⟩⟩;rw [Uv,H.o.2.2.1];refine ⟨(YE D).drop (k+1),?_⟩;show YE k++[k]++_=_;rw [<- Vy];have:YE (k+1)=(YE D).take (k+1):=by rw [List.take_range,Wl (by omega)]
      rw [this,Wo]
  . have z:k=D:=(by omega);subst z;gi_wp2;go_end0
    exact ⟨⟨_,rfl⟩,.inl ⟨pre,b,c⟩⟩
def zK (n b1 b2 g D:Nat) (k:D<=1000) (w:ZT) (i:b1<w.heap.size) (j:b2<w.heap.size) (d:w.cell? ⟨b1,0,ZX⟩=ZW (Z5 (ZW ⟨g,0,ZX⟩) (D*44) (D*44))) (f:w.cell? ⟨b2,0,ZX⟩=ZW (Z7 Z9 44)) :
 SeqStopsK Fence.wide n ZK 202 #[Z6 (ZW ⟨b1,0,ZX⟩),Z6 (ZW ⟨b2,0,ZX⟩)] (Ge g (D:=D)) (Kp2 b1 b2) (λq=>q.map (·.1)=YE D) (λpre=>pre.map (·.1)<+:YE D) D w:=λl J b W a m _ o c=>
 Eu n l b1 b2 g D k J b (λpre X h=>m pre X X.drew ZX h ⟨rfl,rfl,rfl,TV _,λ_ _ _=>rfl⟩ (λr e=>by cases e)) o W ((a.cell (p:=⟨b1,0,ZX⟩) i).trans d) ((a.cell (p:=⟨b2,0,ZX⟩) j).trans f) c
theorem Ih (g D:Nat) (w:ZT) :
 ZQ ZK 189 #[Z5 (ZW ⟨g,0,ZX⟩) (D*44) (D*44),Z7 Z9 44] w λe w'=>e=Z3 (.func (.func 202) #[] #[Z6 (ZW ⟨w.heap.size,0,ZX⟩),Z6 (ZW ⟨w.heap.size+1,0,ZX⟩)])/\w'=(w.alloc (Z4 #[Z5 (ZW ⟨g,0,ZX⟩) (D*44) (D*44)] 39)).alloc (Z4 #[Z7 Z9 44] 3):=by
 generalize D*44=a;go_enter func189,ntmps189;go_wp2;go_ret;exact ⟨rfl,rfl⟩
end
section
attribute [local go_sem] Oper.semAt_some
def xN {size:Nat} {v:ZS} (h:w.ownsRow base e size v n xs) {j:Nat} {o:Obj} (a:v.ownBlock=ZW j) (ho:w.heap[j]?=ZW o):o.isCells=ZV:=by
 rcases h.2 with ⟨d,_⟩|⟨g,cap,cur,b,f,c,_⟩
 . rw [d] at a;simp [Value.ownBlock] at a
 . rw [b] at a;simp [Value.ownBlock] at a;subst a;rw [c] at ho;cases ho;rfl
def lM {size:Nat} {v:ZS} {row:Option Nat} (h:w.ownsRow base e size v n xs) (a:w.grownBy w' row) (c:∀ r,row=ZW r->∃ o:Obj,w.heap[r]?=ZW o/\o.isCells=ZU):w'.ownsRow base e size v n xs:=by
 cases row with
 | none=>
  cases hv:v.ownBlock with
  | none=>exact h.kept a (.inl hv)
  | some q=>exact h.kept a (.inr (by rw [hv];intro e;cases e))
 | some r=>
  obtain ⟨o,ho,b⟩:=c r rfl;exact h.kept a (.inr λe=>by have:=xN h e ho;rw [b] at this;cases this)
def tL (w:ZT) (b i:Nat) (v:ZS):w.grownBy (w.setCell ⟨b,i,ZX⟩ v) (ZW b):=
 ⟨rfl,rfl,rfl,by simp [World.setCell],λk _ a=>Ud _ _ _ _ (λe=>a (by rw [e]))⟩
def Gg (d:fn.results=#[.tmp t]) (b:a.defers=[{ target:=.collected D',args:=#[] }]) (hx:a.tmps.getD t ZY=x)
 (hK:Z.heap[D']?=ZW (.deferred (ZW []))) (hR:R (Z3 x) (Z.putObj D' (.deferred ZX))):bodyPostM Fence.wide n ZK fn R .ret a Z:=by
 obtain ⟨e,f⟩:=a;simp only at b hx;subst b;refine ⟨by simp,.inl ⟨_,_,rfl,Wu hK,?_⟩⟩;refine ⟨x,?_,hR⟩;have c:e[t]?.getD ZY=x:=by simpa using hx
 simp [results,d,c]
def ApI (w:ZT) (g:Nat) (B D:Nat) (pre:List (Ch D)) (X:ZT):Prop:=
 (∃ v,ZM X w.heap.size 85 v/\X.ownsRow (w.heap.size+1) 39 1 v pre.length (pre.map λx=>DB g x.1))/\bW w X/\B<=X.heap.size
def ApI.own (i:w.heap.size+1<=B):OwnFrom B (ApI w g B D):=by
 rintro pre X Y row ⟨⟨v,c,f⟩,d,h⟩ a b;exact ⟨⟨v,(a.block _ c.lt (λe=>by have:=(b _ e.symm).1;omega)).trans c,lM f a λr e=>(b r e).2⟩,d.grown a d.size (λk e=>by have:=(b k e).1;omega),TU h a.size⟩
def Tryz.R7:(ZK.info? 39).map (λi=>(i.zero,i.size,i.bytes))=ZW (ZW (Z5 ZX 0 0),1,24):=by kernel_rfl
def K4 {F:Fence} (t:o.guard=ZX) (x y:ZL) (ho:o.op=.call { callee:=.builtin .append,args:=#[x,y],argTypes:=#[85,85] })
 (n0 q:Nat) (k:Nat) (xs:List ZS) (u v:ZS) (hx:a.eval x=v) (hy:a.eval y=Z5 (ZW ⟨q,0,ZX⟩) 1 1) (h3:w.ownsRow n0 39 1 v k xs) (hc:w.cell? ⟨q,0,ZX⟩=ZW u) (hu:u.oneCell'=ZV) (h7:n0<=w.heap.size) (hk:k<=1000000)
 (hK:∀ c b w2,n0<=c->w2.ownsRow n0 39 1 (Z5 (ZW ⟨c,0,ZX⟩) (k+1) b) (k+1) (xs++[u])->w.grownBy w2 v.ownBlock->wpListIn F n ZK ops Q rest (a.put o.dst (Z5 (ZW ⟨c,0,ZX⟩) (k+1) b)) w2):wpListIn F n ZK ops Q (o::rest) a w:=by
 obtain ⟨A,l,m,p,r⟩:=Us Tryz.R7;refine wpListIn_append_own w t x y 85 ho n0 39 A (Z5 ZX 0 0) 1 24 VQ l m p r rfl (by decide) v k xs hx h3 ⟨q,0,ZX⟩ 1 1 [u] hy rfl (λj u' d=>?_) (λu' f=>by simp at f;subst f;exact hu) (by unfold maxLen;omega) (by omega) h7 ?_
 . cases j with
   | zero=>simp at d;subst d;exact hc
   | succ j=>simp at d
 . intro B w2 e h _;obtain ⟨c,b,rfl,i⟩:∃ c b,B=Z5 (ZW ⟨c,0,ZX⟩) (k+1) b/\n0<=c:=by
    rcases e.2 with ⟨_,C⟩|⟨g,cap,cur,z,s,_⟩
    . omega
    . exact ⟨g,cap,z,s⟩
   exact hK c b w2 i e h
theorem pO (g D b1 b2:Nat) (Q:D<=1000) (w:ZT) (G:b1<w.heap.size) (I:b2<w.heap.size) (O:w.cell? ⟨b1,0,ZX⟩=ZW (Z5 (ZW ⟨g,0,ZX⟩) (D*44) (D*44))) (P:w.cell? ⟨b2,0,ZX⟩=ZW (Z7 Z9 44)) :
 ZQ ZK 201 #[Z5 ZX 0 0,.func (.func 202) #[] #[Z6 (ZW ⟨b1,0,ZX⟩),Z6 (ZW ⟨b2,0,ZX⟩)]] w λe w'=>∃ v,e=Z3 v/\w'.ownsRow w.heap.size 39 1 v D ((YE D).map (DB g))/\bW w w':=by
 obtain ⟨n,M⟩:∃ n:Nat,cA (9<=n):=⟨9,TV _⟩;refine (Vc (n:=n)).1 ?_;refine Wf func201 rfl trivial ?_ rfl;simp only [ntmps201,UH,UD,UW,YF,YG,Vj,Vk,Vl,Vm,Uo,UU];gi_wp2;obtain ⟨w1,s⟩:=nM (w.alloc (Z4 #[Z5 ZX 0 0] 85));have N:ZM w1 w.heap.size 85 (Z5 ZX 0 0):=by rw [<- s];exact Ut w _ _
 have k8:w1.heap.size=w.heap.size+1:=by rw [<- s];simp
 have B:bW w w1:=by rw [<- s];exact bA w _
 rw [s];clear s;have U:ApI w g w1.heap.size D [] w1:=⟨⟨_,N,UN _ _ _ _⟩,B,TV _⟩;refine Wg rfl (by have:=M.o;omega) (gf:=202) (lb:=#[Z6 (ZW ⟨b1,0,ZX⟩),Z6 (ZW ⟨b2,0,ZX⟩)]) rfl trivial (Ve func202 (by kernel_rfl) rfl)
  (zK (n-1) b1 b2 g D Q w1 (by omega) (by omega) ((B.cell (p:=⟨b1,0,ZX⟩) G).trans O) ((B.cell (p:=⟨b2,0,ZX⟩) I).trans P)) (λh k=>⟨k.1.trans h.1,k.2.trans h.2⟩) (λW l o o' hl _ _ _=>⟨US (by omega),US (by omega)⟩) (TW _ _) (λ_=>rfl)
  (ApI w g w1.heap.size D) (λ_ _ _=>False) (ApI.own (by omega)) (λ_ _ _ _ _ h _ _=>h.elim) U
  (λx=>{ tmps:=#[Z5 ZX 0 0,.func (.func 202) #[] #[Z6 (ZW ⟨b1,0,ZX⟩),Z6 (ZW ⟨b2,0,ZX⟩)],Z6 (ZW ⟨w.heap.size,0,ZX⟩),ZY,Z5 ZX 0 0,DB g x.1,.func (.func 202) #[] #[Z6 (ZW ⟨b1,0,ZX⟩),Z6 (ZW ⟨b2,0,ZX⟩)],DB g x.1,ZY,ZY,ZY,ZY,ZY],defers:=[] }) ?assign ?body ?done ?stop
 case assign=>
  intro l2 x X Kk hK;unfold Ge;gi_wp2;exact hK
 case body=>
  rintro l2 pre x X ⟨⟨v,f,b⟩,a,y⟩ hq;have c0:=f.cell;have hz:=f.lt;have k7:pre.length<=1000:=by omega
  obtain ⟨c,Y⟩:=nM (x.1*44);have m:DB g x.1=Z5 (ZW ⟨g,c,ZX⟩) 44 44:=by rw [<- Y];rfl
  have R:(Value.slice (ZW ⟨g,c,ZX⟩) 44 44).oneCell'=ZV:=rfl;have T:(X.alloc (Z4 #[Z5 (ZW ⟨g,c,ZX⟩) 44 44] 39)).cell? ⟨X.heap.size,0,ZX⟩=ZW (Z5 (ZW ⟨g,c,ZX⟩) 44 44):=(Ut X 39 (Z5 (ZW ⟨g,c,ZX⟩) 44 44)).cell;have H:=a6 f b a y m;rw [m];clear f b a y m;have C:cA ((X.alloc (Z4 #[Z5 (ZW ⟨g,c,ZX⟩) 44 44] 39)).ownsRow (w.heap.size+1) 39 1 v pre.length (pre.map λx=>DB g x.1)):=ak (ay H.o.2.1 (bA X _));have L:cA (w.heap.size+1<=(X.alloc (Z4 #[Z5 (ZW ⟨g,c,ZX⟩) 44 44] 39)).heap.size):=ak (by simp;omega);gi_wp2_with (
   gi_at_builtin;
   refine K4 rfl (Z0 8) (Z0 10) rfl (w.heap.size+1) X.heap.size pre.length (pre.map λx=>DB g x.1) (Z5 (ZW ⟨g,c,ZX⟩) 44 44) v (by rfl) (by rfl) (by exact C.o) (by exact T) R L.o (by omega) ?_;
   intro E d w2 k6 F i;
   have A:ZM w2 w.heap.size 85 v:=(i.block w.heap.size (by simp;omega) (λe=>by have:=(H.o.2.1.lt _ e.symm).1;omega)).trans (H.o.1.alloc _);
   have d0:=A.cell;
   have f0:=A.frozen)
  obtain ⟨f,b,a,y,m⟩:=H.o;have Z:∀ q,v.ownBlock=ZW q->w.heap.size+1<=q:=λq e=>(b.lt q e).1;have hy:=i.size;simp only [Uq] at hy;have V:KeepsOthers X w2:=(KeepsOthers.alloc X (Z4 #[Z5 (ZW ⟨g,c,ZX⟩) 44 44] 39)).trans (ab1 i λj o e ho=>xN C.o e ho);have z:∀ k,k<w.heap.size->w2.heap[k]?=X.heap[k]?:=λk u=>(i.block k (by simp;omega) (λe=>by have:=Z k e.symm;omega)).trans (UC _ _ _ (by omega));have J:∀ k,k≠w.heap.size->(w2.setCell ⟨w.heap.size,0,ZX⟩ (Z5 (ZW ⟨E,0,ZX⟩) (pre.length+1) d)).heap[k]?=w2.heap[k]?:=λk u=>Ud _ _ _ _ u;refine ⟨(V.trans (V5 _ _ _)).from _,⟨(J _ (by omega)).trans (z _ G),(J _ (by omega)).trans (z _ I)⟩,⟨_,A.set _,?_⟩,?_,by simp [World.setCell];omega⟩
  . have q:=F.kept (tL w2 w.heap.size 0 (Z5 (ZW ⟨E,0,ZX⟩) (pre.length+1) d)) (.inr λe=>by have:=(F.lt _ e).1;omega);have e:(pre++[x]).map (λx=>DB g x.1)=pre.map (λx=>DB g x.1)++[Z5 (ZW ⟨g,c,ZX⟩) 44 44]:=(by rw [Uv,<- m];rfl);rw [e,T8];exact q
  . refine (Xo (p:=⟨w.heap.size,0,ZX⟩) ?_ lR _);exact ⟨i.os.trans a.os,i.tape.trans a.tape,i.output.trans a.output,by have:=a.size;omega,λk u=>(z k u).trans (a.block k u)⟩
 case done=>
  rintro D' xs X S K ⟨⟨v,f,b⟩,a,y⟩ hK;have c0:=f.cell;have H:=aE b a hK;clear f b a hK;gi_wp2;obtain ⟨b,a,hK⟩:=H.o;have k0:xs.length=D:=by have:=Uy YJ K;simpa using this
  have k5:xs.map (λx=>DB g x.1)=(YE D).map (DB g):=by rw [<- K,List.map_map];rfl
  rw [k0,k5] at b;refine Gg (t:=4) results201 rfl rfl hK ⟨_,rfl,?_,?_⟩
  . exact cY (lM b (Xe X D' (.deferred ZX)) λr e=>by cases e;exact ⟨_,hK,rfl⟩) (by omega)
  . exact Below.RR a (by omega) (TX.1 hK).1 _
 case stop=>
  rintro D' cc pre X S hs hx hK;exact hx.elim
theorem tM (g D b1 b2:Nat) (j:D<=1000) (w:ZT) (h:b1<w.heap.size) (i:b2<w.heap.size) (b:w.cell? ⟨b1,0,ZX⟩=ZW (Z5 (ZW ⟨g,0,ZX⟩) (D*44) (D*44))) (c:w.cell? ⟨b2,0,ZX⟩=ZW (Z7 Z9 44)) :
 ZQ ZK 188 #[.func (.func 202) #[] #[Z6 (ZW ⟨b1,0,ZX⟩),Z6 (ZW ⟨b2,0,ZX⟩)]] w λe w'=>∃ v,e=Z3 v/\w'.ownsRow w.heap.size 39 1 v D ((YE D).map (DB g))/\bW w w':=by
 have f:=pO g D b1 b2 j w h i b c;clear b c;go_enter func188,ntmps188;go_wp2_with fail;refine f.mono ?_;rintro e w' ⟨v,rfl,a,d⟩;have H:=al a d;clear f a d;go_wp2;go_ret;exact ⟨_,rfl,H.o.1,H.o.2⟩
def iJ (D:Nat) (dl:a8):a8:=dl++YM (D*44-dl.length) 0
def dS (D:Nat) (dl:a8):List a8:=(YE D).map λi=>((iJ D dl).drop (i*44)).take 44
def K5 (h:dl.length<=D*44):(iJ D dl).length=D*44:=by unfold iJ;simp;omega
def dY (D:Nat) (dl:a8):(dS D dl).length=D:=by simp [dS]
def oG (a:i<(dS D dl).length):(dS D dl)[i]=((iJ D dl).drop (i*44)).take 44:=by simp [dS]
def mw (h:dl.length<=D*44) (a:i<D):(((iJ D dl).drop (i*44)).take 44).length=44:=by
 rw [Un,Um,K5 h];omega
def NW (h:∀ x∈dl,x<256):∀ x∈iJ D dl,x<256:=by
 intro x a;unfold iJ at a;rw [Uj] at a;rcases a with a|a
 . exact h x a
 . have:=VJ a;omega
theorem Qv (h:bt w v p D L G ps ho) (hD:D<=12) (Y:ZS) (dl:a8) (R:Bs w Y dl) (hl:dl.length<=D*44) :
 ZQ ZK 167 #[Z6 (ZW ⟨v,0,ZX⟩),Y] w λe w'=>∃ u,e=Z3 u/\Rd w' u (dS D dl)/\bW w w':=by
 have X:=dF h (by omega);obtain ⟨b,z⟩:=nM (D*44);have hv:b<=528:=by omega
 rw [z] at X hl;have J:=ak R;clear R;go_enter func167,ntmps167;go_wp2_with fail;refine X.mono ?_;rintro e w1 ⟨rfl,rfl⟩;go_wp2_with (at_make;refine cQ _ rfl (Z0 7) (Z0 7) rfl _ b (by rfl) (by rfl) rfl (by omega) ?_;intro w2 Q A k0;obtain ⟨a,hq,r,U⟩:=A9 (n:=b) (cap:=b) (off:=0) 3 Q (J.o.mono A) (by omega) (by simp;omega));have s:bW w1 a:=A.grown U (by omega) (λk e=>by cases e;exact TV _);have P:spl (YM b 0) 0 dl=iJ D dl:=by
  unfold spl iJ;rw [Wm,Uo,Ui,X1,z]
 rw [P] at r;have B:=Ih w1.heap.size D a;rw [z] at B;have H:=aE r s B;clear hq Q A U r s B P;refine H.o.2.2.mono ?_;rintro e f ⟨rfl,rfl⟩;obtain ⟨f,d⟩:=nM ((a.alloc (Z4 #[Z5 (ZW ⟨w1.heap.size,0,ZX⟩) b b] 39)).alloc (Z4 #[Z7 Z9 44] 3));have t:bW a f:=by rw [<- d];exact (bA a _).alloc (by simp) _
 have hz:f.heap.size=a.heap.size+2:=by rw [<- d];simp
 have M:f.cell? ⟨a.heap.size,0,ZX⟩=ZW (Z5 (ZW ⟨w1.heap.size,0,ZX⟩) (D*44) (D*44)):=by rw [<- d,z];exact ((Ut a _ _).alloc _).cell
 have N:f.cell? ⟨a.heap.size+1,0,ZX⟩=ZW (Z7 Z9 44):=by
  have:=(Ut (a.alloc (Z4 #[Z5 (ZW ⟨w1.heap.size,0,ZX⟩) b b] 39)) 3 (Z7 Z9 44)).cell;rw [Uq] at this;rw [<- d];exact this
 have T:=tM w1.heap.size D a.heap.size (a.heap.size+1) (by omega) f (by omega) (by omega) M N;rw [d];have I:=al t T;clear d t T M N hz;go_wp2_with fail;refine I.o.2.mono ?_;rintro e F ⟨u,rfl,m,y⟩;have Z:=al m y;clear m y;go_wp2;go_ret;obtain ⟨r,s,_⟩:=H.o;obtain ⟨t,_⟩:=I.o;obtain ⟨m,y⟩:=Z.o;have O:bW a F:=t.trans (y.mono t.size);have hp:aI F w1.heap.size (iJ D dl):=r.below O;refine ⟨u,rfl,?_,s.trans (O.mono s.size)⟩;rcases m.2 with ⟨h0,h1⟩|⟨q,cap,cur,K,e2,e3,e4,e5,e6,e7⟩
 . subst h0;have:dS D dl=[]:=by rw [<- Xb,dY];exact h1
   exact ⟨ZX,0,by rw [this];rfl,by rw [this];decide,λE=>absurd this E⟩
 . refine ⟨ZW ⟨q,0,ZX⟩,cap,by rw [K,dY],by rw [dY];omega,λ_=>⟨q,0,rfl,λi S=>?_⟩⟩;have C:=S;rw [dY] at C;refine ⟨DB w1.heap.size i,?_,?_⟩
   . have:=m.cells (g:=q) (by rw [K];rfl) i (DB w1.heap.size i) (by simp [C]);rw [jC] at this;rw [Ui];exact this
   . rw [oG S];have hg:=mw (D:=D) (dl:=dl) (by omega) C;have hr:F.rangeAt w1.heap.size 0 (aH (iJ D dl)):=λj u hu=>by
      have E:=hp.SP;have hy:(aH (iJ D dl)).toArray[j]?=ZW u:=(by simpa using hu);simp [World.cell?,E,hy]
     have W:=np 44 (fR (i*44) hr);rw [Ui] at W;have V:=Bs.mid (c:=44) (l:=((iJ D dl).drop (i*44)).take 44) (by omega) (by omega) (λx hx=>NW J.o.lt x (U0 (UY hx))) W;rw [hg] at V;exact V
end
section
attribute [local go_sem] Oper.semAt_some
def jt (nb:Nat) (s:(Nat->Bool)×Bool) (x:Nat):(Nat->Bool)×Bool:=if x<2\/nb<=x\/s.1 x=ZV then (s.1,ZU) else (λj=>if j=x then ZV else s.1 j,s.2)
def tk (nb:Nat) (l:a8):(Nat->Bool)×Bool:=l.foldl (jt nb) (λ_=>ZU,ZV)
def sn (nb:Nat) (l:a8) (x:Nat):tk nb (l++[x])=jt nb (tk nb l) x:=by simp [tk]
def Tryz.S9:(ZK.info? 4).map (λi=>(i.zero,i.size,i.bytes))=ZW (ZW (Z1 ZU),1,1):=by kernel_rfl
def pP (w:ZT) {F:Fence} {m:Nat} {ops:Array ZO} {rest:List ZO} {o:ZO} {a:Act} {Q:Exit->Act->ZT->Prop}
 (i:o.guard=ZX) (l c:ZL) (b:o.op=Op.makeSlice 93 l c) (C:Int) (n:Nat) (hl:a.eval l=Z7 Z9 C) (g:a.eval c=Z7 Z9 C) (f:C=(n:Int)) (j:n<=1000000000)
 (hK:∀ w',w'.rowIs w.heap.size 4 n (λ_=>Z1 ZU)->bW w w'->w'.heap.size=w.heap.size+1->wpListIn F m ZK ops Q rest (a.put o.dst (Z5 (ZW ⟨w.heap.size,0,ZX⟩) n n)) w') :
 wpListIn F m ZK ops Q (o::rest) a w:=by
 refine abu i λK e=>?_;have d:=XY (P:=ZK) 93 4 (Z1 ZU) 1 underlying93 Tryz.S9 rfl .i64 .i64 n (by omega) (by omega) w;subst f;unfold Oper.wpIn;refine ⟨by simp [Oper.about,b],?_⟩;rw [VF F _ _ (by rw [b];intro c h;cases h)];simp [execOp,b,hl,g,d,Result.andThen];exact e _ _ (hK _ (XA w _ n _) (bA _ _) (Uh _ _))
structure Qw (w:ZT) (g nb B:Nat) (pre:a8) (X:ZT):Prop where
 row:X.rowIs g 4 nb (λj=>Z1 ((tk nb pre).1 j))
 box:ZM X (g+1) 93 (Z5 (ZW ⟨g,0,ZX⟩) nb nb)
 ok:ZM X (g+1+1) 4 (Z1 (tk nb pre).2)
 below:bW w X
 size:B<=X.heap.size
def Qw.own (l:g+3<=B) (m:w.heap.size<=B):OwnFrom B (Qw w g nb B):=by
 rintro pre X Y row ⟨f,h,i,c,j⟩ b d;have a:∀ k,k<B->Y.heap[k]?=X.heap[k]?:=λk a=>b.block k (by omega) (λe=>by have:=(d k e.symm).1;omega);exact ⟨f.of_block (a _ (by omega)),(a _ (by omega)).trans h,(a _ (by omega)).trans i,c.grown b c.size (λk e=>by have:=(d k e).1;omega),TU j b.size⟩
def tN {u:Nat} {y:ZS} (f:fn.results=#[.tmp t,.tmp u]) (b:a.defers=[{ target:=.collected D',args:=#[] }]) (hx:a.tmps.getD t ZY=x) (hy:a.tmps.getD u ZY=y)
 (hK:Z.heap[D']?=ZW (.deferred (ZW []))) (hR:R (Z3 (ZZ #[x,y])) (Z.putObj D' (.deferred ZX))):bodyPostM Fence.wide n ZK fn R .ret a Z:=by
 obtain ⟨c,g⟩:=a;simp only at b hx hy;subst b;refine ⟨by simp,.inl ⟨_,_,rfl,Wu hK,?_⟩⟩;refine ⟨ZZ #[x,y],?_,hR⟩;have d:c[t]?.getD ZY=x:=by simpa using hx
 have e:c[u]?.getD ZY=y:=by simpa using hy
 simp [results,f,d,e]
theorem xO {A:aF} (N:bf w ar v D' L' G' t f nn pg ob off) (hV:bt w v p D L G ps ho) (h:aA w p A F) (hn:0<A.n) (P:a8) (os:List Ob) (hP:bg (λk=>k<w.heap.size) w pg P) (hC:eN (λk=>k<w.heap.size) w ob os) :
 ZQ ZK 146 #[Z6 (ZW ⟨ar,0,ZX⟩)] w λe w'=>∃ g,e=Z3 (ZZ #[Z5 (ZW ⟨g,0,ZX⟩) A.nb A.nb,Z1 (tk A.nb (P++af os)).2])/\w.heap.size<=g/\w'.rowIs g 4 A.nb (λj=>Z1 ((tk A.nb (P++af os)).1 j))/\bW w w':=by
 obtain ⟨n,HN⟩:∃ n:Nat,cA (9<=n):=⟨9,TV _⟩;obtain ⟨c0,_⟩:=N.cells;have Q:=js hV h hn;have ka:=h.Sx.2;obtain ⟨nb,h7⟩:=nM (A.nb);rw [h7] at Q ka ⊢;clear h7;have C:=a5 N hP hC Q;clear N hP hC Q;refine (Vc (n:=n)).1 ?_;refine Wf func146 rfl trivial ?_ rfl;simp only [ntmps146,UH,UD,UW,YF,YG,Vj,Vk,Vl,Vm,Uo,UU];gi_wp2;refine cj C.o.2.2.2 ?_;rintro e w1 ⟨rfl,rfl⟩;gi_wp2_with (gi_at_make;refine pP _ rfl (Z0 11) (Z0 11) rfl _ nb (by rfl) (by rfl) rfl (by omega) ?_;intro w2 h6 hq J)
 obtain ⟨d,B⟩:=nM ((w2.alloc (Z4 #[Z5 (ZW ⟨w1.heap.size,0,ZX⟩) nb nb] 93)).alloc (Z4 #[Z1 ZV] 4));have k0:d.heap.size=w1.heap.size+3:=by rw [<- B];simp [J]
 have hr:bW w1 d:=by rw [<- B];exact (hq.alloc (by omega) _).alloc (by simp;omega) _
 have hp:d.rowIs w1.heap.size 4 nb (λ_=>Z1 ZU):=by rw [<- B];exact (h6.alloc _).alloc _
 have hg:ZM d (w1.heap.size+1) 93 (Z5 (ZW ⟨w1.heap.size,0,ZX⟩) nb nb):=by
  rw [<- B];have:=Ut w2 93 (Z5 (ZW ⟨w1.heap.size,0,ZX⟩) nb nb);rw [J] at this;exact this.alloc _
 have hm:ZM d (w1.heap.size+1+1) 4 (Z1 ZV):=by
  rw [<- B];have:=Ut (w2.alloc (Z4 #[Z5 (ZW ⟨w1.heap.size,0,ZX⟩) nb nb] 93)) 4 (Z1 ZV);rw [Uq,J] at this;exact this
 rw [B];clear B h6 hq J c0 hV h;refine cj (lK ar d) ?_;rintro e w' ⟨rfl,rfl⟩;have h5:ZM (d.alloc (Z4 #[Z6 (ZW ⟨ar,0,ZX⟩)] 106)) d.heap.size 106 (Z6 (ZW ⟨ar,0,ZX⟩)):=Ut d _ _;have k5:(d.alloc (Z4 #[Z6 (ZW ⟨ar,0,ZX⟩)] 106)).heap.size=d.heap.size+1:=by simp
 have H:Qw w1 w1.heap.size nb (d.heap.size+1) [] (d.alloc (Z4 #[Z6 (ZW ⟨ar,0,ZX⟩)] 106)):=⟨hp.alloc _,hg.alloc _,hm.alloc _,hr.alloc (by omega) _,by omega⟩;obtain ⟨s,hs⟩:=nM (d.alloc (Z4 #[Z6 (ZW ⟨ar,0,ZX⟩)] 106));have I:=a5 h5 H k0 k5;clear h5 H k0 k5 hp hg hm hr;gi_wp2;rw [hs] at I;clear hs;obtain ⟨ke,kf,kg,kh⟩:d.heap.size<=w1.heap.size+3/\w1.heap.size+3<=d.heap.size/\s.heap.size<=d.heap.size+1/\d.heap.size+1<=s.heap.size:=by have:=I.out.2.2;omega
 have H:Qw w1 w1.heap.size nb s.heap.size [] s:=by have:=I.out.2.1;exact ⟨this.row,this.box,this.ok,this.below,TV _⟩
 have O:∀ {v:ZS} {l:a8},bg (λk=>k<w1.heap.size) w1 v l->bg (λk=>k<w1.heap.size\/k=d.heap.size) w1 v l:=λ⟨ao,c,S,T,U⟩=>⟨ao,c,S,T,λhl=>by obtain ⟨b,off,V,Y,Z⟩:=U hl;exact ⟨b,off,V,.inl Y,Z⟩⟩;have k8:=O C.o.2.1;have k6:eN (λk=>k<w1.heap.size\/k=d.heap.size) w1 ob os:=by
  obtain ⟨ao,c,S,T,U⟩:=C.o.2.2.1;refine ⟨ao,c,S,T,λhl=>?_⟩;obtain ⟨b,off,V,Y,Z,r4⟩:=U hl;refine ⟨b,off,V,.inl Y,Z,λi a=>?_⟩;obtain ⟨sv,s1,s2,s3,s4⟩:=r4 i a;exact ⟨sv,s1,s2,s3,O s4⟩
 have M:=H.below;have HI:=ak H;clear H O;refine Wg rfl (by have:=HN.o;omega) (gf:=122) (lb:=#[Z6 (ZW ⟨d.heap.size,0,ZX⟩)]) rfl trivial (Ve func122 (by kernel_rfl) rfl)
  (pM (λk=>k<w1.heap.size\/k=d.heap.size) (n-1) d.heap.size ar v D' L' G' t f nn pg ob off P os (.inr rfl) (.inl C.o.1.lt) s I.out.1 (C.o.1.keep (M.block _ C.o.1.lt)) (k8.keep (eu.RM M)) (k6.keep (eu.RM M)))
  (λh k=>h.trans k) (λW l o o' hl _ _ _=>⟨by simp [World.putObj],λk _ r=>US (by rcases r with r|r<;>omega)⟩) (TW _ _) (λ_=>rfl)
  (Qw w1 w1.heap.size nb s.heap.size) (λ_ _ _=>False) (Qw.own (by omega) (by omega)) (λ_ _ _ _ _ h _ _=>h.elim) HI.o
  (λx=>{ tmps:=#[Z6 (ZW ⟨ar,0,ZX⟩),ZY,Z5 ZX 0 0,Z1 ZU,Z6 (ZW ⟨w1.heap.size+1,0,ZX⟩),Z6 (ZW ⟨w1.heap.size+1+1,0,ZX⟩),Z7 Z9 (x:Nat),Z6 (ZW ⟨ar,0,ZX⟩),Z6 (ZW ⟨ar,0,ZX⟩),Z6 (ZW ⟨ar,0,ZX⟩),Z6 (ZW ⟨v,0,ZX⟩),Z7 Z9 (nb:Nat),Z5 (ZW ⟨w1.heap.size,0,ZX⟩) nb nb,Z6 (ZW ⟨ar,0,ZX⟩),.func (.func 122) #[] #[Z6 (ZW ⟨d.heap.size,0,ZX⟩)],Z7 Z9 (x:Nat),ZY,ZY,ZY,ZY,ZY,ZY,ZY,ZY,ZY,ZY,ZY,ZY,ZY,ZY,ZY,ZY,ZY,ZY,ZY],defers:=[] }) ?assign ?body ?done ?stop
 case assign=>
  intro l2 x X Kk hK;unfold nu;gi_wp2;exact hK
 case body=>
  rintro l2 pre x X a k9;have c1:=a.box.cell;have c2:=a.ok.cell;have f2:=a.ok.frozen;have E:=ak a;have h1:tk nb (pre++[x])=((tk nb pre).1,ZU)->KeepsFrom s.heap.size X (X.setCell ⟨w1.heap.size+1+1,0,ZX⟩ (Z1 ZU))/\eu (λk=>k<w1.heap.size\/k=d.heap.size) X (X.setCell ⟨w1.heap.size+1+1,0,ZX⟩ (Z1 ZU))/\Qw w1 w1.heap.size nb s.heap.size (pre++[x]) (X.setCell ⟨w1.heap.size+1+1,0,ZX⟩ (Z1 ZU)):=λm=>by
   have a:=E.o;refine ⟨(V5 _ _ _).from _,⟨by simp [World.setCell],λk _ r=>Ud _ _ _ _ (by show k≠w1.heap.size+1+1;rcases r with r|r<;>omega)⟩,?_,?_,?_,?_,?_⟩
   . rw [m];exact a.row.of_block (Ud _ _ _ _ (by show w1.heap.size≠w1.heap.size+1+1;omega))
   . exact (Ud _ _ _ _ (by show w1.heap.size+1≠w1.heap.size+1+1;omega)).trans a.box
   . rw [m];exact a.ok.set _
   . exact a.below.setCell (p:=⟨w1.heap.size+1+1,0,ZX⟩) (by show w1.heap.size<=w1.heap.size+1+1;omega) _
   . simpa [World.setCell] using a.size
  have K:=ak h1;clear a h1;by_cases hv:x<2
  . have e1:(x:Int)<2:=(by omega);have m:tk nb (pre++[x])=((tk nb pre).1,ZU):=(by rw [sn];unfold jt;rw [TT (.inl hv)]);have z:=ak m;clear m;gi_wp2;exact K.o z.o
  . have e1:¬ (x:Int)<2:=(by omega);by_cases hy:nb<=x
    . have e2:(x:Int)≥(nb:Int):=(by omega);have m:tk nb (pre++[x])=((tk nb pre).1,ZU):=(by rw [sn];unfold jt;rw [TT (.inr (.inl hy))]);have z:=ak m;clear m;gi_wp2;exact K.o z.o
    . have e2:¬ (x:Int)≥(nb:Int):=(by omega);have kc:x<nb:=(by omega);have c3:=E.o.row.cell (i:=x) kc;have f3:=E.o.row.frozen x;cases h9:(tk nb pre).1 x with
      | true=>
       rw [h9] at c3;have m:tk nb (pre++[x])=((tk nb pre).1,ZU):=(by rw [sn];unfold jt;rw [TT (.inr (.inr h9))]);have z:=ak m;clear m;gi_wp2;exact K.o z.o
      | false=>
       rw [h9] at c3;have m:tk nb (pre++[x])=(λj=>if j=x then ZV else (tk nb pre).1 j,(tk nb pre).2):=by
        rw [sn];unfold jt;rw [TS];rintro (q|q|q)
        . exact hv q
        . exact hy q
        . rw [h9] at q;cases q
       have z:=ak m;clear m;gi_wp2;have m:=z.o;have a:=E.o;refine ⟨(V5 _ _ _).from _,⟨by simp [World.setCell],λk _ r=>Ud _ _ _ _ (by show k≠w1.heap.size;rcases r with r|r<;>omega)⟩,?_,?_,?_,?_,?_⟩
       . rw [m];refine (a.row.set x (Z1 ZV)).congr λj hj=>?_;by_cases e:j=x
         . simp [e]
         . simp [e]
       . exact (Ud _ _ _ _ (by show w1.heap.size+1≠w1.heap.size;omega)).trans a.box
       . rw [m];exact (Ud _ _ _ _ (by show w1.heap.size+1+1≠w1.heap.size;omega)).trans a.ok
       . exact a.below.setCell (p:=⟨w1.heap.size,x,ZX⟩) lR _
       . simpa [World.setCell] using a.size
 case done=>
  rintro D1 xs X k7 hz a hK;rw [hz] at a;have c1:=a.box.cell;have c2:=a.ok.cell;have E:=al a hK;clear a hK hz;obtain ⟨tb,R⟩:=nM ((tk nb (P++af os)).2);rw [R] at c2;have HT:=ak R;clear R;gi_wp2;gi_region
  gi_wp2;obtain ⟨a,hK⟩:=E.o;have hh:X.drew.heap[D1]?=ZW (.deferred (ZW [])):=hK;refine tN (t:=2) (u:=3) (x:=Z5 (ZW ⟨w1.heap.size,0,ZX⟩) nb nb) (y:=Z1 tb) results146 rfl rfl rfl hh ⟨w1.heap.size,by rw [HT.o],TV _,?_,?_⟩
  . exact a.row.of_block (US (w:=X.drew) (by omega))
  . exact Below.RR a.below.drew (by omega) (TX.1 hh).1 _
 case stop=>
  rintro D1 cc pre X k7 kb hx hK;exact hx.elim
end
section
attribute [local go_sem] Oper.semAt_some
def aY (T:Nat->Bool) (k:Nat):a8:=(YE k).filter (λj=>decide (2<=j) && !T j)
def pQ (T:Nat->Bool):aY T 2=[]:=by simp [aY,Vy]
theorem nv (T:Nat->Bool) (k:Nat):aY T (k+1)=aY T k++(if 2<=k/\T k=ZU then [k] else []):=by
 unfold aY;rw [Vy,Wr];congr 1;by_cases h:2<=k/\T k=ZU
 . rw [TT h];simp [h.1,h.2]
 . rw [TS h];by_cases a:2<=k
   . have:T k=ZV:=by cases q:T k<;>simp_all
     simp [this]
   . simp [a]
def kI (T:Nat->Bool) {k m:Nat} (h:k<=m):aY T k<+:aY T m:=by
 induction m with
 | zero=>rw [show k=0 by omega];exact YI _
 | succ m ih=>
  by_cases e:k=m+1
  . rw [e];exact YI _
  . rw [nv];exact (ih (by omega)).trans (XW _ _)
theorem BO (ar:Nat) (w:ZT) :
 ZQ ZK 115 #[Z6 (ZW ⟨ar,0,ZX⟩)] w λe w'=>e=Z3 (.func (.func 145) #[] #[Z6 (ZW ⟨w.heap.size,0,ZX⟩)])/\w'=w.alloc (Z4 #[Z6 (ZW ⟨ar,0,ZX⟩)] 106):=by
 go_enter func115,ntmps115;go_wp2;go_ret;exact ⟨rfl,rfl⟩
def Pr (b0:Nat) (W W':ZT):Prop:=W.heap.size<=W'.heap.size/\∀ k o,b0<=k->W.heap[k]?=ZW o->o.isCells=ZV->W'.heap[k]?=ZW o
def Pr.trans {a b c:ZT} (h:Pr b0 a b) (k:Pr b0 b c):Pr b0 a c:=⟨TU h.1 k.1,λi o d f e=>k.2 i o d (h.2 i o d f e) e⟩
def Pr.row {W':ZT} (h:Pr b0 W W') {g n:Nat} {t:ZN} {f:Nat->ZS} (d:b0<=g) (b:W.rowIs g t n f):W'.rowIs g t n f:=by
 obtain ⟨c,a,_⟩:=id b;exact b.of_block ((h.2 g _ d a rfl).trans a.symm)
theorem K6 {A:aF} (Q:bf W ar v D' L' G' t f nn pg ob off) (V:bt W v p D L G ps ho) (h:aA W p A F) (Y:0<A.n) (P:a8) (os:List Ob) (S:bg (λk=>k<W.heap.size) W pg P) (R:eN (λk=>k<W.heap.size) W ob os)
 (n l b1 b0:Nat) (hp:b0<=W.heap.size) (J C:a8->ZT->Prop) (hc:∀ pre A B,J pre A->bW A B->J pre B)
 (u:∀ pre x W,J pre W->pre.length<(aY (tk A.nb (P++af os)).1 A.nb).length->YieldAt Fence.wide (n-1) ZK l (nu x) W λe q=>(e=Z3 (Z1 ZV)/\J (pre++[x]) q/\Pr b0 W q)\/(e=Z3 (Z1 ZU)/\C (pre++[x]) q))
 (h1:W.cell? ⟨b1,0,ZX⟩=ZW (Z6 (ZW ⟨ar,0,ZX⟩))) (E:J [] W) :
 CallsIn Fence.wide n ZK 145 #[.func (.yield l) #[] #[],Z6 (ZW ⟨b1,0,ZX⟩)] W λe q=>(∃ v,e=Z3 v) /\
  ((∃ Z,Z=aY (tk A.nb (P++af os)).1 A.nb/\J Z q)\/(∃ pre,pre<+:aY (tk A.nb (P++af os)).1 A.nb/\C pre q)):=by
 have r:=xO Q V h Y P os S R;have hi:=h.Sx.2;obtain ⟨nb,I⟩:=nM (A.nb);rw [I] at r hi u ⊢;obtain ⟨T,U⟩:=nM (tk nb (P++af os));rw [U] at r u ⊢;obtain ⟨a,tr⟩:=T;simp only at r u ⊢;clear I U Q V h Y S R;refine Xs func145 rfl trivial ?_ rfl;simp only [ntmps145,UH,UD,UW,YF,YG,Vj,Vk,Vl,Vm,Uo,UU];gi_wp2;refine cj r ?_;rintro e w1 ⟨g,rfl,hg,b,O⟩;have K:=hc _ _ _ E O;have z:=al b K;clear b O K r E h1;gi_wp2;gi_loopw [5] (λp wr=>∃ k:Nat,p=Z7 Z9 (k:Nat)/\2<=k/\(k<=nb\/k=2)/\J (aY a k) wr/\wr.rowIs g 4 nb (λj=>Z1 (a j)))
  (λp _=>nb-(intOf p).toNat)
 case atStart=>
  exact ⟨2,rfl,TV _,.inr rfl,by rw [pQ];exact z.o.2,z.o.1⟩
 case round=>
  obtain ⟨k,rfl,hf,w,d,b⟩:=hrel;by_cases hh:k<nb
  . have c1:=b.cell (i:=k) hh;cases hm:a k with
    | true=>
     rw [hm] at c1;have c:aY a (k+1)=aY a k:=(by rw [nv,TS (by rw [hm];simp),Wn]);rw [<- c] at d;have m:=al d b;clear d b c hm;gi_wp2;refine ⟨λ_ h=>(by cases h),?_⟩;gi_wp2;go_roundw
     case rel=>exact ⟨k+1,by go_num,by omega,.inl (by omega),m.o.1,m.o.2⟩
     case measure=>simp only [intOf];omega
    | false=>
     rw [hm] at c1;have c:aY a k++[k]=aY a (k+1):=(by rw [nv,TT ⟨hf,hm⟩]);have X:(aY a k).length<(aY a nb).length:=by
      have:=(kI a (show k+1<=nb by omega)).length_le;rw [<- c,T8] at this;simp at this;omega
     obtain ⟨fn,tmps,assign,body,hj,y⟩:=u _ k _ d X;unfold nu at hj;rw [c] at y;have m:=al b y;clear d b y c hm X;gi_wp2;refine ⟨λh=>(by cases h),m.o.2.mono ?_⟩;rintro e W3 (⟨rfl,M,N⟩|⟨rfl,H⟩)
     . have s:=al M (N.row (by omega) m.o.1);clear M N;gi_wp2;go_roundw
       case rel=>exact ⟨k+1,by go_num,by omega,.inl (by omega),s.o.1,s.o.2⟩
       case measure=>simp only [intOf];omega
     . have s:=ak H;clear H;gi_wp2;refine Ur (XK rfl _ _ _) rfl ?_;exact ⟨⟨_,rfl⟩,.inr ⟨_,kI a (show k+1<=nb by omega),s.o⟩⟩
  . have c:aY a k=aY a nb:=by
     rcases w with w|w
     . rw [show k=nb by omega]
     . subst w;rw [pQ];exact (List.prefix_nil.1 (by have:=kI a (show nb<=2 by omega);rwa [pQ] at this)).symm
    rw [c] at d;have m:=ak d;clear d c b;gi_wp2;go_end0
    exact ⟨⟨_,rfl⟩,.inl ⟨_,rfl,m.o⟩⟩
def Ev {A:aF} (x:bf w ar v D' L' G' t f nn pg ob off) (y:bt w v p D L G ps ho) (h:aA w p A F) (R:0<A.n) (P:a8) (os:List Ob) (M:bg (λk=>k<w.heap.size) w pg P) (I:eN (λk=>k<w.heap.size) w ob os)
 (n b1:Nat) (d:b1<w.heap.size) (E:w.cell? ⟨b1,0,ZX⟩=ZW (Z6 (ZW ⟨ar,0,ZX⟩))) :
 SeqStopsK Fence.wide n ZK 145 #[Z6 (ZW ⟨b1,0,ZX⟩)] nu (Pr w.heap.size) (λZ=>Z=aY (tk A.nb (P++af os)).1 A.nb) (λpre=>pre<+:aY (tk A.nb (P++af os)).1 A.nb) (aY (tk A.nb (P++af os)).1 A.nb).length w:=λl J z W a K _ N C=>by
 have u:∀ {v:ZS} {l:a8},bg (λk=>k<w.heap.size) W v l->bg (λk=>k<W.heap.size) W v l:=λ⟨ao,c,g,j,m⟩=>⟨ao,c,g,j,λhl=>by obtain ⟨b,off,o,q,s⟩:=m hl;exact ⟨b,off,o,TZ q a.size,s⟩⟩;have H:eN (λk=>k<W.heap.size) W ob os:=by
  obtain ⟨ao,c,g,j,m⟩:=I.keep (eu.RM a);refine ⟨ao,c,g,j,λhl=>?_⟩;obtain ⟨b,off,o,q,s,S⟩:=m hl;refine ⟨b,off,o,TZ q a.size,s,λi O=>?_⟩;obtain ⟨Y,T,U,V,X⟩:=S i O;exact ⟨Y,T,U,V,u X⟩
 exact K6 (x.keep (a.block _ x.lt)) (y.keep (a.block _ y.lt)) (h.below a lR) R P os (u (M.keep (eu.RM a))) H n l b1 w.heap.size a.size J z (λpre A B h d=>K pre A B ZX h ⟨d.os,d.tape,d.output,d.size,λk Q _=>d.block k Q⟩ (λr e=>by cases e)) N ((a.cell (p:=⟨b1,0,ZX⟩) d).trans E) C
end
section
attribute [local go_sem] Oper.semAt_some
def jU (l:a8):List ZS:=l.map λ(x:Nat)=>Value.int .i64 (x:Int)
def Tryz.Sk:(ZK.info? 3).map (λi=>(i.zero,i.size,i.bytes))=ZW (ZW (Z7 Z9 0),1,8):=by kernel_rfl
structure Qx (w:ZT) (q count B:Nat) (pre:a8) (X:ZT):Prop where
 cnt:ZM X w.heap.size 3 (Z7 Z9 (count:Nat))
 box:ZM X q 131 (Z5 (ZW ⟨w.heap.size+1,0,ZX⟩) pre.length count)
 own:X.ownsRow (w.heap.size+1) 3 1 (Z5 (ZW ⟨w.heap.size+1,0,ZX⟩) pre.length count) pre.length (jU pre)
 below:bW w X
 size:B<=X.heap.size
 le:pre.length<=count
def Qx.Td (l:w.heap.size+3<=B) (m:q<B):OwnFrom B (Qx w q count B):=by
 rintro pre X Y row ⟨f,g,h,d,i,j⟩ a c;have b:∀ k,k<B->Y.heap[k]?=X.heap[k]?:=λk b=>a.block k (by omega) (λe=>by have:=(c k e.symm).1;omega);exact ⟨(b _ (by omega)).trans f,(b _ (by omega)).trans g,lM h a λr e=>(c r e).2,d.grown a d.size (λk e=>by have:=(c k e).1;omega),TU i a.size,j⟩
def TaX (w:ZT) (q count B id:Nat) (c:Code) (pre':a8) (X:ZT):Prop:=c=.exit id/\∃ pre x,pre'=pre++[x]/\pre.length=count/\Qx w q count B pre X
def TaX.Td {id:Nat} (g:w.heap.size+3<=B) (i:q<B) (c:Code):OwnFrom B (TaX w q count B id c):=by
 rintro a X Y row ⟨b,pre,x,d,e,f⟩ h j;exact ⟨b,pre,x,d,e,Qx.Td g i pre X Y row f h j⟩
theorem lN {A:aF} (K:bf w ar v D' L' G' t f nn pg ob off) (M:bt w v p D L G ps ho) (h:aA w p A F) (hn:0<A.n) (P:a8) (os:List Ob) (Q:bg (λk=>k<w.heap.size) w pg P) (O:eN (λk=>k<w.heap.size) w ob os) (count:Nat) (k6:count<=1000000) :
 ZQ ZK 82 #[Z6 (ZW ⟨ar,0,ZX⟩),Z7 Z9 (count:Nat)] w λe w'=>∃ u,e=Z3 (ZZ #[u,Z1 (decide (count<=(aY (tk A.nb (P++af os)).1 A.nb).length))]) /\
  w'.ownsRow w.heap.size 3 1 u ((aY (tk A.nb (P++af os)).1 A.nb).take count).length (jU ((aY (tk A.nb (P++af os)).1 A.nb).take count))/\bW w w':=by
 obtain ⟨n,HN⟩:∃ n:Nat,cA (9<=n):=⟨9,TV _⟩;have H0:=a6 K M h Q O;clear K M h Q O;refine (Vc (n:=n)).1 ?_;refine Wf func82 rfl trivial ?_ rfl;simp only [ntmps82,UH,UD,UW,YF,YG,Vj,Vk,Vl,Vm,Uo,UU];obtain ⟨i0,kv,qg,q5,qh⟩:=Us Tryz.Sk;have hq:(w.alloc (Z4 #[Z7 Z9 (count:Int)] 3)).heap.size=w.heap.size+1:=by simp
 have kp:bW w (w.alloc (Z4 #[Z7 Z9 (count:Int)] 3)):=bA w _;have kk:ZM (w.alloc (Z4 #[Z7 Z9 (count:Int)] 3)) w.heap.size 3 (Z7 Z9 (count:Nat)):=Ut w _ _;have z:=aE hq kp kk;clear hq kp kk;gi_wp2_with (gi_at_make;refine wpListIn_make_own _ rfl (.const (Z7 Z9 0)) (Z0 8) 131 rfl (w.heap.size+1) 3 i0 (Z7 Z9 0) 1 abv kv qg q5 .i64 .i64 _ count (by rfl) (by rfl) rfl (by rw [qh];omega) (by unfold maxLen;omega) (by rw [z.o.1];exact TV _) ?_;intro w2 V hv)
 rw [z.o.1] at V;have ki:=hv.size;rw [z.o.1] at ki;have qi:w.heap.size+1<w2.heap.size:=(V.lt (w.heap.size+1) rfl).2;have hh:bW w w2:=z.o.2.1.grown hv (by rw [z.o.1];omega) (λk e=>by cases e);have h8:ZM w2 w.heap.size 3 (Z7 Z9 (count:Nat)):=(hv.block _ (by rw [z.o.1];omega) (by simp)).trans z.o.2.2;have h2:ZM (w2.alloc (Z4 #[Z5 (ZW ⟨w.heap.size+1,0,ZX⟩) 0 count] 131)) w2.heap.size 131 (Z5 (ZW ⟨w.heap.size+1,0,ZX⟩) 0 count):=Ut w2 _ _;have Y:bW w2 (w2.alloc (Z4 #[Z5 (ZW ⟨w.heap.size+1,0,ZX⟩) 0 count] 131)):=bA w2 _;have hx:(w2.alloc (Z4 #[Z5 (ZW ⟨w.heap.size+1,0,ZX⟩) 0 count] 131)).heap.size=w2.heap.size+1:=by simp
 obtain ⟨d,q0⟩:=nM (w2.alloc (Z4 #[Z5 (ZW ⟨w.heap.size+1,0,ZX⟩) 0 count] 131));rw [q0] at h2 Y hx ⊢;refine cj (BO ar d) ?_;rintro e w' ⟨rfl,rfl⟩;have h5:(d.alloc (Z4 #[Z6 (ZW ⟨ar,0,ZX⟩)] 106)).cell? ⟨d.heap.size,0,ZX⟩=ZW (Z6 (ZW ⟨ar,0,ZX⟩)):=(Ut d _ _).cell;have q6:(d.alloc (Z4 #[Z6 (ZW ⟨ar,0,ZX⟩)] 106)).heap.size=d.heap.size+1:=by simp
 have k0:bW d (d.alloc (Z4 #[Z6 (ZW ⟨ar,0,ZX⟩)] 106)):=bA d _;obtain ⟨g,S⟩:=nM (d.alloc (Z4 #[Z6 (ZW ⟨ar,0,ZX⟩)] 106));have U:bW w2 g:=by rw [<- S];exact Y.trans (k0.mono Y.size)
 have ha:bW w g:=hh.trans (U.mono (by omega));have kx:Qx w w2.heap.size count g.heap.size [] g:=⟨(U.block _ (by omega)).trans h8,by rw [<- S];exact (k0.block _ (by omega)).trans h2,ay V U,ha,TV _,T5 _⟩;have kz:g.heap.size=w2.heap.size+2:=by rw [<- S,q6,hx]
 have R:=a6 h5 kx ha hx kz;clear h5 kx q6 k0 U ha kz h2 Y hx V hv hh h8;gi_wp2;rw [S] at R;clear S q0;obtain ⟨qj,qk,qm,qn⟩:d.heap.size<=w2.heap.size+1/\w2.heap.size+1<=d.heap.size/\g.heap.size<=w2.heap.size+2/\w2.heap.size+2<=g.heap.size:=by have:=R.out.2.2.2;omega
 have C:=R.out.2.2.1;obtain ⟨K,M,h,Q,O⟩:=H0.o;have hz:∀ {v:ZS} {l:a8},bg (λk=>k<w.heap.size) g v l->bg (λk=>k<g.heap.size) g v l:=λ⟨ao,c,q1,q2,q3⟩=>⟨ao,c,q1,q2,λhl=>by obtain ⟨b,off,r1,r2,r3⟩:=q3 hl;exact ⟨b,off,r1,TZ r2 C.size,r3⟩⟩;have ko:=hz (Q.keep (eu.RM C));have km:eN (λk=>k<g.heap.size) g ob os:=by
  obtain ⟨ao,c,q1,q2,q3⟩:=O.keep (eu.RM C);refine ⟨ao,c,q1,q2,λhl=>?_⟩;obtain ⟨b,off,r1,r2,r3,r4⟩:=q3 hl;refine ⟨b,off,r1,TZ r2 C.size,r3,λi a=>?_⟩;obtain ⟨sv,s1,s2,s3,s4⟩:=r4 i a;exact ⟨sv,s1,s2,s3,hz s4⟩
 have ke:=Ev (K.keep (C.block _ K.lt)) (M.keep (C.block _ M.lt)) (h.below C lR) hn P os ko km (n-1) d.heap.size (by omega) R.out.1;obtain ⟨fr,k7⟩:=nM (aY (tk A.nb (P++af os)).1 A.nb);rw [k7] at ke;have kj:=ak k7;have q9:=ak ke;clear k7 ke ko km hz K M h Q O;refine Wg rfl (by have:=HN.o;omega) (gf:=145) (lb:=#[Z6 (ZW ⟨d.heap.size,0,ZX⟩)]) rfl trivial (Ve func145 (by kernel_rfl) rfl)
  q9.out (λh k=>h.trans k) (λW l o o' hl ho hc _=>⟨by simp [World.putObj],λk o2 _ m ks=>(US (λe=>by subst e;rw [m] at ho;cases ho;rw [hc] at ks;cases ks)).trans m⟩) (TW _ _) (λ_=>rfl)
  (Qx w w2.heap.size count g.heap.size) (TaX w w2.heap.size count g.heap.size 0) (Qx.Td (by omega) (by omega)) (TaX.Td (by omega) (by omega)) R.out.2.1
  (λx=>{ tmps:=#[Z6 (ZW ⟨ar,0,ZX⟩),Z7 Z9 (count:Nat),ZY,Z6 (ZW ⟨w.heap.size,0,ZX⟩),Z5 ZX 0 0,Z1 ZU,Z6 (ZW ⟨w2.heap.size,0,ZX⟩),Z7 Z9 (x:Nat),Z7 Z9 (count:Nat),Z5 (ZW ⟨w.heap.size+1,0,ZX⟩) 0 count,Z6 (ZW ⟨ar,0,ZX⟩),.func (.func 145) #[] #[Z6 (ZW ⟨d.heap.size,0,ZX⟩)],Z7 Z9 (x:Nat),ZY,ZY,ZY,ZY,ZY,ZY,ZY,ZY,ZY,ZY,ZY,ZY,ZY],defers:=[] }) ?assign ?body ?done ?stop
 case assign=>
  intro l2 x X Kk hK;unfold nu;gi_wp2;exact hK
 case body=>
  rintro l2 pre x X a qd;have c1:=a.cnt.cell;have I:=a.box.cell;have ka:=a.le;by_cases h3:pre.length=count
  . have e1:((pre.length:Nat):Int)=((count:Nat):Int):=(by omega);have B:=ak a;clear a;rw [h3] at I;gi_wp2;exact ⟨Yh _ _,rfl,pre,x,rfl,h3,B.o⟩
  . have e1:¬ ((pre.length:Nat):Int)=((count:Nat):Int):=(by omega);obtain ⟨pl,H⟩:=nM (pre.length);have HO:cA ((X.alloc (Z4 #[Z7 Z9 (x:Nat)] 3)).ownsRow (w.heap.size+1) 3 1 (Z5 (ZW ⟨w.heap.size+1,0,ZX⟩) pl count) pl (jU pre)):=ak (by have:=ay a.own ((TW _ X).alloc lR (Z4 #[Z7 Z9 (x:Nat)] 3));rwa [H] at this);have hj:∀ j u,[Value.int .i64 ((x:Nat):Int)][j]?=ZW u->(X.alloc (Z4 #[Z7 Z9 (x:Nat)] 3)).cell? ((⟨X.heap.size,0,ZX⟩:Addr).add j)=ZW u:=nV X (Z7 Z9 (x:Nat)) 3;have q8:=ak hj;have qf:w2.heap.size<X.heap.size:=(by have:=a.size;omega);have B:=al a H;rw [H] at I e1 ka;have kr:ZM X w2.heap.size 131 (Z5 (ZW ⟨w.heap.size+1,0,ZX⟩) pl count):=(by have:=a.box;rwa [H] at this);have q7:=ak kr;clear a hj kr h3 H;gi_wp2_with (
     gi_at_builtin;
     refine wpListIn_append_fits _ rfl (Z0 17) (Z0 19) 131 rfl (w.heap.size+1) 3 i0 1 abv kv q5 (w.heap.size+1) pl count (jU pre) (by rfl) (by exact HO.o) ⟨X.heap.size,0,ZX⟩ 1 1 [Z7 Z9 (x:Nat)] (by rfl) rfl (by exact q8.out) (λu hu=>by simp at hu;subst hu;rfl) (by omega) ?_;
     intro T hm J;
     have hy:ZM T w2.heap.size 131 (Z5 (ZW ⟨w.heap.size+1,0,ZX⟩) pl count):=(J.block _ (by simp;omega) (λe=>by have:=UJ e;omega)).trans ((UC _ _ _ qf).trans q7.out);
     have d0:=hy.cell;
     have f0:=hy.frozen)
    obtain ⟨a,H⟩:=B.o;have Z:∀ k,k<X.heap.size->k≠w.heap.size+1->T.heap[k]?=X.heap[k]?:=λk m qe=>(J.block k (by simp;omega) (λe=>qe (UJ e))).trans (UC _ _ _ m);have kf:=J.size;simp only [Uq] at kf;have k8:∀ k,k≠w2.heap.size->(T.setCell ⟨w2.heap.size,0,ZX⟩ (Z5 (ZW ⟨w.heap.size+1,0,ZX⟩) (pl+1) count)).heap[k]?=T.heap[k]?:=λk m=>Ud _ _ _ _ m;have h4:(pre++[x]).length=pl+1:=(by rw [T8,H];rfl);have k9:jU (pre++[x])=jU pre++[Z7 Z9 (x:Nat)]:=(by unfold jU;rw [Uv];rfl);refine ⟨⟨by simp [World.setCell];omega,λk o m ho _=>?_⟩,⟨by simp [World.setCell];omega,λk o m ho _=>?_⟩,?_,?_,?_,?_,?_,?_⟩
    . exact ((k8 k (by omega)).trans (Z k (TX.1 ho).1 (by omega))).trans ho
    . exact ((k8 k (by omega)).trans (Z k (TX.1 ho).1 (by omega))).trans ho
    . exact ((k8 _ (by omega)).trans (Z _ (by omega) (by omega))).trans a.cnt
    . rw [h4];exact hy.set _
    . rw [h4,k9];exact hm.kept (tL T w2.heap.size 0 _) (.inr λe=>by have q:w.heap.size+1=w2.heap.size:=UJ e;omega)
    . refine Xo (p:=⟨w2.heap.size,0,ZX⟩) ?_ (by show w.heap.size<=w2.heap.size;omega) _;exact ⟨J.os.trans a.below.os,J.tape.trans a.below.tape,J.output.trans a.below.output,by have:=a.below.size;omega,λk m=>(Z k (by have:=a.below.size;omega) (by omega)).trans (a.below.block k m)⟩
    . have:=a.size;simp [World.setCell];omega
    . rw [h4];omega
 case done=>
  rintro D1 xs X qa q4 a hK;have kh:xs=fr:=q4;subst kh;have c1:=a.cnt.cell;have I:=a.box.cell;have ka:=a.le;have B:=al a hK;clear a hK q4;obtain ⟨xl,N⟩:=nM (xs.length);rw [N] at I ka;have HL:=ak N;clear N;gi_wp2;gi_region
  gi_wp2;obtain ⟨a,hK⟩:=B.o;have N:=HL.o;have E:X.drew.heap[D1]?=ZW (.deferred (ZW [])):=hK;have kg:xs.take count=xs:=UI (by omega);have qb:decide (count<=xs.length)=(((xl:Nat):Int)==((count:Nat):Int)):=by
   by_cases e:xl=count
   . rw [UZ (by omega)];subst e;simp
   . rw [Vu (by omega)];have:¬ ((xl:Nat):Int)=((count:Nat):Int):=by omega
     simp [this]
  rw [kj.out,kg,qb];refine tN (t:=4) (u:=5) (x:=Z5 (ZW ⟨w.heap.size+1,0,ZX⟩) xl count) (y:=Z1 (((xl:Nat):Int)==((count:Nat):Int))) results82 rfl rfl rfl E ⟨_,rfl,?_,?_⟩
  . have ho:=a.own;rw [N] at ho;have kb:X.drew.ownsRow (w.heap.size+1) 3 1 (Z5 (ZW ⟨w.heap.size+1,0,ZX⟩) xl count) xl (jU xs):=ay ho ((TW _ X).drew);rw [N];exact cY (lM kb (Xe X.drew D1 (.deferred ZX)) λr e=>by cases e;exact ⟨_,E,rfl⟩) (by omega)
  . exact Below.RR a.below.drew (by omega) (TX.1 E).1 _
 case stop=>
  rintro D1 cc pre X qa kc ⟨rfl,s,x,rfl,k5,a⟩ hK;have c1:=a.cnt.cell;have I:=a.box.cell;have B:=al a hK;rw [k5] at I;clear a hK;gi_wp2;gi_region
  gi_wp2;obtain ⟨a,hK⟩:=B.o;have E:X.drew.heap[D1]?=ZW (.deferred (ZW [])):=hK;obtain ⟨rr,ky⟩:=kc;have kg:fr.take count=s:=by rw [<- ky,Uz,VV (by omega),UI (by omega)]
  have qc:count<=fr.length:=by rw [<- ky];simp;omega
  rw [kj.out,kg,UZ qc];refine tN (t:=4) (u:=5) (x:=Z5 (ZW ⟨w.heap.size+1,0,ZX⟩) count count) (y:=Z1 ZV) results82 rfl rfl rfl E ⟨_,rfl,?_,?_⟩
  . have ho:=a.own;rw [k5] at ho;have kb:X.drew.ownsRow (w.heap.size+1) 3 1 (Z5 (ZW ⟨w.heap.size+1,0,ZX⟩) count count) count (jU s):=ay ho ((TW _ X).drew);rw [k5];exact cY (lM kb (Xe X.drew D1 (.deferred ZX)) λr e=>by cases e;exact ⟨_,E,rfl⟩) (by omega)
  . exact Below.RR a.below.drew (by omega) (TX.1 E).1 _
end
theorem kJ (h:bt w v p D L G ps ho) (a:zB D L G):ZQ ZK 121 #[Z6 (ZW ⟨v,0,ZX⟩)] w λe w'=>e=Z3 (Z7 Z8 ((2^(D+L+G)-1:Nat):Int))/\bW w w':=by
 obtain ⟨_,c1,k,l,_⟩:=h.cells;have r:=a.d;have u:=a.l4;have t:=a.g;have n:=a.s;clear a;obtain ⟨m,i⟩:=nM (D+L+G);obtain ⟨q,b⟩:=nM (((2^m-1:Nat):Int));rw [i,b];have f:=ak b;clear b;go_enter func121,ntmps121;go_wp2_with fail;refine (dL (D:Int) (L:Int) (G:Int) w ⟨by omega,by omega⟩ ⟨by omega,by omega⟩ ⟨by omega,by omega⟩).mono ?_;rintro e j ⟨rfl,c⟩;rw [show ((D:Int)+(L:Int)+(G:Int))=(m:Int) by omega];have H:=ak c;clear c;go_wp2_with fail;refine (mu m (by omega) j).mono ?_;rw [f.o];rintro e x ⟨rfl,rfl⟩;go_wp2;go_ret;exact ⟨rfl,H.o⟩
def Tryz.SR:(ZK.info? 223).map (λi=>(i.zero,i.size,i.bytes))=ZW (ZW .nilIface,1,16):=by kernel_rfl
def wh (w:ZT) {ops:Array ZO} {rest:List ZO} {o:ZO} {a:Act} {Q:Exit->Act->ZT->Prop}
 (h:o.guard=ZX) (l c:ZL) (e:o.op=Op.makeSlice 183 l c) (C:Int) (n:Nat) (hl:a.eval l=Z7 Z9 C) (g:a.eval c=Z7 Z9 C) (f:C=(n:Int)) (i:n<=1000000)
 (hK:∀ w',w'.rowIs w.heap.size 223 n (λ_=>.nilIface)->bW w w'->w'.heap.size=w.heap.size+1->wpList ZK ops Q rest (a.put o.dst (Z5 (ZW ⟨w.heap.size,0,ZX⟩) n n)) w') :
 wpList ZK ops Q (o::rest) a w:=by
 refine VZ h λK d=>?_;have b:=XY (P:=ZK) 183 223 .nilIface 16 underlying183 Tryz.SR rfl .i64 .i64 n (by omega) (by omega) w;subst f;unfold Oper.wp;simp [execOp,e,hl,g,b,Result.andThen];exact d _ _ (hK _ (XA w _ n _) (bA _ _) (Uh _ _))
def iK (r:bw):∃ a x,cZ r=.iface a x:=by cases r<;>exact ⟨_,_,rfl⟩
def gD:Option bw->ZS
 | some r=>cZ r
 | none=>.nilIface
def K7 (A:aF) (b k i:Nat):ZS:=if i<k then gD (A.R9 i b) else .nilIface
def Qy {A:aF} {r:bw} (h:A.R9 k b=ZW r) (i:Nat):(if i=k then cZ r else K7 A b k i)=K7 A b (k+1) i:=by
 unfold K7;by_cases e:i=k
 . rw [TT e,TT (by omega),e,h];rfl
 . rw [TS e];by_cases a:i<k
   . rw [TT a,TT (by omega)]
   . rw [TS a,TS (by omega)]
def Qz {A:aF} (h:A.R9 k b=ZX) (i:Nat):K7 A b k i=K7 A b (k+1) i:=by
 unfold K7;by_cases e:i=k
 . rw [TS (by omega),TT (by omega),e,h];rfl
 . by_cases a:i<k
   . rw [TT a,TT (by omega)]
   . rw [TS a,TS (by omega)]
def aa4 (w1:ZT) (g p N b:Nat) (A:aF) (F:aQ) (i:ZS) (wr:ZT):Prop:=∃ k:Nat,k<=N/\i=Z7 Z9 k/\aA wr p A F/\aa (λj=>j=g\/F.S j) w1 wr/\wr.rowIs g 223 N (K7 A b k)
def NX (w:ZT) (p b:Nat) (A:aF) (F:aQ) (e:ZP) (w':ZT):Prop:=∃ g,e=Z3 (Z5 (ZW ⟨g,0,ZX⟩) A.n A.n)/\w.heap.size<=g/\w'.rowIs g 223 A.n (λi=>gD (A.R9 i b))/\aA w' p A F/\aa (F.S) w w'
theorem iL {A:aF} (c:pH w v p D L G ps ho A F) (b:Nat) (hb:b<A.nb) :
 ZQ ZK 91 #[Z6 (ZW ⟨v,0,ZX⟩),Z7 Z9 b] w λe w'=>NX w p b A F e w':=by
 obtain ⟨_,c1,Z,c3,_⟩:=c.vol.cells;have hn:=c.n;have hD:=c.par.d;have hL:=c.par.l4;have hG:=c.par.g;have O:((D:Int)+(L:Int)+(G:Int))=((A.n:Nat):Int):=by omega
 have k0:A.n<=1000:=by omega
 go_enter func91,ntmps91;go_wp2_with fail;refine (dL (D:Int) (L:Int) (G:Int) w ⟨by omega,by omega⟩ ⟨by omega,by omega⟩ ⟨by omega,by omega⟩).mono ?_;rintro e f ⟨rfl,T⟩;rw [O];clear O hn;simp only [];go_wp2_with (at_make;refine wh _ rfl (Z0 13) (Z0 13) rfl _ A.n rfl rfl rfl (by omega) ?_;intro I K U k5);have u:bW w f:=T;have V:bW w I:=u.trans (U.mono u.size);have hr:w.heap.size<=f.heap.size:=u.size;have X:¬ F.S f.heap.size:=λq=>by have:=c.arr.RO q;omega
 have h:=c.below V lR;have hs:v≠f.heap.size:=λe=>by have:=c.vol.lt;omega
 have hq:2≠f.heap.size:=λe=>by have:=c.laid.lt;omega
 have M:=h.arr;have Q:I.rowIs f.heap.size 223 A.n (K7 A b 0):=K.congr λi C=>by unfold K7;rw [TS (by omega)]
 clear K T u U c c1 Z c3;go_loopw [17] (λi wr=>aa4 I f.heap.size p A.n b A F i wr) (λi _=>A.n-(intOf i).toNat)
 case atStart=>exact ⟨0,T5 _,rfl,M,aa.refl _ _,Q⟩
 case round=>
  clear M Q;obtain ⟨k,hk,rfl,z,m,B⟩:=hrel;by_cases Y:k<A.n
  . have R:bt wr v p D L G ps ho:=h.vol.keep (m.block _ h.vol.lt (λq=>q.elim hs h.v));have N:bh wr:=h.laid.keep (m.block _ h.laid.lt (λq=>q.elim hq h.g));have J:=qX R z k b Y hb N h.g;have H:=aE m B J;clear R N J z m B;go_wp2_with fail;refine H.o.2.2.mono ?_;rintro e w7 ⟨y,s,hy⟩;have l:w7.rowIs f.heap.size 223 A.n (K7 A b k):=H.o.2.1.of_block (s.block f.heap.size H.o.2.1.lt X);rcases hy with ⟨r,t,rfl⟩|⟨t,q,rfl,-⟩
    . have cS:=l.cell (i:=k) Y;have fS:=l.frozen k;obtain ⟨ty,x,E⟩:=iK r;rw [E];have hz:((k:Nat):Int).toNat=k:=(by omega);have a:=a6 y (H.o.1.trans (s.mono λ_ _ q=>.inr q)) l t E;clear y s H l t E;go_wp2;refine ⟨⟨k+1,by omega,by go_num,a.o.1.keep λj W=>Ud _ _ _ _ (λe=>X (by have e':j=f.heap.size:=e;rwa [e'] at W)),a.o.2.1.trans (aa.setCell _ _ _ (.inl rfl)),(a.o.2.2.1.set k _).congr λi C=>?_⟩,by simp [intOf];omega⟩;rw [<- a.o.2.2.2.2];exact Qy a.o.2.2.2.1 i
    . unfold Bh;have a:=a5 y (H.o.1.trans (s.mono λ_ _ q=>.inr q)) l t;clear y s H l t;go_wp2;exact ⟨⟨k+1,by omega,by go_num,a.o.1,a.o.2.1,a.o.2.2.1.congr λi _=>Qz a.o.2.2.2 i⟩,by simp [intOf];omega⟩
  . have hv:k=A.n:=(by omega);subst hv;have P:aa F.S w wr:=(aa.RN V _).later m λj W q=>q.elim (λe=>by omega) id;have H:=aE z P B;clear z m P B;go_wp2;go_ret;exact ⟨_,rfl,hr,H.o.2.2.congr λi C=>(by unfold K7;rw [TT C]),H.o.1,H.o.2.1⟩
theorem wt (h ao:Option Addr) (cap a c:Nat) (w:ZT) (n:c<256) :
 ZQ ZK 176 #[.slice h 0 cap,.slice ao 0 a,Z7 .u8 c] w λe w'=>e=Z3 (ZZ #[])/\bW w w':=by
 by_cases d:c=0
 . subst d;go_enter func176,ntmps176;go_wp2;exact Ur (v:=ZZ #[]) (by simp [results,results176]) rfl ⟨rfl,TW _ _⟩
 . have p:((c:Int)==0)=ZU:=(by rw [beq_eq_false_iff_ne];omega);clear d;go_enter func176,ntmps176;go_wp2_with fail;refine (lE c n _).mono ?_;rintro e w1 ⟨cs,rfl,m,f,b⟩;have l:=b.size;go_wp2_with (refine nt _ rfl (Z0 6) (Z0 11) rfl w1.heap.size c cs _ rfl rfl (UE w1 _) rfl m f ?_;intro w2 i g);have j:bW w w2:=by
    refine (b.trans ((TW _ _).alloc l _)).grown g (by rw [Uh];omega) (λk o=>by simp at o;omega)
   clear g i f b;refine VC 1 ?_;rw [U5];go_wp2;go_end0
   exact ⟨rfl,j⟩
def zL (b ao:Option Addr) (n m cap a c:Nat) (w:ZT) (g:n=0) (f:m=0) (d:c<256) :
 ZQ ZK 176 #[.slice b n cap,.slice ao m a,Z7 .u8 c] w λe w'=>e=Z3 (ZZ #[])/\bW w w':=by
 subst g f;exact wt b ao cap a c w d
def NY (row:a8) (D:List a8):Nat->Nat->Nat
 | 0,_=>0
 | t+1,k=>NY row D t k^^^gm (row.getD t 0) ((D.getD t []).getD k 0)
def cK (row:a8) (D:List a8) (n t:Nat):a8:=(YE n).map (NY row D t)
def fV (row:a8) (D:List a8) (n t:Nat):(cK row D n t).length=n:=by simp [cK]
theorem BP (row:a8) (D:List a8) (n:Nat):cK row D n 0=YM n 0:=by
 unfold cK;apply Vb
 . simp
 . intro j a b;simp [NY]
def QA (row:a8) (D:List a8) (a:∀ x∈row,x<256) (t k:Nat):NY row D t k<256:=by
 induction t with
 | zero=>exact (by decide:(0:Nat)<256)
 | succ t ih=>exact rJ ih (bx _ (dw a t))
def pR (row:a8) (D:List a8) (a:∀ x∈row,x<256) (n t:Nat):∀ x∈cK row D n t,x<256:=by
 intro x b;obtain ⟨k,_,rfl⟩:=T7.1 b;exact QA row D a t k
def tP (row:a8) (D:List a8) (n t k:Nat) (a:k<n):(cK row D n t).getD k 0=NY row D t k:=by simp [cK,a]
def BQ (row:a8) (D:List a8) (n t j:Nat) (a:j<n) :
 tv (gS (λi=>(cK row D n t).getD i 0) (λi=>(D.getD t []).getD i 0) (row.getD t 0) 0 n) j=vb (cK row D n (t+1)) j:=by
 unfold tv vb gS;rw [TT (by omega),tP _ _ _ _ _ a];show Value.int .u8 (((cK row D n t).getD j 0^^^gm (row.getD t 0) ((D.getD t []).getD (j-0) 0):Nat):Int)=_;rw [tP _ _ _ _ _ a,Yx];rfl
def CbR (w:ZT) (row:a8) (D:List a8) (n:Nat) (i:ZS) (wr:ZT):Prop:=
 ∃ t:Nat,t<=row.length/\i=Z7 Z9 t/\aI wr w.heap.size (cK row D n t)/\bW w wr
theorem BR (vr vd:ZS) (row:a8) (D:List a8) (n:Nat) (w:ZT) (V:Bs w vr row) (hd:Rd w vd D) (hn:n<=4096) (y:∀ i (U:i<D.length),(D[i]).length=n) (r:row.length=D.length) (A:0<D.length) :
 ZQ ZK 187 #[vr,vd] w λe w'=>∃ b,e=Z3 (Z5 (ZW ⟨b,0,ZX⟩) n n)/\w.heap.size<=b/\aI w' b (cK row D n D.length)/\bW w w':=by
 have kc:=V.lt;obtain ⟨ao,cr,rfl,h1,h2,_,O⟩:=V;obtain ⟨rb,h,rfl,kb⟩:=O (by intro e;rw [e] at r;simp at r;omega);rcases hd.cases with ⟨rfl,_⟩|⟨b,off,c,rfl,hl,B⟩
 . simp at A
 obtain ⟨u0,G,kf⟩:=B 0 A;obtain ⟨km,c0,rfl,l1,l2,_,_⟩:=kf;have f:=y 0 A;rw [f] at G;have HR:=ak kb;have HC:=ak B;have J:=ak y;have P:=ak r;clear kb B y r h1 h2 O f l1 l2;rw [VR] at G;go_enter func187,ntmps187;go_wp2_with (at_make;refine cQ _ rfl (Z0 11) (Z0 11) rfl _ n rfl rfl rfl (by omega) ?_;intro w1 z Q hz;clear hz);rw [<- BP row D n] at z;clear G;go_loopw [15] (λi wr=>CbR w row D n i wr) (λi _=>row.length-(intOf i).toNat)
 case atStart=>exact ⟨0,T5 _,rfl,z,Q⟩
 case round=>
  clear z Q;rename ZT=>wo;obtain ⟨t,ht,rfl,d,g⟩:=hrel;have kk:=d.lt;by_cases k9:t<row.length
  . have s:t<D.length:=(by rw [<- P.out];exact k9);have c1:=HR.o t k9;have ko:wo.cell? ⟨rb,h+t,ZX⟩=ZW (Z7 .u8 ((row.getD t 0:Nat):Int)):=(by rw [g.cell (Ub c1)];exact c1);obtain ⟨u,H,kg⟩:=HC.o t s;obtain ⟨fo,N,rfl,q1,q2,q3,I⟩:=kg;have kj:wo.cell? ⟨b,off+t,ZX⟩=ZW (.slice fo (D[t]).length N):=(by rw [g.cell (Ub H)];exact H);rw [J.o t s] at kj;have k5:=dw kc t;have k7:D.getD t []=D[t]:=(by simp [s]);have q:=BQ row D n t;rw [k7] at q;have Z:=J.o t s;have k:=ak Z;generalize D[t]=l at *;generalize ki:row.getD t 0=x at *;clear c1 H k7 ki Z;by_cases f:n=0
    . have R:aI wo w.heap.size (cK row D n (t+1)):=(by rw [f] at d ⊢;exact d);have L:=ak f;clear q I d f;go_wp2_with fail;refine (zL _ _ _ _ _ _ x _ L.o L.o k5).mono ?_;rintro e w2 ⟨rfl,E⟩;have C:=R.below E;have F:=g.trans (E.mono (by omega));clear R E;go_wp2;go_roundw
      case rel=>exact ⟨t+1,by omega,by go_num,C,F⟩
      case measure=>simp [intOf];omega
    . obtain ⟨m,a,rfl,v⟩:=I (by intro e;rw [e] at k;exact f k.o.symm);rw [k.o] at v;have kh:m<w.heap.size:=Ub (v 0 (by omega));have S:∀ i,i<n->wo.cell? ⟨m,a+i,ZX⟩=ZW (Z7 .u8 ((l.getD i 0:Nat):Int)):=λi U=>by
       rw [g.cell (p:=⟨m,a+i,ZX⟩) kh];exact v i U
      have T:wo.rowIs w.heap.size 5 n (tv (λi=>(cK row D n t).getD i 0)):=by
       have:=d;unfold aI at this;rw [fV] at this;exact this
      have M:=ak q;have K:=ak S;have Y:=ak T;have k8:=λj=>dw (pR row D kc n t) j;have k0:=λj=>dw q3 j;have X:=ak k8;have W:=ak k0;clear q v S T d I k8 k0 k;go_wp2_with fail;refine (jm w.heap.size 5 n 0 n n m a N x (λi=>(cK row D n t).getD i 0) (λi=>l.getD i 0) wo k5 Y.out X.out W.out (by omega) (by omega) K.o (.inl (by omega))).mono ?_;rintro e w2 ⟨rfl,ka,k6⟩;have C:aI w2 w.heap.size (cK row D n (t+1)):=by
       unfold aI;rw [fV];exact ka.congr (λj hj=>M.o j hj)
      have F:=gx g k6 (by omega) lR;clear ka k6 M K Y X W;go_wp2;go_roundw
      case rel=>exact ⟨t+1,by omega,by go_num,C,F⟩
      case measure=>simp [intOf];omega
  . have ke:t=D.length:=(by rw [<- P.out];omega);rw [ke] at d;clear ke;go_wp2;go_ret;exact ⟨w.heap.size,rfl,TV _,d,g⟩
section
open Go.ChangeShapes Go.WideShapes
def Tryz.own:ownKnob ZK.godebug=ZX:=by kernel_rfl
def Tryz.et:ZK.globalNamed "errors.errorType"=ZW 0:=by kernel_rfl
def Tryz.rt:(ZK.cutTypes.find? (λx=>x.1 == "internal/reflectlite.rtype")).map (λx=>x.2)=ZW 155:=by kernel_rfl
def Tryz.oneRow:((YE 373).filter λt=>ZK.rowNamed t [101,114,114,111,114])=[63]:=by kernel_rfl
def Tryz.size:ZK.types.size=373:=by kernel_rfl
def bN (w:ZT):Prop:=w.cell? ⟨0,0,ZX⟩=ZW (.iface 155 (.agg #[Z6 (ZW ⟨3,63,ZX⟩)]))
def tQ (h:laidMetH ZK [("errors.errorType",Rows.laid_errors_errorType)] W):bN W:=by
 have i:laidMet ZK [] W/\handlesMet ZK [("errors.errorType",Rows.laid_errors_errorType)] W:=h;obtain ⟨name,u,k,c,d,e,f,a⟩:=i.2 _ (Vp.2 rfl);have g:name=[101,114,114,111,114]:=(UJ c).symm;subst g;obtain rfl:=UJ (Tryz.rt.symm.trans d);have b:k∈(YE 373).filter λt=>ZK.rowNamed t [101,114,114,111,114]:=Vt.2 ⟨Uu.2 (by rw [<- Tryz.size];exact e),f⟩;rw [Tryz.oneRow] at b;obtain rfl:=Vp.1 b;have j:typeHandle ZK 63=Z6 (ZW ⟨3,63,ZX⟩):=by kernel_rfl
 rw [j] at a;unfold bN;simpa using World.var?_cell Tryz.et a 0
end
def fm (M:List a8) (D:List a8) (n:Nat):List a8:=M.map λrow=>cK row D n D.length
def m3 (w:ZT) {ops:Array ZO} {rest:List ZO} {o:ZO} {a:Act} {Q:Exit->Act->ZT->Prop}
 (h:o.guard=ZX) (l c:ZL) (e:o.op=Op.makeSlice 85 l c) (C:Int) (n:Nat) (hl:a.eval l=Z7 Z9 C) (g:a.eval c=Z7 Z9 C) (f:C=(n:Int)) (i:n<=1000000)
 (hK:∀ w',w'.rowIs w.heap.size 39 n (λ_=>Z5 ZX 0 0)->bW w w'->w'.heap.size=w.heap.size+1->wpList ZK ops Q rest (a.put o.dst (Z5 (ZW ⟨w.heap.size,0,ZX⟩) n n)) w') :
 wpList ZK ops Q (o::rest) a w:=by
 refine VZ h λK d=>?_;have b:=XY (P:=ZK) 85 39 (Z5 ZX 0 0) 24 VQ Tryz.RV rfl .i64 .i64 n (by omega) (by omega) w;subst f;unfold Oper.wp;simp [execOp,e,hl,g,b,Result.andThen];exact d _ _ (hK _ (XA w _ n _) (bA _ _) (Uh _ _))
def shv (T:List (Nat×Nat×a8)) (i:Nat):ZS:=if i<T.length then fP (T.getD i (0,0,[])) else Z5 ZX 0 0
structure oH (w:ZT) (base g N:Nat) (T:List (Nat×Nat×a8)):Prop where
 tab:w.rowIs g 39 N (shv T)
 row:∀ p∈T,base<=p.1/\aI w p.1 p.2.2/\p.2.1<=p.2.2.length/\(p.2.1<=140737488355328/\p.2.2.length<=9223372036854775807)/\∀ x∈p.2.2,x<256
 nodup:(T.map (λp=>p.1)).Nodup
def oH.below (h:oH w base g N T) (d:bW w w'):oH w' base g N T:=
 ⟨h.tab.of_block (d.block g h.tab.lt),λp e=>by obtain ⟨a,b,c⟩:=h.row p e;exact ⟨a,b.below d,c⟩,h.nodup⟩
theorem oH.push (h:oH w base g N T) (A:base<=b) (s:aI w b l) (B:n<=l.length) (hl:l.length<=140737488355328) (j:∀ x∈l,x<256) (v:∀ p∈T,p.1≠b) :
 oH (w.setCell ⟨g,T.length,ZX⟩ (Z5 (ZW ⟨b,0,ZX⟩) n l.length)) base g N (T++[(b,n,l)]):=by
 have r:∀ c m,aI w c m->c≠g:=by
  intro c m f e;obtain ⟨x,j,_⟩:=f;obtain ⟨y,D,_⟩:=h.tab;rw [e,D] at j;simp at j
 refine ⟨?_,λp d=>?_,?_⟩
 . refine (h.tab.set T.length (Z5 (ZW ⟨b,0,ZX⟩) n l.length)).congr λi E=>?_;unfold shv;by_cases e:i=T.length
   . subst e;simp [fP]
   . rw [TS e];by_cases k:i<T.length
     . rw [TT k,TT (by simp;omega)];simp [VD k]
     . rw [TS k,TS (by simp;omega)]
 . rcases Uj.1 d with d|d
   . obtain ⟨t,o,u⟩:=h.row p d;exact ⟨t,o.other (r _ _ o) _,u⟩
   . simp at d;subst d;exact ⟨A,s.other (r _ _ s) _,B,⟨by show n<=140737488355328;omega,by show l.length<=9223372036854775807;omega⟩,j⟩
 . rw [Uv,U9];refine ⟨h.nodup,by simp,?_⟩;intro a z c f;obtain ⟨q,C,rfl⟩:=T7.1 z;simp at f;subst f;exact v q C
theorem oH.done (h:oH w base g N T) (d:N=T.length) (f:base<=g) (j:N<=maxLen):ez w base (Z5 (ZW ⟨g,0,ZX⟩) N N) T:=by
 subst d;refine ⟨⟨by simp,.inr ?_⟩,h.row,h.nodup⟩;obtain ⟨c,e,l,k⟩:=h.tab;refine ⟨g,T.length,c,rfl,f,e,TV _,j,by omega,?_⟩;apply Vb
 . simp;omega
 . intro i b a;simp at b a;have:=k i a;rw [VM (by omega)] at this;simp at this;simp [this,shv,a]
def oH.lt (h:oH w base g N T):g<w.heap.size:=h.tab.lt
def EcR (w:ZT) (B g N n:Nat) (M D:List a8) (i:ZS) (wr:ZT):Prop:=
 ∃ k T,k<=N/\i=Z7 Z9 (k:Nat)/\oH wr B g N T/\cO T n (fm (M.take k) D n)/\ZR B w wr/\B<=wr.heap.size
def QB (w:ZT) (n:Nat) (M D:List a8) (x:ZS) (e:ZP) (w':ZT):Prop:=∃ v T,e=Z3 (ZZ #[v,x])/\ez w' w.heap.size v T/\cO T n (fm M D n)/\bW w w'
def cO.at (h:cO T D M) {i:Nat} (a:i<T.length) (b:i<M.length):T[i].2=(D,M[i]):=by
 have:=List.getElem_of_eq h (i:=i) (by simpa using a);simpa using this
def K8 (D L G:Nat):(aR D L G).length=D+L+G:=by simp [aR];omega
def K9 (D L G:Nat) {i:Nat} (b:i<(aR D L G).length):((aR D L G)[i]).length=D:=by
 have a:(aR D L G)[i]∈aR D L G:=TY b;unfold aR at a;rcases Uj.1 a with a|a
 . rcases Uj.1 a with a|a
   . obtain ⟨j,_,e⟩:=T7.1 a;unfold aR;rw [<- e];simp [dq]
   . obtain ⟨j,_,e⟩:=T7.1 a;unfold aR;rw [<- e];simp [dy]
 . obtain ⟨j,_,e⟩:=T7.1 a;unfold aR;rw [<- e];simp [dj]
def Ii (M D:List a8) (n k:Nat) (a:k<M.length):fm (M.take (k+1)) D n=fm (M.take k) D n++[cK M[k] D n D.length]:=by
 unfold fm;rw [Yw a,Uv];rfl
theorem Ew (D L G:Nat) (hr:de D L G=ZV) (qd:1<=D) (hD:D<=12) (hL:1<=L) (q0:L<=4) (hG:G<=4) (ka:D%L=0) (vd:ZS) (Dt:List a8) (w:ZT) (W:Rd w vd Dt) (B:Dt.length=D) (s:Fit Dt) :
 ZQ ZK 166 #[.agg #[Z7 Z9 D,Z7 Z9 L,Z7 Z9 G],vd] w λe w'=>QB w (Dt.getD 0 []).length (aR D L G) Dt .nilIface e w':=by
 have qf:(((Dt.length:Nat):Int) != (D:Int))=ZU:=by rw [B];simp
 have E:0<Dt.length:=by omega
 obtain ⟨ao,c,rfl,hl,q6⟩:=id W;have q9:(Dt.getD 0 []).length<=4096:=by
  have:=(s 0 E);have R:=this.2;rw [this.1] at R;exact R
 have Y:∀ i (j:i<Dt.length),(Dt[i]).length=(Dt.getD 0 []).length:=λi j=>(s i j).1;generalize hn:(Dt.getD 0 []).length=n at *;have hv:=ak Y;have HF:=ak s;have hy:=ak B;clear q6 hn Y s B;go_enter func166,ntmps166;go_wp2_with fail;refine (kA D L G hr hD hL q0 hG ka _).mono ?_;rintro e wa ⟨v,T,rfl,t,F,l⟩;try change ZR _ _ _ at t
 try change ZR _ _ _ at l
 rw [Uh] at t l;have qa:=l.size;try change ZR _ _ _ at qa
 rw [Uh] at qa;obtain ⟨p0,p1,p2⟩:=cT l;have q:bW w wa:=(bA _ _).trans (l.mono (by omega));have kk:=W.mono q;go_wp2_with fail;refine (KN _ Dt _ kk E).mono ?_;rintro e g ⟨r,rfl,kr,rfl⟩;obtain rfl:r=ZV:=kr.2 HF.o;obtain ⟨mo,hb,rfl,kp⟩:=t.slice;have h:=F.length;rw [K8] at h;obtain ⟨mg,rfl⟩:=kp (by intro e;rw [e] at h;simp at h;omega);have q2:T.length<=20:=by omega
 have qc:=ak h;clear h kp kr;go_wp2_with (at_make;refine m3 _ rfl (Z0 31) (Z0 31) rfl _ T.length rfl rfl rfl (by omega) ?_;intro wc X P hz;clear hz);have kf:oH wc g.heap.size g.heap.size T.length []:=⟨X.congr (λi _=>by simp [shv]),λp H=>by simp at H,by simp⟩;have ks:=P.size;generalize hM:aR D L G=M at *;have HM:cA (∀ i (j:i<M.length),(M[i]).length=D):=by intro i j;subst hM;exact K9 D L G j
 have Q:=ak F;have kx:=ak hM;clear X hM F p0 p1 p2;go_loopw [35] (λi wr=>EcR g g.heap.size g.heap.size T.length n M Dt i wr) (λi _=>T.length-(intOf i).toNat)
 case atStart=>exact ⟨0,[],T5 _,rfl,kf,rfl,P,ks⟩
 case round=>
  clear kf P ks;rename ZT=>wo;obtain ⟨k,S,hk,rfl,b,d,f,qb⟩:=hrel;have U:=Q.o.length;have y:=d.length;unfold fm at y;rw [T9,Un] at y;by_cases A:k<T.length
  . have C:k<M.length:=(by omega);have N:=t.below f;have km:=kk.mono f;have z:=N.Sj A;have a:=N.SZ A;have O:=Q.o.at A C;have K:=HM.o k C;obtain ⟨⟨rb,rn,rl⟩,kj⟩:∃ p,p=T[k]:=⟨_,rfl⟩;rw [<- kj] at z a O;simp only [fP,Xd] at z a O;obtain ⟨rfl,rfl⟩:=O;rw [UI (by omega)] at a;rw [K] at z a;have kh:S.length=k:=(by omega);have V:=Ii M Dt n k C;have kc:=ak V;have Z:=ak d;have ky:=ak kh;have I:=ak K;clear V d kh K U y kj;go_wp2_with fail;refine (BR _ _ M[k] Dt n wo (by rw [I.out] at *;exact a) km q9 hv.out (by rw [I.out,hy.out]) E).mono ?_;rintro e w2 ⟨b2,rfl,qe,ke,m⟩;have u:=b.below m;have q5:=u.tab.cell (i:=k) A;have q7:=u.tab.frozen k;have qh:=m.size;have qg:=b.lt;have kg:=u.push (n:=n) (by omega) ke (by rw [fV];omega) (by rw [fV];omega) (pR _ _ (λx hx=>a.lt x hx) _ _) (λp H=>by have:=(b.row p H).2.1.lt;omega);rw [fV,ky.out] at kg;have q3:=(f.trans (m.mono qb)).setCell (p:=⟨g.heap.size,k,ZX⟩) lR (Z5 (ZW ⟨b2,0,ZX⟩) n n);have J:=Z.out.push b2 (cK M[k] Dt n Dt.length);rw [<- kc.out] at J;have kv:=ak J;generalize shv S k=ov at *;clear b u ke m f a z N km J kc Z I;go_wp2;go_roundw
    case rel=>exact ⟨k+1,_,by omega,by go_num,kg,kv.out,q3,by rw [Yr];omega⟩
    case measure=>simp [intOf];omega
  . have q8:k=T.length:=(by omega);have ko:k=M.length:=(by omega);have kz:cO S n (fm M Dt n):=(by rw [ko,VE] at d;exact d);have ki:=b.done (by omega) lR (by unfold maxLen;omega);have q4:=q.trans (f.mono q.size);have q1:=ki.weaken (base':=w.heap.size) q.size;clear d b f ki q8 ko U y;go_wp2;go_ret2;exact ⟨_,S,rfl,q1,by rw [kx.out];exact kz,q4⟩
def QC (D:List a8) (w:ZT) (e:ZP) (w':ZT):Prop:=(rO D->e=Z3 (Z1 ZV))/\(¬ rO D->e=Z3 (Z1 ZU))/\w'=w
def FtR (D:List a8) (i:ZS):Prop:=∃ k:Nat,k<=D.length/\i=Z7 Z9 (k:Nat)/\∀ j (hj:j<D.length),j<k->(D[j]).length<=64
theorem BS (t:ZS) (D:List a8) (w:ZT) (m:Rd w t D) :
 ZQ ZK 163 #[t] w λe w'=>QC D w e w':=by
 by_cases F:64<D.length
 . obtain ⟨ao,c,rfl,hl,_⟩:=m;go_enter func163,ntmps163;go_wp2;go_ret;exact ⟨λh=>absurd h.1 (by omega),λ_=>rfl,rfl⟩
 rcases m.cases with ⟨rfl,ao,c,rfl⟩|⟨b,off,c,rfl,hl,l⟩
 . go_enter func163,ntmps163;go_wp2;refine VC 1 ?_;rw [U5];go_wp2;go_ret;exact ⟨λ_=>rfl,λh=>absurd ⟨by simp,λi d=>by simp at d⟩ h,rfl⟩
 have v:=ak l;clear l;go_enter func163,ntmps163;go_wp2;go_loop [10] (λi=>FtR D i) (λi=>D.length-(intOf i).toNat)
 case atStart=>exact ⟨0,T5 _,rfl,λj _ h=>absurd h (by omega)⟩
 case round=>
  obtain ⟨k,I,rfl,a⟩:=hrel;by_cases g:k<D.length
  . obtain ⟨u,J,A⟩:=v.o k g;obtain ⟨E,C,rfl,p,q,r,s⟩:=A;by_cases f:(D[k]).length<=64
    . have z:cA (∀ j (n:j<D.length),j<k+1->(D[j]).length<=64):=by
       intro j n G;by_cases e:j=k
       . subst e;exact f
       . exact a j n (by omega)
      clear a p q r s;generalize (D[k]).length=B at *;go_wp2;go_round
      case rel=>exact ⟨k+1,by omega,by go_num,z.out⟩
      case measure=>simp [intOf];omega
    . have y:cA (¬ rO D):=λh=>f (h.2 k g);have H:(D[k]).length<=140737488355328:=(by omega);clear a p q r s;generalize (D[k]).length=B at *;go_wp2;go_ret;exact ⟨λh=>absurd h y.o,λ_=>rfl,rfl⟩
  . have x:cA (rO D):=⟨by omega,λi d=>a i d (by omega)⟩;clear a;go_wp2;go_ret;exact ⟨λ_=>rfl,λh=>absurd x.o h,rfl⟩
def wk (G:Nat->Nat) (top c iv k x:Nat):Nat:=if top<x/64/\x/64<k/\c<=x%64 then G x^^^gm (gm (G (x/64*64+c)) iv) (G (top*64+x%64)) else G x
theorem La (G:Nat->Nat) (top c a:Nat):wk G top c a (top+1)=G:=by
 funext x;unfold wk;rw [TS (by omega)]
theorem Pt {G:Nat->Nat} (h:∀ x,G x<256) {iv:Nat} (top c k x:Nat):wk G top c iv k x<256:=by
 unfold wk;split
 . exact rJ (h x) (bx _ (bx _ (h _)))
 . exact h x
def QD (G:Nat->Nat) (top c a k j:Nat) (b:j<64):wk G top c a k (top*64+j)=G (top*64+j):=by
 unfold wk;rw [TS (by omega)]
def NZ (G:Nat->Nat) (top c a k j:Nat) (b:j<64):wk G top c a k (k*64+j)=G (k*64+j):=by
 unfold wk;rw [TS (by omega)]
theorem N0 (G:Nat->Nat) (top c a k:Nat) (g:top<k) (f:c<64):gS (wk G top c a k) (λi=>G (top*64+c+i)) (gm (G (k*64+c)) a) (k*64+c) (64-c)=wk G top c a (k+1):=by
 funext x;unfold gS;by_cases h:k*64+c<=x/\x<k*64+c+(64-c)
 . have d:x/64=k:=(by omega);have e:top*64+c+(x-(k*64+c))=top*64+x%64:=(by omega);rw [TT h];unfold wk;rw [TS (by omega),TT (by omega),d];show _^^^gm _ (G (top*64+c+(x-(k*64+c))))=_;rw [e]
 . rw [TS h];unfold wk;by_cases b:top<x/64/\x/64<k/\c<=x%64
   . rw [TT b,TT (by omega)]
   . rw [TS b,TS (by omega)]
theorem tR (w:ZT) (b o c:Nat) (f:c<64):(Instr.sliceAt 101 (Z6 (ZW ⟨b,o,ZX⟩)) (ZW (Z7 Z9 (c:Int))) ZX ZX).run ZK w=.ok (Z5 (ZW ⟨b,o+c,ZX⟩) (64-c) (64-c)) w:=by
 have hl:ZK.arrayLen 101=64:=by kernel_rfl
 have e:ZK.underlying 101=ZW (.array (ZK.arrayLen 101) (ZK.elem 101)):=by kernel_rfl
 have d:∀ w,(sizeOf (ZK.elem 101)).run ZK w=.ok 1 w:=by
  have a:ZK.elem 101=5:=by kernel_rfl
  rw [a];intro w;go_simp
 rw [run_sliceAt_array_l w 101 _ e .i64 (c:Int) (by omega) (by rw [hl];omega),d,hl];simp [slicedAt,Result.andThen];rw [TS (by omega)];simp [Addr.add]
def WkR (w:ZT) (b t top c iv n:Nat) (G:Nat->Nat) (i:ZS) (wr:ZT):Prop:=
 ∃ k:Nat,top<k/\k<=max n (top+1)/\i=Z7 Z9 (k:Nat)/\wr.rowIs b t 4096 (tv (wk G top c iv k))/\w.grownBy wr (ZW b)
theorem BV (b top c n:Nat) (G:Nat->Nat) (w:ZT) (f:∀ x,G x<256) (h:w.rowIs b 281 4096 (tv G)) (O:top<64) (g:c<64) (L:n<=64) :
 ZQ ZK 165 #[Z6 (ZW ⟨b,0,ZX⟩),Z7 Z9 top,Z7 Z9 c,Z7 Z9 n] w λe w'=>e=Z3 (ZZ #[])/\w'.rowIs b 281 4096 (tv (wk G top c (gi (G (top*64+c))) (max n (top+1))))/\w.grownBy w' (ZW b):=by
 have E:w.cell? ⟨b,top*64+c,ZX⟩=ZW (Z7 .u8 ((G (top*64+c):Nat):Int)):=h.cell (by omega);have z:=f (top*64+c);generalize hv:G (top*64+c)=y at *;go_enter func165,ntmps165;go_wp2_with (go_at_call 184;refine (rZ y z _).mono ?_;rintro e l ⟨rfl,rfl⟩);have t:l.rowIs b 281 4096 (tv (wk G top c (gi y) (top+1))):=by rw [La];exact h
 go_loopw [9] (λi wr=>WkR l b 281 top c (gi y) n G i wr) (λi _=>n-(intOf i).toNat)
 case atStart=>exact ⟨top+1,by omega,by omega,by go_num,t,Ws _ _⟩
 case round=>
  clear t h E;rename ZT=>wo;obtain ⟨k,J,M,rfl,d,p⟩:=hrel;by_cases N:k<n
  . have F:wo.cell? ⟨b,k*64+c,ZX⟩=ZW (Z7 .u8 ((wk G top c (gi y) k (k*64+c):Nat):Int)):=d.cell (by omega);rw [NZ _ _ _ _ _ _ g] at F;have v:=f (k*64+c);have o:∀ i,i<64-c->wo.cell? ⟨b,top*64+c+i,ZX⟩=ZW (Z7 .u8 ((G (top*64+c+i):Nat):Int)):=by
     intro i K;have m:wo.cell? ⟨b,top*64+c+i,ZX⟩=ZW (Z7 .u8 ((wk G top c (gi y) k (top*64+c+i):Nat):Int)):=d.cell (by omega);rw [Vx,QD _ _ _ _ _ _ (by omega),<- Vx] at m;exact m
    have u:=N0 G top c (gi y) k J g;have H:gm (G (k*64+c)) (gi y)<256:=bx _ v;have C:=ak o;have D:=ak u;clear o u;generalize G (k*64+c)=x at *;have A:=λw=>tR w b (k*64) c g;have B:=λw=>tR w b (top*64) c g;go_wp2;go_region_with (first
     | (go_at_call 185;refine (mh x (gi y) v (iu z) _).mono ?_;rintro e w' ⟨rfl,rfl⟩)
     | (go_at_call 176;refine (jm b 281 4096 (k*64+c) (64-c) (64-c) b (top*64+c) (64-c) (gm x (gi y)) (wk G top c (gi y) k) (λi=>G (top*64+c+i)) _ H (by exact d) (Pt f top c k) (λj=>f _) (by omega) (by omega) (by exact C.out) (.inr (.inl (by omega)))).mono ?_;rintro e w' ⟨rfl,r,a⟩))
    all_goals
     have s:=r;rw [D.out] at s;have I:l.grownBy w' (ZW b):=gw p ⟨a.os,a.tape,a.output,a.size,a.block⟩;clear r a A B;go_wp2;go_roundw
     case rel=>exact ⟨k+1,by omega,by omega,by go_num,s,I⟩
     case measure=>simp [intOf];omega
  . have q:k=max n (top+1):=(by omega);rw [q] at d;clear q;go_wp2;go_end0
    exact ⟨rfl,d,p⟩
def fW (D:List a8) (x:Nat):Nat:=(D.getD (x/64) []).getD (x%64) 0
def lO (D:List a8) (k x:Nat):Nat:=if x/64<k then fW D x else 0
def Tryz.Tr:(ZK.info? 281).map (λi=>(i.zero,i.size,i.bytes))=ZW (ZW (.agg (YH 4096 (Z7 .u8 0))),4096,4096):=by kernel_rfl
def Tryz.SK:(ZK.info? 281).map (λi=>i.size)=ZW 4096:=by kernel_rfl
def BW (w:ZT):(zeroValue 281).run ZK w=.ok (.agg (YH 4096 (Z7 .u8 0))) w:=by
 obtain ⟨c,a,b,_,_⟩:=Us Tryz.Tr;simp [zeroValue,typeInfo,Ux,a,b]
def BX (w:ZT):(w.alloc (Z4 (YH 4096 (Z7 .u8 0)) 281)).rowIs w.heap.size 281 4096 (λ_=>Z7 .u8 0):=by
 have h:=abX w (YH 4096 (Z7 .u8 0)) 281 (λ_=>Z7 .u8 0) (λi a=>by simp at a;simp [a]);simpa using h
theorem Lb {f:Nat->ZS} (h:w.rowIs b t n f):w.heap[b]?=ZW (Z4 ((YE n).map f).toArray t (0,0)):=by
 obtain ⟨c,d,g,e⟩:=h;have:c=((YE n).map f).toArray:=by
  apply XZ
  . simp [g]
  . intro i a j;have:=e i (by omega);rw [VM a] at this;simp at this;simp [this]
 rw [<- this];exact d
def Ex (C:o.guard=ZX) (d s:ZL)
 (ho:o.op=.call { callee:=.builtin .copy,args:=#[d,s],argTypes:=#[39,39] }) (g off n cap N t:Nat) (v:ZS) (hd:a.eval d=Z5 (ZW ⟨g,off,ZX⟩) n cap) (hs:a.eval s=v)
 (F:Nat->Nat) (src:a8) (hB:w.rowIs g t N (tv F)) (hS:Bs w v src) (h8:src.length<=n) (hn:off+n<=N)
 (h:∀ w',w'.rowIs g t N (tv (λx=>if off<=x/\x<off+src.length then src.getD (x-off) 0 else F x))->ZR g w w'->wpList ZK ops Q rest (a.put o.dst (goInt src.length)) w'):wpList ZK ops Q (o::rest) a w:=by
 obtain ⟨ao,c,rfl,K,L,M,A⟩:=hS;refine abL C d s 39 39 ho 5 Ul (by kernel_rfl) (ZW ⟨g,off,ZX⟩) ao n cap src.length c hd hs g off _ t (Lb hB) (src.map (λx=>Value.int .u8 ((x:Nat):Int))) ?_ ?_ ?_ ?_ g w (TW _ _) lR ?_
 . rw [T9];show src.length=min src.length n;omega
 . intro l;rw [T9] at l;obtain ⟨b,off,rfl,E⟩:=A (by intro e;rw [e] at l;simp at l);refine ⟨rfl,_,rfl,λj u k=>?_⟩;have f:j<src.length:=by
    have:=Va.1 k;obtain ⟨q,_⟩:=this;simpa using q
   rw [Vr,E j f];simp [f] at k;simp [f,k]
 . simp;omega
 . intro u G;obtain ⟨x,_,rfl⟩:=T7.1 G;rfl
 . intro w' D B;have H:=D.out;rw [T9];refine h w' ⟨_,H,?_,λi m=>?_⟩ B
   . rw [UH,length_splice _ _ _ (by simp;omega)];simp
   . unfold splice;rw [Xm];by_cases p:i<off
     . rw [VD (by simp;omega)];have I:¬ (off<=i/\i<off+src.length):=(by omega);simp only [tv,TS I];simp [p,m,tv]
     . rw [U6 (by simp;omega)];have y:(((YE N).map (tv F)).take off).length=off:=(by simp;omega);rw [y];by_cases r:i<off+src.length
       . rw [VD (by simp;omega)];have J:i-off<src.length:=(by omega);simp [J,tv,r,WJ.1 p]
       . rw [U6 (by simp;omega)];simp only [T9];rw [Wd];have z:off+src.length+(i-off-src.length)=i:=(by omega);rw [z];simp [m,tv,r]
def LyR (w:ZT) (B:Nat) (D:List a8) (i:ZS) (wr:ZT):Prop:=
 ∃ k:Nat,k<=D.length/\i=Z7 Z9 (k:Nat)/\wr.rowIs (B+1) 281 4096 (tv (lO D k))/\wr.rowIs B 281 4096 (λ_=>Z7 .u8 0)/\ZR B w wr
theorem BY (D:List a8) (k:Nat) (f:k<D.length) (hl:(D[k]).length<=64):(λx=>if k*64<=x/\x<k*64+(D[k]).length then (D[k]).getD (x-k*64) 0 else lO D k x)=lO D (k+1):=by
 have b:D.getD k []=D[k]:=by simp [f]
 funext x;unfold lO fW;by_cases h:k*64<=x/\x<k*64+(D[k]).length
 . rw [TT h,TT (by omega)];have c:x/64=k:=(by omega);have d:x%64=x-k*64:=(by omega);rw [c,b,d]
 . rw [TS h];by_cases a:x/64<k
   . rw [TT a,TT (by omega)]
   . rw [TS a];by_cases e:x/64=k
     . rw [TT (by omega),e,b,T6,Vo (by omega)];rfl
     . rw [TS (by omega)]
def Ey (D:List a8) (x:Nat):lO D D.length x=fW D x:=by
 unfold lO;by_cases h:x/64<D.length
 . rw [TT h]
 . rw [TS h];unfold fW;simp [Vo (WJ.1 h)]
def tS {f:Nat->Nat} (b:cs.size=N) (h:∀ j,j<N->cs[j]?=ZW (tv f j)):cs.all (λv=>v.oneCell')=ZV:=by
 rw [X9];intro i a;have:=h i (by omega);rw [VM a] at this;simp at this;rw [this];rfl
theorem N1 (L:ZS) (D:List a8) (w:ZT) (H:Rd w L D) (r:rO D) :
 ZQ ZK 164 #[L] w λe w'=>∃ cs:Array ZS,e=Z3 (.agg cs)/\cs.size=4096/\(∀ j,j<4096->cs[j]?=ZW (tv (fW D) j))/\bW w w':=by
 have N:=ak r;have Y:=r.1;have V:=H;obtain ⟨ao,c,rfl,hl,G⟩:=H;have t:=ak G;clear G r V;have W:=BW;go_enter func164,ntmps164;go_wp2;clear W;go_loopw [8] (λi wr=>LyR w w.heap.size D i wr) (λi _=>D.length-(intOf i).toNat)
 case atStart=>
  refine ⟨0,T5 _,rfl,?_,?_,?_⟩
  . have h:=BX (w.alloc (Z4 (YH 4096 (Z7 .u8 0)) 281));try change ZR _ _ _ at h
    rw [Uh] at h;exact h.congr λj R=>by unfold tv lO;simp
  . exact (BX w).alloc _
  . exact (bA _ _).alloc (by rw [Uh];omega) _
 case round=>
  rename ZT=>wo;obtain ⟨k,X,rfl,f,E,m⟩:=hrel;by_cases a:k<D.length
  . obtain ⟨b,off,rfl,A⟩:=t.o (by intro e;rw [e] at a;simp at a);obtain ⟨u,s,y⟩:=A k a;have T:=y.mono m;have F:=N.o.2 k a;have I:=BY D k a F;have Z:wo.cell? ⟨b,off+k,ZX⟩=ZW u:=(by rw [m.cell (Ub s)];exact s);have S:=ak I;clear A I s y t;generalize D[k]=l at *;go_wp2_with (refine Ex rfl (Z0 15) (Z0 16) rfl (w.heap.size+1) (k*64) 64 64 4096 281 u rfl rfl (lO D k) l f T F (by omega) ?_;intro w2 d z);rw [S.out] at d;have U:=VA E (z.block w.heap.size (by omega));go_wp2;go_roundw
    case rel=>exact ⟨k+1,by omega,by go_num,d,U,m.trans (z.mono (by omega))⟩
    case measure=>simp [intOf];omega
  . have C:k=D.length:=(by omega);rw [C] at f;clear C;have d:=f.congr (g:=tv (fW D)) (λj R=>by unfold tv;rw [Ey]);obtain ⟨cs,B,q,p⟩:=d;obtain ⟨M,J,hx,_⟩:=E;have P:=tS q p;have O:=ak p;have K:(ZK.info? 281).map (λi=>i.size)=ZW cs.size:=(by rw [Tryz.SK,q]);have n:=ak K;have Q:=ak B;have x:=ak J;clear p f K B J;go_wp2_with (first
     | refine abl rfl 281 (Z0 3) rfl (w.heap.size+1) rfl 281 cs (0,0) _ Q.out underlying281 rfl n.o ?_
     | refine Wv rfl 281 (Z0 2) (Z0 19) rfl w.heap.size cs rfl rfl 281 M x.o n.o (by omega) P ?_)
    exact Ur (v:=.agg cs) (V4 results164 _ _ w.heap.size 281 cs (0,0) _ rfl (Vv _ _ M cs _ _ x.o) underlying281 rfl n.o) rfl ⟨cs,rfl,q,O.o,below_setRow m lR cs⟩
def pS (G:Nat->Nat) (i:Nat):a8:=(YE 64).map λj=>G (i*64+j)
def lP (G:Nat->Nat) (n:Nat):List a8:=(YE n).map (pS G)
def iM (G:Nat->Nat) (i j:Nat):dG (pS G i) j=if j<64 then G (i*64+j) else 0:=by
 unfold dG pS;by_cases h:j<64
 . simp [h]
 . simp [h]
def fX (G:Nat->Nat) (n:Nat):(lP G n).length=n:=by simp [lP]
def fY (G:Nat->Nat) (n i:Nat) (h:i<(lP G n).length):(lP G n)[i]=pS G i:=by simp [lP]
def tT {G:Nat->Nat} (a:∀ x,G x<256) (n:Nat):∀ l∈lP G n,∀ x∈l,x<256:=by
 intro l hl x b;obtain ⟨i,_,rfl⟩:=T7.1 hl;obtain ⟨j,_,rfl⟩:=T7.1 b;exact a _
def BZ (G:Nat->Nat) (p r x:Nat):Nat:=if x/64=r then G (p*64+x%64) else if x/64=p then G (r*64+x%64) else G x
theorem zM {G:Nat->Nat} (a:∀ x,G x<256) (p r x:Nat):BZ G p r x<256:=by
 unfold BZ;split
 . exact a _
 . split<;>exact a _
def Ez (G:Nat->Nat) (p r i j:Nat) (c:j<64):BZ G p r (i*64+j)=if i=r then G (p*64+j) else if i=p then G (r*64+j) else G (i*64+j):=by
 have a:(i*64+j)/64=i:=by omega
 have b:(i*64+j)%64=j:=by omega
 unfold BZ;rw [a,b]
def Lc (G:Nat->Nat) (p r c n:Nat):Nat->Nat:=wk (BZ G p r) r c (gi (G (p*64+c))) (max n (r+1))
def Ld {G:Nat->Nat} (a:∀ x,G x<256) (p r c n x:Nat):Lc G p r c n x<256:=Pt (zM a p r) _ _ _ _
def Le (G:Nat->Nat) (p r c n i j:Nat) (_hc:c<64) (d:j<64) (f:r<i) (e:i<n):Lc G p r c n (i*64+j)=if c<=j then BZ G p r (i*64+j)^^^gm (gm (BZ G p r (i*64+c)) (gi (G (p*64+c)))) (G (p*64+j)) else BZ G p r (i*64+j):=by
 have a:(i*64+j)/64=i:=by omega
 have b:(i*64+j)%64=j:=by omega
 unfold Lc wk;rw [a,b,Ez G p r r j d,TT rfl];by_cases h:c<=j
 . rw [TT h,TT (by omega)]
 . rw [TS h,TS (by omega)]
theorem Gh {G:Nat->Nat} (d:∀ x,G x<256) (b:c<64) (o:p<n) (l:r<=p) (k:G (p*64+c)≠0) (q:∀ i,r<=i->i<n->∀ j,j<c->G (i*64+j)=0) (g:r<i) (e:i<n) :
 ∃ f,f<256/\dG (pS (Lc G p r c n) i)=cy (dG (pS G (if i=p then r else i))) f (dG (pS G p))/\dG (pS (Lc G p r c n) i) c=0:=by
 have m:∀ j,j<64->BZ G p r (i*64+j)=G ((if i=p then r else i)*64+j):=by
  intro j a;rw [Ez G p r i j a,TS (by omega)];split<;>rfl
 refine ⟨gm (BZ G p r (i*64+c)) (gi (G (p*64+c))),bx _ (zM d _ _ _),?_,?_⟩
 . funext j;show dG (pS (Lc G p r c n) i) j=dG (pS G (if i=p then r else i)) j^^^gm _ (dG (pS G p) j);rw [iM,iM,iM];by_cases a:j<64
   . rw [TT a,TT a,TT a,Le G p r c n i j b a g e,m j a];by_cases h:c<=j
     . rw [TT h]
     . rw [TS h,q p l o j (by omega),bG,U4]
   . rw [TS a,TS a,TS a,bG];exact (UV 0).symm
 . rw [iM,TT b,Le G p r c n i c b b g e,TT lR];exact nO (zM d _ _ _) (d _) k
theorem EA {G:Nat->Nat} (a:∀ x,G x<256) (g:c<64) (l:p<n) (d:r<=p) (b:G (p*64+c)≠0) (u:∀ i,r<=i->i<n->∀ j,j<c->G (i*64+j)=0)
 (t:cU m (nK (lP (Lc G p r c n) n) (r+1)) (c+1) k):cU (m+1) (nK (lP G n) r) c (k+1):=by
 refine qQ (p:=p) (T':=lP (Lc G p r c n) n) (tT a n) (tT (Ld a p r c n) n) (by rw [fX,fX]) d (by rw [fX];exact l) ?_ ?_ t
 . rw [fY,iM,TT g];exact b
 . intro i h q;rw [fX] at h;obtain ⟨f,s,e,o⟩:=Gh a g l d b u q h;refine ⟨f,by rw [fX];split<;>omega,s,?_,?_⟩
   . rw [fY,fY,fY];exact e
   . rw [fY];exact o
structure GI (D:List a8) (c r n:Nat) (G:Nat->Nat):Prop where
 byt:∀ x,G x<256
 rle:r<=n
 zer:∀ i,r<=i->i<n->∀ j,j<c->G (i*64+j)=0
 tak:∀ k,cU (64-c) (nK (lP G n) r) c k->nf D (r+k)
def GI.skip {D:List a8} {G:Nat->Nat} (h:GI D c r n G) (f:c<64) (d:∀ i,r<=i->i<n->G (i*64+c)=0):GI D (c+1) r n G:=
 { h with
  zer:=λi b a j l=>by
   by_cases e:j=c
   . subst e;exact d i b a
   . exact h.zer i b a j (by omega)
  tak:=λk g=>by
   refine h.tak k ?_;have e:64-c=64-(c+1)+1:=(by omega);rw [e];refine sN (λi a b=>?_) g;rw [fY,iM,TT f];rw [fX] at a;exact d i b a }
theorem GI.Ts {D:List a8} {G:Nat->Nat} (h:GI D c r n G) (b:c<64) (a:r<=p) (d:p<n) (o:G (p*64+c)≠0):GI D (c+1) (r+1) n (Lc G p r c n) where
 byt:=Ld h.byt p r c n
 rle:=by omega
 zer:=λi y v j x=>by
  obtain ⟨f,_,e,l⟩:=Gh h.byt b d a o h.zer (show r<i by omega) v;by_cases s:j=c
  . subst s;rw [iM,TT b] at l;exact l
  . have g:=congrFun e j;have t:=h.zer (if i=p then r else i) (by split<;>omega) (by split<;>omega) j (by omega);have u:=h.zer p a d j (by omega);rw [iM,TT (by omega)] at g;rw [g];show dG (pS G (if i=p then r else i)) j^^^gm f (dG (pS G p) j)=0;generalize (if i=p then r else i)=q at *;have m:j<64:=(by omega);rw [iM,iM,TT m,TT m,t,u,bG];exact UV 0
 tak:=λk w=>by
  have e:r+1+k=r+(k+1):=by omega
  rw [e];refine h.tak (k+1) ?_;have e:64-c=64-(c+1)+1:=by omega
  rw [e];exact EA h.byt b d a o h.zer w
def GI.done {D:List a8} {G:Nat->Nat} (h:GI D 64 r n G):nf D r:=
 h.tak 0 rfl
def Ij {D:List a8} (a:∀ l∈D,∀ x∈l,x<256) (x:Nat):fW D x<256:=by
 unfold fW;by_cases h:x/64<D.length
 . have e:D.getD (x/64) []=D[x/64]:=(by simp [h]);rw [e];exact dw (a _ (TY h)) _
 . have e:D.getD (x/64) []=[]:=(by simp [Vo (WJ.1 h)]);rw [e];simp
theorem GI.start {D:List a8} (g:∀ l∈D,∀ x∈l,x<256) (h:rO D):GI D 0 0 D.length (fW D) where
 byt:=Ij g
 rle:=T5 _
 zer:=λ_ _ _ j a=>absurd a (Yv _)
 tak:=λk c=>by
  rw [Ui];have e:nK (lP (fW D) D.length) 0=nK D 0:=wM (by rw [fX]) (λi n b=>by
   rw [fY];funext j;rw [iM];have m:D.getD i []=D[i]:=(by simp [b]);by_cases a:j<64
   . rw [TT a];have d:(i*64+j)/64=i:=(by omega);have f:(i*64+j)%64=j:=(by omega);unfold fW dG;rw [d,f,m]
   . rw [TS a];have:=h.2 i b;unfold dG;simp [Vo (show (D[i]).length<=j by omega)]) 0
  rw [e] at c;exact c
def EB (w:ZT) {ops:Array ZO} {rest:List ZO} {o:ZO} {a:Act} {Q:Exit->Act->ZT->Prop} (h:o.guard=ZX) (x y:ZL) (ho:o.op=.store 281 x y)
 (g:Nat) (f:Nat->Nat) (cs old:Array ZS) (l:a.eval x=Z6 (ZW ⟨g,0,ZX⟩)) (m:a.eval y=.agg cs) (d:w.heap[g]?=ZW (Z4 old 281 (0,0))) (hold:old.size=4096) (b:cs.size=4096) (c:∀ j,j<4096->cs[j]?=ZW (tv f j))
 (hK:∀ w2,w2.rowIs g 281 4096 (tv f)->w.grownBy w2 (ZW g)->wpList ZK ops Q rest (a.put o.dst ZY) w2):wpList ZK ops Q (o::rest) a w:=by
 refine Wv h 281 x y ho g cs l m 281 old d (by rw [Tryz.SK,b]) (by omega) (tS b c) (hK _ ?_ ?_)
 . exact ⟨cs,Vv w g old cs _ _ d,b,c⟩
 . refine ⟨rfl,rfl,rfl,by simp,λk n i=>?_⟩;have:g≠k:=λe=>i (by rw [e]);simp [World.setRow,VL,this]
theorem kK:∀ (vs:List ZS) (o:Nat) (w:ZT) (f:Nat->ZS),w.rowIs b t n f->(w.setCells b o vs).rowIs b t n (λx=>if o<=x/\x<o+vs.length then vs.getD (x-o) ZY else f x)
 | [],o,w,f,h=>h.congr (λi _=>by rw [TS (by simp)])
 | v::vs,o,w,f,h=>(kK vs (o+1) _ _ (h.set o v)).congr (λi _=>by
  by_cases a:o+1<=i/\i<o+1+vs.length
  . have e:i-o=(i-(o+1))+1:=(by omega);rw [TT a,TT (by simp;omega),e];simp
  . rw [TS a];by_cases c:i=o
    . subst c;rw [TT rfl,TT (by simp)];simp
    . rw [TS c,TS (by simp;omega)])
def iN:∀ (vs:List ZS) (o:Nat) (w w':ZT),w.grownBy w' (ZW b)->w.grownBy (w'.setCells b o vs) (ZW b)
 | [],_,_,_,h=>h
 | v::vs,o,w,_,h=>iN vs (o+1) w _ (eI h o v)
def xP (G:Nat->Nat) (i:Nat):List ZS:=(YE 64).map λj=>tv G (i*64+j)
def oI (G:Nat->Nat) (i:Nat):(xP G i).length=64:=by simp [xP]
def B1 (G:Nat->Nat) (i j:Nat) (h:j<64):(xP G i).getD j ZY=tv G (i*64+j):=by simp [xP,h]
def xQ {G:Nat->Nat} (h:w.rowIs b t 4096 (tv G)) {i:Nat} (d:i<64):w.rangeAt b (i*64) (xP G i):=by
 intro j v a;have c:j<64:=by
  obtain ⟨q,_⟩:=Va.1 a;rwa [oI] at q
 simp [xP,c] at a;rw [h.cell (by omega),a]
def xR {f:Nat->ZS} (h:w.rowIs b t 4096 f) {i n:Nat} (a:i<64) (d:n<=64):w.there b (i*64) n:=λj c=>by
 rw [h.cell (by omega)];exact ⟨rfl,h.frozen _⟩
def Gi (G:Nat->Nat) (i:Nat):(xP G i).toArray.all (λv=>v.oneCell')=ZV:=by
 rw [X9];intro j a;simp [xP,tv];rfl
theorem QE {G:Nat->Nat} (h:w.rowIs b t 4096 (tv G)) (p r:Nat):((w.setCells b (r*64) (xP G p)).setCells b (p*64) (xP G r)).rowIs b t 4096 (tv (BZ G p r)):=by
 refine (kK (xP G r) (p*64) _ _ (kK (xP G p) (r*64) _ _ h)).congr (λx _=>?_);rw [oI,oI];by_cases e:p*64<=x/\x<p*64+64
 . have a:x/64=p:=(by omega);have c:x-p*64=x%64:=(by omega);rw [TT e,c,B1 _ _ _ (by omega)];unfold tv BZ;rw [a];by_cases d:p=r
   . rw [TT d,d]
   . rw [TS d,TT rfl]
 . rw [TS e];by_cases f:r*64<=x/\x<r*64+64
   . have a:x/64=r:=(by omega);have c:x-r*64=x%64:=(by omega);rw [TT f,c,B1 _ _ _ (by omega)];unfold tv BZ;rw [TT a]
   . rw [TS f];unfold tv BZ;rw [TS (by omega),TS (by omega)]
def GpR (G:Nat->Nat) (r c n:Nat) (rv iv:ZS):Prop:=∃ k:Nat,r<=k/\k<=n/\rv=Z7 Z9 (r:Nat)/\iv=Z7 Z9 (k:Nat)/\∀ i,r<=i->i<k->G (i*64+c)=0
def GcR (w:ZT) (b:Nat) (D:List a8) (rv cv:ZS) (wr:ZT):Prop:=
 ∃ (r c:Nat) (G:Nat->Nat),c<=64/\rv=Z7 Z9 (r:Nat)/\cv=Z7 Z9 (c:Nat)/\GI D c r D.length G/\wr.rowIs b 281 4096 (tv G)/\bW w wr
theorem Lf (vd:ZS) (D:List a8) (w:ZT) (P:Rd w vd D) (hb:∀ l∈D,∀ x∈l,x<256) :
 ZQ ZK 135 #[vd] w λe w'=>Kl D w e w':=by
 have y:=ak P;have kr:=BW;obtain ⟨ao,c,rfl,hl,hc⟩:=P;clear hc;by_cases n:rO D
 . have hp:=n.1;have q:=ak n;clear n;go_enter func135,ntmps135;go_wp2;go_step3;go_wp2_with (first
    | (go_at_call 163;refine (BS _ D _ y.o).mono ?_;rintro e wv ⟨d,_,rfl⟩;obtain rfl:=d q.o)
    | (go_at_call 164;refine (N1 _ D _ y.o q.o).mono ?_;rintro e L ⟨cs,rfl,k8,N,g⟩)
    | (refine EB _ rfl (Z0 3) (Z0 11) rfl L.heap.size (fW D) cs _ rfl rfl (UE L _) (by simp) k8 N ?_;intro wb T W))
   have U:bW wv wb:=gx (g.alloc g.size _) W (by rw [Uh];have:=g.size;omega) g.size;have S:=GI.start hb q.o;have kj:=g.size;have Q:=ak S;clear N k8 g W kr S;generalize L.heap.size=gb at *;go_step3;go_wp2;go_loopw [4,12] (λrv A wr=>GcR wv gb D rv A wr) (λ_ A _=>64-(intOf A).toNat)
   case atStart=>exact ⟨0,0,fW D,by omega,rfl,rfl,Q.out,T,U⟩
   case round=>
    clear T U Q;rename ZT=>wo;obtain ⟨r,a,G,kk,rfl,rfl,f,O,J⟩:=hrel;have ko:=f.rle;by_cases t:a<64
    . have F:=ak f;have z:=ak O;have E:=ak J;clear f O J;go_wp2;go_loop [4,6] (λrv K=>GpR G r a D.length rv K) (λ_ K=>D.length-(intOf K).toNat)
      case atStart=>exact ⟨r,TV _,ko,rfl,rfl,λi d s=>absurd d (by omega)⟩
      case round=>
       obtain ⟨p,kp,ks,rfl,rfl,u⟩:=hrel;by_cases km:p<D.length
       . have h8:wo.cell? ⟨gb,p*64+a,ZX⟩=ZW (Z7 .u8 ((G (p*64+a):Nat):Int)):=z.o.cell (by omega);have kg:=ak u;clear u;by_cases m:G (p*64+a)=0
         . rw [m] at h8;have HX:=ak m;clear m;go_wp2;go_round
           case rel=>
            refine ⟨p+1,by omega,by omega,rfl,by go_num,λi d s=>?_⟩;by_cases e:i=p
            . subst e;exact HX.o
            . exact kg.out i d (by omega)
           case measure=>simp [intOf];omega
         . have t0:(((G (p*64+a):Nat):Int)==0)=ZU:=(by rw [beq_eq_false_iff_ne];omega);have kb:=ak (F.out.Ts t kp km m);clear m;have I:wo.drew.rowIs gb 281 4096 (tv G):=z.o;have Y:BZ G p r (r*64+a)=G (p*64+a):=(by rw [Ez G p r r a t,TT rfl]);have hj:=ak Y;have ka:=ak (zM F.out.byt p r);have B:p<64:=(by omega);have C:r<64:=(by omega);clear Y;obtain ⟨v,k9,k7,Z⟩:∃ v,(wo.drew.setCells gb (r*64) (xP G p)).setCells gb (p*64) (xP G r)=v/\v.rowIs gb 281 4096 (tv (BZ G p r))/\wo.drew.grownBy v (ZW gb):=
            ⟨_,rfl,QE I p r,iN (b:=gb) (xP G r) (p*64) wo.drew _ (iN (b:=gb) (xP G p) (r*64) wo.drew wo.drew (Ws _ _))⟩
           have kf:=ak k7;have kc:=ak Z;have R:=ak k9;have k:=ak I;clear k7 Z k9 I;go_wp2;refine KT gb p r (xP G p) (xP G r) (by kernel_rfl) (λ_ _ _ _ _ h=>h) rfl B C rfl rfl rfl (oI _ _) (oI _ _) (Gi _ _) (Gi _ _) (xQ k.out B) (xQ k.out C) (xR k.out C lR) (xR k.out B lR) ?_;rw [R.out];clear R k;unfold KS;generalize (xP G p).toArray=cp;generalize (xP G r).toArray=cr;go_wp2_with (go_at_call 165;refine (BV gb r a D.length (BZ G p r) _ ka.out kf.out (by omega) t hp).mono ?_;rintro e w2 ⟨rfl,H,X⟩);have kh:w2.rowIs gb 281 4096 (tv (Lc G p r a D.length)):=by
            rw [hj.out] at H;exact H
           have j:=gw kc.out X;have ki:=gx E.out (w:=wo) ⟨j.os,j.tape,j.output,j.size,j.block⟩ E.out.size kj;clear H X j;go_wp2;go_roundw
           case rel=>exact ⟨r+1,a+1,Lc G p r a D.length,by omega,by go_num,by go_num,kb.out,kh,ki⟩
           case measure=>simp [intOf];omega
       . have ke:=ak (F.out.skip t (λi d s=>u i d (by omega)));clear u;go_wp2;go_roundw
         case rel=>exact ⟨r,a+1,G,by omega,rfl,by go_num,ke.out,z.o,E.out⟩
         case measure=>simp [intOf];omega
    . have V:a=64:=(by omega);rw [V] at f;have HK:=ak f.done;clear f V;go_wp2;try rw [Exit.noGoto_ret]
      go_ret;exact ⟨λ_=>⟨r,by omega,rfl,HK.o⟩,λh=>absurd q.o h,J⟩
 . have M:=ak n;clear n;go_enter func135,ntmps135;go_wp2;go_step3;go_wp2_with (go_at_call 163;refine (BS _ D _ y.o).mono ?_;rintro e w' ⟨_,s,rfl⟩;obtain rfl:=s M.o);try rw [Exit.noGoto_ret]
   go_ret;exact ⟨λh=>absurd h M.o,λ_=>rfl,TW _ _⟩
def ez.rdH {v:ZS} (h:ez w B v T) (c:cO T D M) (k:∀ r∈M,r.length=D) (hl:M.length<=100000):Rd w v M:=by
 have a:T.length=M.length:=by simpa using Uy YJ c
 obtain ⟨ao,cap,rfl,f⟩:=h.slice;refine ⟨ao,cap,by rw [a],by omega,λm=>?_⟩;obtain ⟨g,rfl⟩:=f (by intro e;rw [e] at a;exact m (UX a.symm));refine ⟨g,0,rfl,λi d=>?_⟩;have b:i<T.length:=by omega
 refine ⟨fP T[i],by rw [Ui];exact h.Sj b,?_⟩;have:=h.SZ b;have j:T[i].2=(D,M[i]):=by
  have:=Uy (λl=>l[i]?) c;simpa [b,d] using this
 rw [j] at this;have e:(M[i]).take D=M[i]:=by rw [<- k _ (TY d),VE]
 rw [e] at this;exact this
def Rd.byte {v:ZS} {D:List a8} (h:Rd w v D):∀ l∈D,∀ x∈l,x<256:=by
 rcases h.cases with ⟨rfl,_⟩|⟨b,off,c,rfl,_,a⟩
 . intro l hl;simp at hl
 . intro l hl;obtain ⟨i,d,rfl⟩:=XB.1 hl;obtain ⟨u,_,e⟩:=a i d;exact e.lt
def cL (D L G:Nat):(aR D L G).length=D+L+G:=by simp [aR];omega
def kL (D L G:Nat):∀ r∈aR D L G,r.length=D:=by
 intro r a;simp only [aR,Uj,T7,Uu] at a;rcases a with (⟨i,_,rfl⟩|⟨i,_,rfl⟩)|⟨i,_,rfl⟩
 . simp [dq]
 . simp [dy]
 . simp [dj]
theorem oJ (D L G:Nat) (c:D<=12) (d:G<=4):∀ r∈aR D L G,∀ x∈r,x<256:=by
 intro r b x a;simp only [aR,Uj,T7,Uu] at b;rcases b with (⟨i,_,rfl⟩|⟨i,_,rfl⟩)|⟨i,e,rfl⟩
 . rcases Yb a with h|h
   . have:=VJ h;omega
   . omega
 . simp only [dy,T7] at a;obtain ⟨j,_,rfl⟩:=a;split<;>decide
 . simp only [dj,T7,Uu] at a;obtain ⟨j,f,rfl⟩:=a;exact iu (rJ (by omega) (by omega))
def iT (D L G lost:Nat):Prop:=mM (nK (dg (aR D L G) lost (D+L+G)) 0) 0 D
def B4 (b:D<=12) (c:G<=4) (h:nf (dg (aR D L G) lost (D+L+G)) k):k=D↔iT D L G lost:=by
 have a:=tC (aR D L G) lost (D+L+G) (by rw [cL];omega);exact GX (λl hl=>oJ D L G b c l (a l hl)) (λl hl=>by rw [kL D L G l (a l hl)];omega) (by omega) h
def Ca (D L G lost:Nat) (b:D<=12) (d:L<=4) (c:G<=4):rO (dg (aR D L G) lost (D+L+G)):=by
 refine ⟨TU (jE _ _ _) (by omega),λi a=>?_⟩;rw [kL D L G _ (tC (aR D L G) lost (D+L+G) (by rw [cL];omega) _ (TY a))];omega
def Lg (D L G lost:Nat) (w:ZT) (e:ZP) (w':ZT):Prop:=∃ b:Bool,e=Z3 (Z1 b)/\(b=ZV↔iT D L G lost)/\bW w w'
theorem rR (D L G lost:Nat) (E:de D L G=ZV) (i:D<=12) (x:1<=L) (o:L<=4) (j:G<=4) (u:D%L=0) (hl:lost<18446744073709551616) (w:ZT) :
 ZQ ZK 95 #[.agg #[Z7 Z9 D,Z7 Z9 L,Z7 Z9 G],Z7 Z8 lost] w λe w'=>Lg D L G lost w e w':=by
 go_enter func95,ntmps95;go_wp2_with fail;refine (kA D L G E i x o j u _).mono ?_;rintro e w1 ⟨v,T,rfl,g,p,b⟩;try change ZR _ _ _ at g
 try change ZR _ _ _ at b
 rw [Uh] at g b;have s:=b.size;try change ZR _ _ _ at s
 rw [Uh] at s;obtain ⟨l,H,I⟩:=cT b;have q:=g.rdH p (kL D L G) (by rw [cL];omega);have n:bW w w1:=(bA _ _).trans (b.mono (by omega));have A:=ak q;have z:=ak n;clear g p b H I q n;go_wp2;go_region_held (λw'=>w'.cell? ⟨w.heap.size,0,ZX⟩=ZW (Z7 Z9 (D:Nat))) (first|assumption|exact l)
  (first
   | (go_at_call 136;refine (KR _ (aR D L G) lost _ (show Rd w1.drew _ _ from A.out) hl (by rw [cL];omega)).mono ?_;rintro e w2 ⟨M,rfl,f⟩;rw [cL] at f
      have d:w2.cell? ⟨w.heap.size,0,ZX⟩=ZW (Z7 Z9 (D:Nat)):=(by rw [f.choose_spec.2.2.2.cell (Ub l)];exact l);have h:=ak f;clear f)
   | (go_at_call 135;refine (Lf _ _ _ (h.out.rd (TU (jE _ _ _) (by omega))) (h.out.rd (TU (jE _ _ _) (by omega))).byte).mono ?_
      rintro e J ⟨m,_,c⟩;obtain ⟨k,K,rfl,r⟩:=m (Ca D L G lost i o j);have F:J.cell? ⟨w.heap.size,0,ZX⟩=ZW (Z7 Z9 (D:Nat)):=(by rw [c.cell (Ub d)];exact d);have B:=ak r;have y:=ak c;clear m r c))
 go_wp2;go_ret;have a:=h.out.choose_spec.2.2.2;have c:=y.out;have C:=a.size;change w1.heap.size<=_ at C;have t:bW w w2:=z.out.trans ((show bW w1 w2 from ⟨a.os,a.tape,a.output,a.size,a.block⟩).mono (by omega));refine ⟨((k:Int)==(D:Int)),rfl,?_,t.trans (c.mono (by omega))⟩;rw [<- B4 i j B.out];simp;omega
theorem zN (lost k:Nat) (hl:lost<18446744073709551616) (b:k<=64) (w:ZT) :
 ZQ ZK 16 #[Z7 Z8 lost,Z7 Z9 k] w λe w'=>e=Z3 (Z1 (((lost/2^k%2:Nat):Int)==1))/\w'=w:=by
 have a:=Ga lost k hl;go_enter func16,ntmps16;go_wp2;go_ret;exact ⟨rfl,rfl⟩
theorem pT (D L G lost:Nat) (Z:de D L G=ZV) (y:D<=12) (hL:1<=L) (U:L<=4) (z:G<=4) (N:D%L=0) (hl:lost<18446744073709551616) (w:ZT) :
 ZQ ZK 13 #[.agg #[Z7 Z9 D,Z7 Z9 L,Z7 Z9 G],Z7 Z8 lost] w λe w'=>Lg D L G lost w e w':=by
 obtain ⟨i0,kc,kj,kk,km⟩:=Us Tryz.RV;go_enter func13,ntmps13;go_wp2_with fail;refine (vY D L G Z y hL U z N _).mono ?_;rintro e w1 ⟨v,T,rfl,n,P,f⟩;try change ZR _ _ _ at n
 try change ZR _ _ _ at f
 rw [Uh] at n f;have kh:=f.size;try change ZR _ _ _ at kh
 rw [Uh] at kh;obtain ⟨p0,p1,p2⟩:=cT f;have hv:=n.rdH P (kL D L G) (by rw [cL];omega);have K:bW w w1:=(bA _ _).trans (f.mono (by omega));have k0:=ak K;have C:=cL D L G;have kf:(aR D L G).length<=64:=by omega
 clear n P f p1 p2 K;have S:=ak (λk=>B4 (lost:=lost) (L:=L) (k:=k) y z);have R:=ak (Ca D L G lost y U z);rw [<- C] at S R;have k9:=ak C;clear C Z N;generalize aR D L G=M at *;rcases hv.cases with ⟨rfl,ao,c,rfl⟩|⟨b,off,c,rfl,_,B⟩
 . exfalso;have:=k9.out;simp at this;omega
 . clear hv;go_wp2;go_loopw [7,8] (λv i wr=>KpR w1 M lost v i wr) (λ_ i _=>M.length-(intOf i).toNat)
   case atStart=>exact ⟨0,T5 _,rfl,Rl.nil _⟩
   case round=>
    rename ZT=>wo;obtain ⟨k,hk,rfl,a⟩:=hrel;have d:wo.cell? ⟨w.heap.size,0,ZX⟩=ZW (Z7 Z9 (D:Nat)):=(by rw [a.choose_spec.2.2.2.cell (Ub p0)];exact p0);by_cases X:k<M.length
    . obtain ⟨u,F,x⟩:=B k X;have ki:wo.cell? ⟨b,off+k,ZX⟩=ZW u:=(by rw [a.choose_spec.2.2.2.cell (Ub F)];exact F);obtain ⟨au,cu,rfl,_⟩:=id x;have HK:=ak (jE M lost k);have H:=ak x;have O:M.getD k []=M[k]:=(by simp [X]);have k5:=ak O;clear B x F O;by_cases m:lost/2^k%2=0
      . have r:=ak (show (((lost/2^k%2:Nat):Int)==1)=ZU by rw [m];rfl);have k6:=ak (F9 M lost k m);clear m;obtain ⟨xs,s,Q,t,A⟩:=a;have HX:=ak Q;have k8:=ak s;have kp:xs.length<=64:=(by rw [s];exact TU HK.o (by omega));have hs:=A.size;clear Q s;go_wp2_with (first
         | (go_at_call 16;refine (zN lost k hl (by omega) _).mono ?_;rintro e w' ⟨rfl,l⟩;have E:=l.symm;clear l;subst E;rw [r.o])
         | (at_builtin;refine Wz _ rfl (Z0 29) (Z0 34) 85 rfl w1.heap.size 39 i0 (Z5 ZX 0 0) 1 24 VQ kc kj kk km rfl (by decide) _ xs.length xs rfl (ay t (bA _ _)) ⟨wo.heap.size,0,ZX⟩ 1 1 [.slice au (M[k]).length cu] rfl rfl (mi _ _ rfl _ _) (by intro q Y;simp at Y;rw [Y];exact H.o.one) (by unfold maxLen;omega) (by omega) (by rw [Uh];omega) ?_;intro v' w2 J I kg))
        have V:=Rl.push k8.out HX.o t A rfl H.o I J;rw [<- k5.out,<- k6.out] at V;clear t J I kg A ki d;go_wp2;go_roundw
        case rel=>exact ⟨k+1,by omega,by go_num,V⟩
        case measure=>simp [intOf];omega
      . have g:lost/2^k%2=1:=(by omega);have r:=ak (show (((lost/2^k%2:Nat):Int)==1)=ZV by rw [g];rfl);have k7:=ak (BA M lost k m);clear m g;have p:=ak a;clear a;go_wp2_with (go_at_call 16;refine (zN lost k hl (by omega) _).mono ?_;rintro e w' ⟨rfl,l⟩;have E:=l.symm;clear l;subst E;rw [r.o]);go_roundw
        case rel=>exact ⟨k+1,by omega,by go_num,by rw [k7.out];exact p.o⟩
        case measure=>simp [intOf];omega
    . have ke:k=M.length:=(by omega);rw [ke] at a;have p:=ak a;have ka:=ak (a.rd (TU (jE _ _ _) (by omega)));clear B a;go_wp2_with fail;refine (Hc _ _ _ ka.out).mono ?_;rintro e w3 ⟨g,_,h⟩;obtain ⟨j,hj,rfl,hx⟩:=g R.out;have hb:w3.cell? ⟨w.heap.size,0,ZX⟩=ZW (Z7 Z9 (D:Nat)):=(by rw [h.cell (Ub d)];exact d);have kb:=ak hx;have hy:=ak h;clear g hx h;go_wp2;go_ret;have W:=p.o.choose_spec.2.2.2;have h:=hy.out;have ko:=W.size;refine ⟨((j:Int)==(D:Int)),rfl,?_,(k0.out.trans (W.mono (by omega))).trans (h.mono (by omega))⟩;rw [<- S.out _ kb.out];simp;omega
def dm (D L G:Nat) (dl:a8):List a8:=fm (aR D L G) (dS D dl) 44
def lQ (D L G:Nat) (dl:a8):(dm D L G dl).length=D+L+G:=by unfold dm fm;rw [T9,cL]
def Ik (hl:dl.length<=D*44) (d:1<=D):Fit (dS D dl)/\((dS D dl).getD 0 []).length=44:=by
 have a:((dS D dl).getD 0 []).length=44:=by
  have e:(dS D dl).getD 0 []=(dS D dl)[0]'(by rw [dY];omega):=by simp [dY,show 0<D by omega]
  rw [e,oG];exact mw hl (by omega)
 refine ⟨λi c=>?_,a⟩;have b:=c;rw [dY] at b;unfold Bt;rw [a,oG c,mw hl b];exact ⟨rfl,by decide⟩
def Lh (w:ZT) (base:Nat) (M:List a8) (u:ZS):Prop:=∃ T,ez w base u T/\cO T 44 M
def rp (c:D<=12) (d:G<=4) (dl:a8) (i:Nat) (a:i<(dm D L G dl).length):((dm D L G dl)[i]).length=44/\∀ x∈(dm D L G dl)[i],x<256:=by
 have b:i<(aR D L G).length:=by rw [cL];rw [lQ] at a;exact a
 have e:(dm D L G dl)[i]=cK (aR D L G)[i] (dS D dl) 44 (dS D dl).length:=by simp [dm,fm]
 rw [e];exact ⟨fV _ _ _ _,pR _ _ (oJ D L G c d _ (TY b)) _ _⟩
def Lh.rows {u:ZS} (h:Lh w base M u) (v:M≠[]) (r:∀ i (d:i<M.length),M[i].length=44/\∀ x∈M[i],x<256):∃ g c,u=Z5 (ZW ⟨g,0,ZX⟩) M.length c/\Nq w base g M:=by
 obtain ⟨T,l,k⟩:=h;have f:T.length=M.length:=by simpa using Uy YJ k
 rcases l.shape with ⟨_,q⟩|⟨g,cap,m,n,D,E,o,p,_,_⟩
 . exact absurd (UX (by rw [<- f,q];rfl)) v
 . refine ⟨g,cap,by rw [m,f],n,o,λi d=>?_⟩;have a:i<T.length:=(by omega);have s:=k.at a d;obtain ⟨A,e,F,G,H⟩:=l.row T[i] (TY a);have b:=p i a;unfold fP at b;rw [s] at b e;obtain ⟨B,C⟩:=r i d;refine ⟨T[i].1,0,M[i].length,b,A,e.lt,λj u z=>?_,B,C⟩;have y:=e.SP;have t:(aH M[i]).toArray[j]?=ZW u:=(by simpa using z);simp [World.cell?,y,t]
def Li {l:Nat} (b:iT D L G lost) (c:∀ i,l.testBit i=ZV->lost.testBit i=ZV):iT D L G l:=Hy _ lost l _ D (λi _ d=>by
 have a:=c i;rw [WV,WV,Wt,Wt] at a;have:=VS (l/2^i);omega) b
def aF.on (A:aF) (S:Nat):Prop:=∀ i b,A.bad i b=ZV->S.testBit i=ZV
def aF.fine (A:aF) (D L G:Nat):Prop:=∃ S,iT D L G S/\A.on S
def Cb {A:aF} {l:Nat} (h:¬ iT D L G l) (hl:∀ i,l.testBit i=ZV->∃ b,A.bad i b=ZV):¬ A.fine D L G:=λ⟨_,c,a⟩=>h (Li c λi q=>(hl i q).elim λb q=>a i b q)
theorem Il {A:aF} {ds:a8} {f:Nat->bw} (h:(A.putAt ds b f).bad i m=ZV):A.bad i m=ZV:=by
 have a:(if m=b/\i∈ds then ZU else A.bad i m)=ZV:=h;split at a
 . cases a
 . exact a
structure dZ (A B:aF):Prop where
 n:B.n=A.n
 nb:B.nb=A.nb
 tn:B.tn=A.tn
 bd:∀ i b,B.bad i b=ZV->A.bad i b=ZV
def dZ.refl (A:aF):dZ A A:=⟨rfl,rfl,rfl,λ_ _=>id⟩
def dZ.trans {A B C:aF} (h:dZ A B) (a:dZ B C):dZ A C:=⟨a.n.trans h.n,a.nb.trans h.nb,a.tn.trans h.tn,λi b c=>h.bd i b (a.bd i b c)⟩
def dZ.put (A:aF) (ds:a8) (b:Nat) (f:Nat->bw):dZ A (A.putAt ds b f):=⟨rfl,rfl,rfl,λ_ _=>Il⟩
def dZ.on {A B:aF} {S:Nat} (h:dZ A B) (a:A.on S):B.on S:=λi b q=>a i b (h.bd i b q)
def dZ.fine {A B:aF} (h:dZ A B):A.fine D L G->B.fine D L G:=λ⟨S,b,a⟩=>⟨S,b,h.on a⟩
theorem sq (q:Nat->Bool) (i:Nat):∀ (l:a8),(zC q l).testBit i=ZV↔i∈l/\q i=ZV:=by
 intro l;suffices ∀ (l:a8) (s:Nat),(l.foldl (λs d=>if q d=ZV then s|||2^d else s) s).testBit i=ZV↔s.testBit i=ZV\/(i∈l/\q i=ZV) by
  have h:=this l 0;rw [Xu] at h;unfold zC;rw [h];simp
 intro l;induction l with
 | nil=>intro s;simp
 | cons d l ih=>
  intro s;rw [W4,ih];by_cases b:q d=ZV
  . rw [TT b,Wh,XF,XH,decide_eq_true_iff,Uw];constructor
    . rintro ((h|h)|h)
      . exact .inl h
      . subst h;exact .inr ⟨.inl rfl,b⟩
      . exact .inr ⟨.inr h.1,h.2⟩
    . rintro (h|⟨h|h,a⟩)
      . exact .inl (.inl h)
      . exact .inl (.inr h.symm)
      . exact .inr ⟨h,a⟩
  . rw [TS b,Uw];constructor
    . rintro (h|h)
      . exact .inl h
      . exact .inr ⟨.inr h.1,h.2⟩
    . rintro (h|⟨h|h,a⟩)
      . exact .inl h
      . subst h;exact absurd a b
      . exact .inr ⟨h,a⟩
def vR (D L G:Nat) (dl:a8) (i:Nat):a8:=(dm D L G dl).getD i []
def Pu (D L G:Nat) (dl:a8) (i:Nat):bw:=.shard (vR D L G dl i)
def pU (b:zB D L G) (dl:a8) {i:Nat} (c:i<D+L+G):(vR D L G dl i).length=44/\∀ x∈vR D L G dl i,x<256:=by
 have a:i<(dm D L G dl).length:=by rw [lQ];exact c
 have e:vR D L G dl i=(dm D L G dl)[i]:=by unfold vR;simp [a]
 rw [e];exact rp b.d b.g _ i a
def aF.TI (A:aF) (D L G b:Nat) (dl:a8):aF:=A.putAt (YE A.n) b (Pu D L G dl)
def QF (w:ZT) (p:Nat) (B:aF) (F:aQ) (e:ZP) (w':ZT):Prop:=e=Z3 .nilIface/\aA w' p B F/\aa F.S w w'
theorem lf {A:aF} (d:pH w v p D L G ps ho A F) (b:Nat) (f:b<A.nb) (O:ZS) (dl:a8) (hd:Bs w O dl) (hs:dl.length<=D*44) :
 ZQ ZK 139 #[Z6 (ZW ⟨v,0,ZX⟩),Z7 Z9 b,O] w (QF w p (A.TI D L G b dl) F):=by
 obtain ⟨hr,hg,H,hL,hv,V,h9,he⟩:=d.par;have hn:=d.n;have HD:=ak hd;have j:=lQ D L G dl;have R:=rp (L:=L) H V dl;obtain ⟨M,I⟩:=nM (dm D L G dl);rw [I] at j R;have s:=al I j;clear I j;have hq:=Qv (d.vol.keep (w':=w.drew) rfl) H O dl (HD.o.mono (TW _ w).drew) hs;obtain ⟨U,hf⟩:=Ik hs hg;have J:=λu X h=>Ew D L G hr hg H hL hv V h9 u (dS D dl) X h (dY D dl) U;rw [hf] at J;obtain ⟨_,c1,c2,c3,_⟩:=d.vol.cells;have Q:=al hq J;clear hq J U hf;go_enter func139,ntmps139;go_wp2_with fail;go_region_with (first
  | (go_at_call 167;refine Q.o.1.mono ?_;rintro e w1 ⟨u,rfl,Z,f⟩;obtain ⟨_,d1,d2,d3,_⟩:=(d.vol.keep (f.block _ d.vol.lt)).cells;have a:=al Z f;clear Z f)
  | (go_at_call 166;refine (Q.o.2 _ _ a.o.1).mono ?_;rintro e w2 ⟨x,T,rfl,hT,W,f⟩;have r:=al (show Lh w2 w.heap.size (dm D L G dl) x from ⟨T,hT.weaken a.o.2.size,W⟩) (show bW w w2 from ((TW _ w).drew).trans (a.o.2.trans (f.mono a.o.2.size)));clear hT W f))
 all_goals (
  rename ZT=>w1;obtain ⟨B,E⟩:=r.o;rw [s.o.1] at B;have j:=s.o.2;obtain ⟨g,c,rfl,hm⟩:=B.rows (λe=>by rw [e] at j;simp at j;omega) R;have hp:=d.below E lR;have a:=aE hp hm E;clear B hm hp E j;go_wp2_with fail;refine (kJ a.o.1.vol d.par).mono ?_;rintro e w2 ⟨rfl,l⟩;obtain ⟨S,y⟩:=nM (2^(D+L+G)-1);rw [y];have t:ab S=YE A.n:=by rw [<- y,hn];exact ou he
  have hx:S<65536:=by
   have:2^(D+L+G)<=2^16:=U8 (by decide) he;omega
  have C:=a.o.1.below l lR;have hj:Nq w2 w.heap.size g M:=a.o.2.1.keep l.size (λk _ N=>l.block k N);have K:=kZ C b S f hx (λi q=>by rw [t] at q;simpa using q) (m:=M.length) (c:=c) hj (λi q=>by have:=s.o.2;rw [t] at q;simp at q;omega) lR (λk N=>d.arr.RO N);rw [t] at K;have r:=a5 K l y C;clear C hj K l t y;go_wp2_with fail;refine r.o.1.mono ?_;rintro e w3 ⟨rfl,z,hh⟩;have Y:aa F.S w w3:=(aa.RN (a.o.2.2.trans (r.o.2.1.mono a.o.2.2.size)) _).trans hh;rw [<- s.o.1] at z;have P:=al (show aA w3 p (A.TI D L G b dl) F from z) Y;clear z hh Y;go_wp2;go_ret;exact ⟨rfl,P.o.1,P.o.2⟩)
def cF (D:Nat) (P l:a8) (k:Nat):a8:=be (P.getD (k+1) 0) 4++(l.drop (k*(D*44-4))).take (D*44-4)
def aF.wrTo (A:aF) (D L G:Nat) (S:a8) (c:Nat->a8):Nat->aF
 | 0=>A
 | k+1=>(A.wrTo D L G S c k).TI D L G (S.getD k 0) (c k)
def ju (A:aF) (D L G:Nat) (S:a8) (c:Nat->a8):∀ k,(A.wrTo D L G S c k).n=A.n/\(A.wrTo D L G S c k).nb=A.nb/\dZ A (A.wrTo D L G S c k)
 | 0=>⟨rfl,rfl,dZ.refl A⟩
 | k+1=>have h:=ju A D L G S c k;⟨h.1,h.2.1,h.2.2.trans (dZ.put _ _ _ _)⟩
def EC (w:ZT) (p D L G:Nat) (S:a8) (c:Nat->a8) (A:aF) (F:aQ) (e:ZP) (w':ZT):Prop:=e=Z3 .nilIface/\aA w' p (A.wrTo D L G S c S.length) F/\aa F.S w w'
def pV (a:1<=D) (P l:a8) (k:Nat):(cF D P l k).length<=D*44:=by
 unfold cF;rw [T8,aC,Un];omega
def tU (hl:∀ x∈l,x<256) (P:a8) (k:Nat):∀ x∈cF D P l k,x<256:=by
 intro x a;unfold cF at a;rw [Uj] at a;rcases a with a|a
 . exact qT _ _ x a
 . exact hl x (U0 (UY a))
def Cc {size:Nat} {v:ZS} {S:Nat->Prop} (h:w.ownsRow base e size v n xs) (f:aa S w w') (i:∀ k,S k->k<base):w'.ownsRow base e size v n xs:=by
 refine ⟨h.1,?_⟩;rcases h.2 with d|⟨g,cap,cur,b,c,a,r⟩
 . exact .inl d
 . exact .inr ⟨g,cap,cur,b,c,(f.block g (TX.1 a).1 (λq=>by have:=i g q;omega)).trans a,r⟩
def eu.R6 {S:Nat->Prop} (h:aa S w w'):eu (λk=>¬ S k) w w':=⟨h.size,λk a b=>h.block k a b⟩
def sr {v:ZS} (h:bg K w v l) (hl:l≠[]):∃ b off c,v=Z5 (ZW ⟨b,off,ZX⟩) l.length c/\∀ i (e:i<l.length),w.cell? ⟨b,off+i,ZX⟩=ZW (Z7 Z9 ((l[i]:Nat):Int)):=by
 obtain ⟨ao,c,rfl,_,a⟩:=h;obtain ⟨b,off,rfl,_,_,d⟩:=a hl;exact ⟨b,off,c,rfl,d⟩
def Tryz.Sy:(ZK.info? 5).map (λi=>(i.zero,i.size,i.bytes))=ZW (ZW (Z7 .u8 0),1,1):=by kernel_rfl
theorem tV {A:aF} (z:bf w ar v D' L' G' t f nn pg ob off) (r:pH w v p D L G ps ho A F) (q0:¬ F.S ar)
 (g cap base:Nat) (l:a8) (K:w.ownsRow base 5 1 (Z5 (ZW ⟨g,0,ZX⟩) l.length cap) l.length (aH l)) (qd:∀ x∈l,x<256) (hll:l.length<=1000000) (hn:∀ k,F.S k->k<base)
 (vp:ZS) (P:a8) (C:bg (λk=>¬ F.S k) w vp P) (kh:∀ x∈P,x<A.nb) (kz:∀ k,k<P.length->k*(D*44-4)<=l.length) :
 ZQ ZK 119 #[Z6 (ZW ⟨ar,0,ZX⟩),Z5 (ZW ⟨g,0,ZX⟩) l.length cap,vp] w (EC w p D L G P (cF D P l) A F):=by
 have hz:=r.par.d1;have hD:=r.par.d;obtain ⟨i0,qa,qm,qn,qo⟩:=Us Tryz.Sy;obtain ⟨pa,pc,rfl,kg,_⟩:=id C;have k8:=kG z r.vol hz (by omega);obtain ⟨c,k9⟩:=nM (D*44-4);have qk:40<=c/\c<=524:=by omega
 rw [k9] at k8;have qs:=r.arr.Sx.2;have H0:=a5 z r K C;clear z r K C;go_enter func119,ntmps119;go_wp2_with fail;refine k8.mono ?_;rintro e w1 ⟨rfl,rfl⟩;clear k8;go_wp2;go_loopw [17] (λi wr=>∃ k:Nat,i=Z7 Z9 (k:Nat)/\k<=P.length/\aA wr p (A.wrTo D L G P (cF D P l) k) F/\aa (F.S) w1 wr) (λi _=>P.length-(intOf i).toNat)
 case atStart=>exact ⟨0,rfl,T5 _,H0.o.2.1.arr,aa.refl _ _⟩
 case round=>
  obtain ⟨k,rfl,hk,M,s⟩:=hrel;by_cases H:k<P.length
  . obtain ⟨z,r,K,C⟩:=H0.o;have ki:=C.keep (eu.R6 s);obtain ⟨b,bo,c',e1,k0⟩:=sr ki (λe=>by rw [e] at H;simp at H);simp only [VH] at e1;obtain ⟨rfl,_,rfl⟩:=e1;have c1:=k0 k H;obtain ⟨y,X⟩:=nM (P[k]);rw [X] at c1;have kb:y<A.nb:=(by rw [<- X];exact kh _ (TY H));obtain ⟨nx,I⟩:=nM (P.getD (k+1) 0);have hp:(k+1<P.length/\wr.cell? ⟨b,bo+(k+1),ZX⟩=ZW (Z7 Z9 (nx:Nat)))\/(¬ k+1<P.length/\nx=0):=by
     by_cases m:k+1<P.length
     . have:=k0 (k+1) m;have e:P.getD (k+1) 0=P[k+1]:=(by simp [m]);rw [<- e,I] at this;exact .inl ⟨m,this⟩
     . exact .inr ⟨m,by rw [<- I];simp [show P.length<=k+1 by omega]⟩
    have qi:nx<1000001:=by
     rcases XE (k+1) P.length with m|m
     . have e:P.getD (k+1) 0=P[k+1]:=(by simp [m]);rw [<- I,e];have:=kh _ (TY m);omega
     . rw [<- I];simp [m]
    have k7:=ju A D L G P (cF D P l) k;have kj:=r.turn s M k7.1;have h7:=Cc K s hn;have hx:=z.keep (s.block _ z.lt q0);obtain ⟨ca,_⟩:=hx.cells;have n:=hide8 M s kj h7 k7 hx I X;clear M s kj h7 k7 hx I X k0 ki z r K C;have k6:=kz k H;rw [k9] at k6;have q9:l.length<=cap:=by
     rcases n.o.2.2.2.1.2 with ⟨e,_⟩|⟨g',hb,cur,e,_,_,hc,_⟩
     . cases e
     . simp only [VH] at e;omega
    have Q:(k+1)*c=k*c+c:=WZ k c;have qe:(k:Int)*(c:Int)=((k*c:Nat):Int):=(by rw [XL]);have qf:((k:Int)+1)*(c:Int)=(((k+1)*c:Nat):Int):=(by rw [XL];rfl);obtain ⟨a,V⟩:=nM (k*c);obtain ⟨q,ha⟩:=nM ((k+1)*c);rw [V] at qe Q k6;rw [ha] at qf Q;obtain ⟨bb,kk⟩:=nM (min q l.length);have qp:a<=bb:=(by omega);have qq:bb<=cap:=(by omega);have T:bb-a<=524:=(by omega);have Z:((l.drop a).take c).length=bb-a:=(by rw [Un,Um];omega);have qg:∀ J ty w,(Builtin.min_ J ty #[Z7 Z9 (q:Nat),Z7 Z9 (l.length:Nat)]).run ZK w=.ok (Z7 Z9 (bb:Nat)) w:=λJ ty w=>by
     rw [gy];by_cases m:((l.length:Nat):Int)<((q:Nat):Int)
     . rw [TT m,show bb=l.length by omega]
     . rw [TS m,show bb=q by omega]
    have hq:∀ W:ZT,W.ownsRow base 5 1 (Z5 (ZW ⟨g,0,ZX⟩) l.length cap) l.length (aH l)->Src ZK 1 39 (.slice (if cap=a then ZW ⟨g,0,ZX⟩ else ZW ⟨g,a,ZX⟩) (bb-a) (cap-a)) (bb-a) (aH ((l.drop a).take c)) W:=λW R=>by
     have qj:W.rangeAt g 0 (aH l):=λj u h=>by have:=R.cells (g:=g) rfl j u h;rw [jC] at this;rw [Ui];exact this
     by_cases U:cap=a
     . have h0:(l.drop a).take c=[]:=UX (by omega);rw [TT U,h0,show bb-a=0 by omega];exact Vn W Ul ⟨g,0,ZX⟩ 0 (cap-a) (aH []) rfl (λj u h=>by simp [aH] at h) (λu h=>by simp [aH] at h)
     . rw [TS U];have kr:=np c (fR a qj);rw [Ui] at kr;exact Vn W Ul ⟨g,a,ZX⟩ (bb-a) (cap-a) _ (by rw [aX,Z,We]) (λj u h=>by rw [Vr];exact kr j u h) (λu h=>by unfold aH at h;rw [T7] at h;obtain ⟨x,_,rfl⟩:=h;rfl)
    have h8:∀ (W:ZT) (u:ZS),W.ownsRow wr.heap.size 5 1 u (0+4+(bb-a)) ([]++aH (be nx 4)++aH ((l.drop a).take c))->Bs W u (cF D P l k):=λW u h=>by
     have e:[]++aH (be nx 4)++aH ((l.drop a).take c)=aH (cF D P l k):=by
      unfold cF;rw [k9,V,n.o.2.2.2.2.2.2.1,bM,Uo]
     rw [e] at h;exact Bs.Sa h (tU qd P k) (TU (pV hz P l k) (by omega))
    have h2:∀ (W:ZT) (u:ZS),bW wr W->Bs W u (cF D P l k)->ZQ ZK 139 #[Z6 (ZW ⟨v,0,ZX⟩),Z7 Z9 (y:Nat),u] W λe w'=>e=Z3 .nilIface/\aA w' p (A.wrTo D L G P (cF D P l) (k+1)) F/\aa F.S w1 w':=λW u R h=>by
     obtain ⟨q1,q2,q3,q4,q5,q6,q7,q8⟩:=n.o;refine (lf (q3.below R lR) y (by rw [q5.2.1];exact kb) u (cF D P l k) h (pV hz P l k)).mono ?_;rintro e w' ⟨rfl,kx,ky⟩;have ey:P.getD k 0=y:=(by rw [<- q8];simp [H]);refine ⟨rfl,?_,q2.trans ((aa.RN R _).trans ky)⟩;show aA w' p ((A.wrTo D L G P (cF D P l) k).TI D L G (P.getD k 0) (cF D P l k)) F;rw [ey];exact kx
    have kc:=al h8 h2;clear h8 h2;have HK:=a7 V ha kk Z k6 Q;have qv:IntKind.u64.wrap (nx:Int)=(nx:Int):=(by rw [Vd];omega);have qc:a<=1000000/\q<=1000524/\bb<=1000000:=(by omega);clear V ha kk Z Q;go_upto_if 26 with fail;go_cut [10] from 27 to 31 (λu wc=>u=Z7 Z9 (nx:Nat)/\wc=wr)
    case first=>
     rcases hp with ⟨m,c2⟩|⟨m,qh⟩
     . have kv:(k:Int)+1<((P.length:Nat):Int):=(by omega);go_wp2;go_meet
       case rel=>exact ⟨rfl,rfl⟩
     . have kv:¬ (k:Int)+1<((P.length:Nat):Int):=(by omega);subst qh;go_wp2;go_meet
       case rel=>exact ⟨rfl,rfl⟩
    case rest=>
    obtain ⟨rfl,ka⟩:=hcut;have ka:=ka.symm;subst ka;clear hp c1;go_wp2_with fail;refine (fQ wr.heap.size (Z5 ZX 0 0) 0 [] nx 4 wr (UN _ _ _ _) lR (by decide) (by decide)).mono ?_;rintro e w2 ⟨v2,rfl,ko,E,hm⟩;have O:bW wr w2:=⟨E.os,E.tape,E.output,E.size,λk hk=>E.block k hk (λe=>by simp [Value.ownBlock] at e)⟩;have Y:=ay n.o.2.2.2.1 O;have hh:=n.o.2.2.2.2.2.1.keep (O.block _ n.o.2.2.2.2.2.1.lt);obtain ⟨cb,_⟩:=hh.cells;have B:=a6 ko O (hq w2 Y) Y hm;clear ko E O Y hm hh;go_wp2_with (
     at_builtin;
     refine ae _ rfl (Z0 35) (Z0 47) 39 39 rfl wr.heap.size 5 i0 (Z7 .u8 0) 1 1 Ul qa qm qn qo rfl v2 (0+4) ([]++aH (be nx 4)) (by rfl) (by exact B.o.1) _ (by rfl) (bb-a) (aH ((l.drop a).take c)) (by exact B.o.2.2.1) (by unfold maxLen;omega) (by omega) (by exact B.o.2.1.size) ?_;
     intro v3 w3 kp km k5;
     have T:bW wr w3:=B.o.2.1.grown km B.o.2.1.size (λk e=>(B.o.1.lt k e).1);
     have hi:=n.o.2.2.2.2.2.1.keep (T.block _ n.o.2.2.2.2.2.1.lt);
     obtain ⟨cc,_⟩:=hi.cells;
     have H3:=al kp T;
     clear kp T km k5 hi)
    all_goals
     refine (kc.out.2 w3 v3 H3.o.2 (kc.out.1 w3 v3 H3.o.1)).mono ?_;rintro e w4 ⟨rfl,ke,kf⟩
     . have N:=al ke kf;clear ke kf;go_wp2;first
        | exact ⟨⟨k+1,by go_num,by omega,N.o.1,N.o.2⟩,by simp only [intOf];omega⟩
        | (have U:cap=a:=by assumption
           subst U;go_roundw
           case rel=>exact ⟨k+1,by go_num,by omega,N.o.1,N.o.2⟩
           case measure=>
            show P.length-((k:Int)+1).toNat<P.length-((k:Nat):Int).toNat;omega)
  . have qb:k=P.length:=(by omega);subst qb;have n:=al M s;clear M s;go_wp2;go_ret;exact ⟨rfl,n.o.1,n.o.2⟩
def ED {a':Act} {d lo:Nat} {v:ZS} (f:a'.tmps.size=a.tmps.size) (c:a'.defers=a.defers) (m:lo+vs.length<=a.tmps.size) (n:d<lo) (j:a'.eval (.tmp d)=v) (g:∀ i,i<vs.length->a'.eval (.tmp (lo+i))=vs.getD i ZY) (h:∀ s,s≠d->s<lo\/lo+vs.length<=s->a'.eval (.tmp s)=a.eval (.tmp s)):a'=Act.RQ (a.put (ZW d) v) lo vs:=by
 obtain ⟨k,l⟩:=j7 vs (a.put (ZW d) v) lo;refine FW (f.trans ((k.trans (nU _ _ _)).symm)) (c.trans l.symm) λs _=>?_;rw [j8 vs _ lo s (by rw [nU];omega)];by_cases e:lo<=s/\s<lo+vs.length
 . rw [TT e];have:=g (s-lo) (by omega);rwa [show lo+(s-lo)=s by omega] at this
 . rw [TS e];by_cases b:s=d
   . subst b;rw [zq _ _ _ (by omega),j]
   . rw [ly _ _ _ _ (λq=>b q.symm)];exact h s b (by omega)
def nx (t:Nat):Nat:=(t+1)%18446744073709551616
def aat (t:Nat):nx t<18446744073709551616:=V9 _ (by decide)
noncomputable def RCm:Array ZO:=((Tryz.f85.body.bind (DA · 5))).getD #[]
def QG:List (Op×Option Nat×a8):=[(Op.move (Z0 0),ZW 19,[]),
 (Op.nilCheck (Z0 19),ZW 20,[0]),
 (Op.fieldAddr 135 (Z0 20) 0,ZW 21,[1]),
 (Op.load 128 (Z0 21),ZW 22,[2]),
 (Op.call { callee:=Callee.value (Operand.func 93),args:=#[Z0 22],argTypes:=#[128] },ZW 23,[3]),
 (Op.move (Z0 0),ZW 24,[]),
 (Op.nilCheck (Z0 24),ZW 25,[5]),
 (Op.fieldAddr 135 (Z0 25) 1,ZW 26,[6]),
 (Op.fieldAddr 130 (Z0 26) 1,ZW 27,[7]),
 (Op.load 23 (Z0 27),ZW 28,[8]),
 (Op.binOp BinOp.add 23 (Z0 28) (Operand.const (Value.int IntKind.u64 1)) 23,ZW 29,[9]),
 (Op.move (Z0 2),ZW 30,[]),
 (Op.indexAddr 131 (Z0 30) (Operand.const (Value.int IntKind.i64 0)),ZW 31,[11]),
 (Op.load 3 (Z0 31),ZW 32,[12]),
 (Op.move (Z0 7),ZW 33,[]),
 (Op.call { callee:=Callee.builtin Builtin.len,args:=#[Z0 33],argTypes:=#[39] },ZW 34,[14]),
 (Op.build 130 #[(0,Z0 23),(1,Z0 29),(2,Z0 32),(3,Z0 34)],ZW 35,[4,10,13,15]),
 (Op.alloc 130,ZW 9,[]),
 (Op.store 130 (Z0 9) (Z0 35),ZX,[17,16,4,0,1,2,3,4,5,6,7,8,9,10,11,12,13,14,15,16,17])]
def Im:bD RCm 9 36 QG:=eQ (by kernel_rfl) (by kernel_rfl)
def zO {s:ZL} (ho:o.op=.call { callee:=.builtin .len,args:=#[s],argTypes:=#[39] }) {so:Option Addr} {n c:Nat} (hx:a.eval s=.slice so n c) (w:ZT):(execOp a.eval o).run ZK w=.ok (.value (Z7 Z9 n)) w:=by
 unfold execOp;simp only [ho,resolve,invoke,builtin,Ux,Vf,UM,V3,UG,Vg,hx];simp [Builtin.len_,UO Ul,goInt]
def kM (w:ZT) (b:Nat):Prop:=∃ cs:Array ZS,cs.size=6/\w.heap[b]?=ZW (Z4 cs 130 (0,0))
def VCm (s ar v D L G t m pb po pn pc f:Nat) (so:Option Addr) (cap:Nat) (i:Nat) (u:ZS) (w:ZT):Prop:=match i with
 | 0|1|2|5|6=>u=Z6 (ZW ⟨ar,0,ZX⟩)
 | 3=>u=Z6 (ZW ⟨v,0,ZX⟩)
 | 4=>u=.agg #[Z7 Z9 D,Z7 Z9 L,Z7 Z9 G]
 | 7=>u=Z6 (ZW ⟨ar,1,ZX⟩)
 | 8=>u=Z6 (ZW ⟨ar,4,ZX⟩)
 | 9=>u=Z7 Z8 t
 | 10=>u=Z7 Z8 ((nx t:Nat):Int)
 | 11=>u=Z5 (ZW ⟨pb,po,ZX⟩) pn pc
 | 12=>u=Z6 (ZW ⟨pb,po,ZX⟩)
 | 13=>u=Z7 Z9 f
 | 14=>u=.slice so m cap
 | 15=>u=Z7 Z9 m
 | 16=>u=.agg (aj D L G (nx t) f m)
 | 17=>∃ b,u=Z6 (ZW ⟨b,0,ZX⟩)/\s<=b/\kM w b
 | 18=>∃ b,s<=b/\w.heap[b]?=ZW (Z4 (aj D L G (nx t) f m) 130 (0,0))
 | _=>True
def BCm (w0:ZT) (Dn:Nat->Bool) (w:ZT):Prop:=bW w0 w/\(∀ b b',w0.heap.size<=b->w0.heap.size<=b'->kM w b->kM w b'->b=b')/\(Dn 17=ZU->∀ b,w0.heap.size<=b->¬ kM w b)
def cG {Dn:Nat->Bool} (h:BCm w0 Dn w) (i:Nat) (a:i≠17):BCm w0 (mj Dn i) w:=⟨h.1,h.2.1,λq=>h.2.2 (by unfold mj at q;rwa [TS (λe=>a e.symm)] at q)⟩
def xS (w:ZT):(zeroValue 130).run ZK w=.ok (.agg (aj 0 0 0 0 0 0)) w:=by
 obtain ⟨a,b,c⟩:∃ a,ZK.info? 130=ZW a/\a.zero=ZW (.agg (aj 0 0 0 0 0 0)):=by
  have:(ZK.info? 130).map (λi=>i.zero)=ZW (ZW (.agg (aj 0 0 0 0 0 0))):=by kernel_rfl
  rw [Wi] at this;exact this
 simp [zeroValue,typeInfo,Ux,b,c]
def kN (D L G t f n:Nat):(ZK.info? 130).map (λi=>i.size)=ZW (aj D L G t f n).size:=by kernel_rfl
def pW (D L G t f n:Nat):(aj D L G t f n).all (λv=>v.oneCell')=ZV:=by simp [aj,Value.oneCell']
def tW (h:w.heap[b]?=ZW (Z4 cs 130 (0,0))) (a:cs.size=6):(Instr.storeAt 130 (Z6 (ZW ⟨b,0,ZX⟩)) (.agg (aj D L G t f n))).run ZK w=.ok () (w.setRow b (aj D L G t f n)):=by
 simp only [Instr.storeAt,Instr.sureAddr,Ux,Vf,UM,X4 w b 130 130 cs (aj D L G t f n) h (kN D L G t f n) (by rw [a];rfl) (pW D L G t f n)]
theorem wu {cap pb po pn pc:Nat} {so:Option Addr} (hp:RCm=ops) (l:bt w v p D L G ps ho) (V:w.heap[ar]?=ZW (Z4 cs 135 (0,0))) (h0:cs[0]?=ZW (Z6 (ZW ⟨v,0,ZX⟩))) (h4:cs[4]?=ZW (Z7 Z8 t)) (k9:1<=pn) (hx:w.cell? ⟨pb,po,ZX⟩=ZW (Z7 Z9 f))
 (ka:a.tmps.size=60) (Z:a.eval (Z0 0)=Z6 (ZW ⟨ar,0,ZX⟩)) (e2:a.eval (Z0 2)=Z5 (ZW ⟨pb,po,ZX⟩) pn pc) (e7:a.eval (Z0 7)=.slice so m cap)
 (hQ:∀ (w':ZT) (vs:List ZS) (b:Nat),vs.length=17->w.heap.size<=b->w'.heap[b]?=ZW (Z4 (aj D L G (nx t) f m) 130 (0,0))->bW w w'->Q .normal (Act.RQ (a.put (ZW 9) (Z6 (ZW ⟨b,0,ZX⟩))) 19 vs) w'):(Code.region 5 ops ZV).wp ZK Q a w:=by
 subst hp;have hf:ar<w.heap.size:=(TX.1 V).1;have n1:IntKind.u64.wrap ((t:Int)+1)=((nx t:Nat):Int):=by rw [Vd];unfold nx;omega
 refine gj (by kernel_rfl) Im a w (by omega) (VCm w.heap.size ar v D L G t m pb po pn pc f so cap) (BCm w) ⟨(TW _ w).drew,λb J I _ N _=>?_,λ_ b I N=>?_⟩ ?_ ?_
 . obtain ⟨c,_,N⟩:=N;have:=(TX.1 N).1;have k6:w.drew.heap.size=w.heap.size:=rfl;omega
 . obtain ⟨c,_,N⟩:=N;have:=(TX.1 N).1;have k6:w.drew.heap.size=w.heap.size:=rfl;omega
 . intro i R;match i,R with
   | 0,_=>exact λo g w' y E ho x A z C r d l=>aJ (bS ho ((A.slot 0 (by omega)).trans Z) w') x ⟨cG d _ (by decide),rfl,kq⟩
   | 1,_=>
    intro o g w' y E ho x A z C r d l;have u0:g.eval (Z0 19)=Z6 (ZW ⟨ar,0,ZX⟩):=l 0 (r 0 (by decide));exact aJ (kl ho u0 w') x ⟨cG d _ (by decide),rfl,kq⟩
   | 2,_=>
    intro o g w' y E ho x A z C r d l;have u0:g.eval (Z0 20)=Z6 (ZW ⟨ar,0,ZX⟩):=l 1 (r 1 (by decide));exact aJ (v:=Z6 (ZW ⟨ar,0,ZX⟩)) (by (conv at ho=>rhs;whnf);simp only [execOp,ho,u0];go_simp) x ⟨cG d _ (by decide),rfl,kq⟩
   | 3,_=>
    intro o g w' y E ho x A z C r d l;have u0:g.eval (Z0 21)=Z6 (ZW ⟨ar,0,ZX⟩):=l 2 (r 2 (by decide));have U:=(d.1.block ar hf).trans V;have c:w'.cell? ⟨ar,0,ZX⟩=ZW (Z6 (ZW ⟨v,0,ZX⟩)):=(by simp [World.cell?,U,h0]);exact aJ (v:=Z6 (ZW ⟨v,0,ZX⟩)) (by (conv at ho=>rhs;whnf);simp only [execOp,ho,u0];go_simp) x ⟨cG d _ (by decide),rfl,kq⟩
   | 4,_=>
    intro o g w' y E ho x A z C r d k0;have u0:g.eval (Z0 22)=Z6 (ZW ⟨v,0,ZX⟩):=k0 3 (r 3 (by decide));have T:y 18=ZU:=by
     cases q:y 18 with
     | false=>rfl
     | true=>have:=(C 18 q).2 4 (by decide);rw [z] at this;cases this
    refine r9 (f:=93) (args:=#[Z6 (ZW ⟨v,0,ZX⟩)]) (w1:=w') (by (conv at ho=>rhs;whnf);simp only [execOp,ho];go_simp;simpa [Act.eval] using u0) x (kF (l.keep (d.1.block _ l.lt))) ?_;rintro e Y ⟨rfl,I,hz,W⟩;have P:∀ b,kM Y b->kM w' b:=λb ⟨c,H,B⟩=>by
     have:=(TX.1 B).1;by_cases e:b=w'.heap.size
     . subst e;rw [W] at B;simp at B
     . exact ⟨c,H,(I.block b (by omega)).symm.trans B⟩
    refine ⟨_,rfl,⟨d.1.trans (I.mono d.1.size),λb J K M H B=>d.2.1 b J K M (P b H) (P J B),λq b K M=>d.2.2 (by unfold mj at q;rwa [TS (by decide)] at q) b K (P b M)⟩,rfl,λj u F q=>?_⟩;match j,F,q with
    | 0,_,q|1,_,q|2,_,q|3,_,q|4,_,q|5,_,q|6,_,q|7,_,q|8,_,q|9,_,q|10,_,q|11,_,q|12,_,q|13,_,q|14,_,q|15,_,q|16,_,q=>exact q
    | 17,_,⟨b,H,B,c,S,O⟩=>exact ⟨b,H,B,c,S,(I.block b (TX.1 O).1).trans O⟩
    | 18,F,_=>rw [T] at F;cases F
    | n+19,_,_=>trivial
   | 5,_=>exact λo g w' y E ho x A z C r d l=>aJ (bS ho ((A.slot 0 (by omega)).trans Z) w') x ⟨cG d _ (by decide),rfl,kq⟩
   | 6,_=>
    intro o g w' y E ho x A z C r d l;have u0:g.eval (Z0 24)=Z6 (ZW ⟨ar,0,ZX⟩):=l 5 (r 5 (by decide));exact aJ (kl ho u0 w') x ⟨cG d _ (by decide),rfl,kq⟩
   | 7,_=>
    intro o g w' y E ho x A z C r d l;have u0:g.eval (Z0 25)=Z6 (ZW ⟨ar,0,ZX⟩):=l 6 (r 6 (by decide));exact aJ (v:=Z6 (ZW ⟨ar,1,ZX⟩)) (by (conv at ho=>rhs;whnf);simp only [execOp,ho,u0];go_simp) x ⟨cG d _ (by decide),rfl,kq⟩
   | 8,_=>
    intro o g w' y E ho x A z C r d l;have u0:g.eval (Z0 26)=Z6 (ZW ⟨ar,1,ZX⟩):=l 7 (r 7 (by decide));exact aJ (v:=Z6 (ZW ⟨ar,4,ZX⟩)) (by (conv at ho=>rhs;whnf);simp only [execOp,ho,u0];go_simp) x ⟨cG d _ (by decide),rfl,kq⟩
   | 9,_=>
    intro o g w' y E ho x A z C r d l;have u0:g.eval (Z0 27)=Z6 (ZW ⟨ar,4,ZX⟩):=l 8 (r 8 (by decide));have U:=(d.1.block ar hf).trans V;have c:w'.cell? ⟨ar,4,ZX⟩=ZW (Z7 Z8 t):=(by simp [World.cell?,U,h4]);exact aJ (v:=Z7 Z8 t) (by (conv at ho=>rhs;whnf);simp only [execOp,ho,u0];go_simp) x ⟨cG d _ (by decide),rfl,kq⟩
   | 10,_=>
    intro o g w' y E ho x A z C r d l;have u0:g.eval (Z0 28)=Z7 Z8 t:=l 9 (r 9 (by decide));exact aJ (v:=Z7 Z8 ((nx t:Nat):Int)) (by (conv at ho=>rhs;whnf);simp only [execOp,ho,u0,show g.eval (Operand.const (Value.int IntKind.u64 1))=Value.int IntKind.u64 1 from rfl];go_simp) x ⟨cG d _ (by decide),rfl,kq⟩
   | 11,_=>exact λo g w' y E ho x A z C r d l=>aJ (bS ho ((A.slot 2 (by omega)).trans e2) w') x ⟨cG d _ (by decide),rfl,kq⟩
   | 12,_=>
    intro o g w' y E ho x A z C r d l;have u0:g.eval (Z0 30)=Z5 (ZW ⟨pb,po,ZX⟩) pn pc:=l 11 (r 11 (by decide));exact aJ (v:=Z6 (ZW ⟨pb,po,ZX⟩)) (by (conv at ho=>rhs;whnf);simp only [execOp,ho,u0,show g.eval (Operand.const (Value.int IntKind.i64 0))=Value.int IntKind.i64 0 from rfl];go_simp;intro h;omega) x ⟨cG d _ (by decide),rfl,kq⟩
   | 13,_=>
    intro o g w' y E ho x A z C r d l;have u0:g.eval (Z0 31)=Z6 (ZW ⟨pb,po,ZX⟩):=l 12 (r 12 (by decide));have c:w'.cell? ⟨pb,po,ZX⟩=ZW (Z7 Z9 f):=(d.1.cell (p:=⟨pb,po,ZX⟩) (Ub hx)).trans hx;exact aJ (v:=Z7 Z9 f) (by (conv at ho=>rhs;whnf);simp only [execOp,ho,u0];go_simp) x ⟨cG d _ (by decide),rfl,kq⟩
   | 14,_=>exact λo g w' y E ho x A z C r d l=>aJ (bS ho ((A.slot 7 (by omega)).trans e7) w') x ⟨cG d _ (by decide),rfl,kq⟩
   | 15,_=>
    intro o g w' y E ho x A z C r d l;have u0:g.eval (Z0 33)=.slice so m cap:=l 14 (r 14 (by decide));exact aJ (v:=Z7 Z9 m) (zO ho u0 w') x ⟨cG d _ (by decide),rfl,kq⟩
   | 16,_=>
    intro o g w' y E ho x A z C r d l;have u0:g.eval (Z0 23)=.agg #[Z7 Z9 D,Z7 Z9 L,Z7 Z9 G]:=l 4 (r 4 (by decide));have u1:g.eval (Z0 29)=Z7 Z8 ((nx t:Nat):Int):=l 10 (r 10 (by decide));have u2:g.eval (Z0 34)=Z7 Z9 m:=l 15 (r 15 (by decide));have u3:g.eval (Z0 32)=Z7 Z9 f:=l 13 (r 13 (by decide));exact aJ (v:=.agg (aj D L G (nx t) f m)) (by (conv at ho=>rhs;whnf);simp only [execOp,ho,V3,UG,Vg,u0,u1,u2,u3];go_simp;rfl) x ⟨cG d _ (by decide),rfl,kq⟩
   | 17,_=>
    intro o g w' y E ho x A z C r d l;have T:y 18=ZU:=by
     cases q:y 18 with
     | false=>rfl
     | true=>have:=(C 18 q).2 17 (by decide);rw [z] at this;cases this
    have P:∀ b,w.heap.size<=b->kM (w'.alloc (Z4 (aj 0 0 0 0 0 0) 130)) b->b=w'.heap.size:=λb I ⟨c,H,B⟩=>by
     have:=(TX.1 B).1;simp at this;by_cases e:b=w'.heap.size
     . exact e
     . exact absurd ⟨c,H,(UC _ _ _ (by omega)).symm.trans B⟩ (d.2.2 z b I)
    refine aJ (v:=Z6 (ZW ⟨w'.heap.size,0,ZX⟩)) (w':=w'.alloc (Z4 (aj 0 0 0 0 0 0) 130)) (by (conv at ho=>rhs;whnf);simp only [execOp,ho];go_simp;rfl) x ⟨⟨d.1.alloc d.1.size _,λb J K M H B=>(P b K H).trans (P J M B).symm,λq=>(by unfold mj at q;rw [TT rfl] at q;cases q)⟩,⟨_,rfl,d.1.size,_,rfl,Ug _ _⟩,λj u F q=>?_⟩;match j,F,q with
    | 0,_,q|1,_,q|2,_,q|3,_,q|4,_,q|5,_,q|6,_,q|7,_,q|8,_,q|9,_,q|10,_,q|11,_,q|12,_,q|13,_,q|14,_,q|15,_,q|16,_,q=>exact q
    | 17,F,_=>rw [z] at F;cases F
    | 18,F,_=>rw [T] at F;cases F
    | n+19,_,_=>trivial
   | 18,_=>
    intro o g w' y E ho x A z C r d l;obtain ⟨b,u0,I,c,S,O⟩:VCm w.heap.size ar v D L G t m pb po pn pc f so cap 17 (g.eval (Z0 9)) w':=l 17 (r 17 (by decide));have u1:g.eval (Z0 35)=.agg (aj D L G (nx t) f m):=l 16 (r 16 (by decide));have X:∀ J,kM (w'.setRow b (aj D L G (nx t) f m)) J->kM w' J:=λJ ⟨c',H,B⟩=>by
     by_cases e:J=b
     . subst e;exact ⟨c,S,O⟩
     . exact ⟨c',H,((aL w' b _).block J (by have:=(TX.1 B).1;rwa [gz] at this) (λq=>e (by cases q;rfl))).symm.trans B⟩
    have hO:ZR w.heap.size w' (w'.setRow b (aj D L G (nx t) f m)):=⟨rfl,rfl,rfl,by rw [gz];exact TV _,λk A=>(aL w' b _).block k (by have:=d.1.size;omega) (λq=>by cases q;omega)⟩;refine FX (w':=w'.setRow b (aj D L G (nx t) f m)) (by (conv at ho=>rhs;whnf);simp [execOp,ho,u0,u1,tW O S]) ⟨⟨d.1.trans hO,λb1 b2 K M H B=>d.2.1 b1 b2 K M (X b1 H) (X b2 B),λq b1 K M=>d.2.2 (by unfold mj at q;rwa [TS (by decide)] at q) b1 K (X b1 M)⟩,⟨b,I,Vv w' b c _ _ _ O⟩,λj u F q=>?_⟩;match j,F,q with
    | 0,_,q|1,_,q|2,_,q|3,_,q|4,_,q|5,_,q|6,_,q|7,_,q|8,_,q|9,_,q|10,_,q|11,_,q|12,_,q|13,_,q|14,_,q|15,_,q|16,_,q=>exact q
    | 17,_,⟨b1,H,B,c1,q5,q6⟩=>
     refine ⟨b1,H,B,?_⟩;have e:b1=b:=d.2.1 b1 b B I ⟨c1,q5,q6⟩ ⟨c,S,O⟩;subst e;exact ⟨_,rfl,Vv w' b1 c1 _ _ _ q6⟩
    | 18,F,_=>rw [z] at F;cases F
    | n+19,_,_=>trivial
   | n+19,W=>exact absurd W (by show ¬ n+19<19;omega)
 . rintro g w' hv hh ⟨y,hD,d⟩ l;obtain ⟨b,u0,I,N⟩:VCm w.heap.size ar v D L G t m pb po pn pc f so cap 17 (g.eval (Z0 9)) w':=l 17 (by decide);obtain ⟨b2,k5,hy⟩:VCm w.heap.size ar v D L G t m pb po pn pc f so cap 18 ZY w':=l 18 (by decide);have e:b2=b:=d.2.1 b2 b k5 I ⟨_,rfl,hy⟩ N;subst e;have e:g=Act.RQ (a.put (ZW 9) (Z6 (ZW ⟨b2,0,ZX⟩))) 19 ((YE 17).map λi=>g.eval (.tmp (19+i))):=ED hv.size hv.defers (by rw [T9,UK];omega) (by decide) u0 (λi R=>by
    rw [T9,UK] at R;rw [T6,UA,VP R];rfl) (λs hs k7=>by
    rw [T9,UK] at k7;refine hh s λi R=>?_;have k8:i<19:=R;rcases XE i 17 with h|h
    . intro q;have h3:(dQ QG i).2.1=ZW (19+i):=by
       have:∀ i,i<17->(dQ QG i).2.1=ZW (19+i):=by decide
       exact this i h
      rw [h3] at q;have:=UJ q;omega
    . rcases XE i 18 with h5|h5
      . have:i=17:=by omega
        subst this;intro q;have:=UJ q;omega
      . have:i=18:=by omega
        subst this;intro q;cases q)
   rw [e];exact hQ w' _ b2 (by rw [T9,UK]) I hy d.1
def EE (h:w.heap[q]?=ZW (Z4 (aj D L G t f n) 130 (0,0))):(Instr.loadAt 130 (Z6 (ZW ⟨q,0,ZX⟩))).run ZK w=.ok (.agg (aj D L G t f n)) w:=by
 simp only [Instr.loadAt,Instr.sureAddr,Ux,Vf,UM,Xj w q 130 130 (aj D L G t f n) (0,0) _ h XD rfl (by kernel_rfl)]
def kO (e:o.guard=ZX) (x:ZL) (ho:o.op=.load 130 x) {b D L G t f n:Nat} {ra:Array ZS} (c:ra=aj D L G t f n)
 (g:a.eval x=Z6 (ZW ⟨b,0,ZX⟩)) (d:w.heap[b]?=ZW (Z4 (aj D L G t f n) 130 (0,0))) (h:wpList ZK ops Q rest (a.put o.dst (.agg ra)) w):wpList ZK ops Q (o::rest) a w:=by
 refine VZ e λK hK=>?_;subst c;unfold Oper.wp;simp [execOp,ho,g,EE d,Result.andThen];exact hK _ _ h
def Cd (h:bf w ar v D' L' G' t' f' n' pg ob off):bf (w.setCells ar 1 (aj D L G t f n).toList) ar v D L G t f n pg ob off:=by
 have a:w.heap[ar]?=ZW (Z4 (lH v D' L' G' t' f' n' pg ob off) 135 (0,0)):=h;have:=ag (j:=6) (ag (j:=5) (ag (j:=4) (ag (j:=3) (ag (j:=2) (ag (j:=1) a (Z7 Z9 (D:Int))) (Z7 Z9 (L:Int))) (Z7 Z9 (G:Int))) (Z7 Z8 (t:Int))) (Z7 Z9 (f:Int))) (Z7 Z9 (n:Int));exact this
def bf.there (h:bf w ar v D' L' G' t' f' n' pg ob off):w.there ar 1 6:=by
 have a:w.heap[ar]?=ZW (Z4 (lH v D' L' G' t' f' n' pg ob off) 135 (0,0)):=h;intro j b;match j,b with
 | 0,_|1,_|2,_|3,_|4,_|5,_=>simp [World.cell?,World.frozen?,a,lH]
 | n+6,hn=>exact absurd hn (by omega)
def bf.late (h:bf w ar v D' L' G' t' f' n' pg ob off) (b a:ZS):bf ((w.setCell ⟨ar,7,ZX⟩ b).setCell ⟨ar,8,ZX⟩ a) ar v D' L' G' t' f' n' b a off:=by
 have c:w.heap[ar]?=ZW (Z4 (lH v D' L' G' t' f' n' pg ob off) 135 (0,0)):=h;exact ag (j:=8) (ag (j:=7) c b) a
def bf.tail (h:bf w ar v D' L' G' t' f' n' pg ob off):w.cell? ⟨ar,7,ZX⟩=ZW pg/\w.frozen? ⟨ar,7,ZX⟩=ZU/\w.cell? ⟨ar,8,ZX⟩=ZW ob/\w.frozen? ⟨ar,8,ZX⟩=ZU:=by
 have a:w.heap[ar]?=ZW (Z4 (lH v D' L' G' t' f' n' pg ob off) 135 (0,0)):=h;simp [World.cell?,World.frozen?,a,lH]
def QH (h:vs.length=17):∃ a b c d e f g i j k l m n o p q r,vs=[a,b,c,d,e,f,g,i,j,k,l,m,n,o,p,q,r]:=by
 match vs,h with
 | [a,b,c,d,e,f,g,i,j,k,l,m,n,o,p,q,r],_=>exact ⟨_,_,_,_,_,_,_,_,_,_,_,_,_,_,_,_,_,rfl⟩
def EF (w:ZT) (vo:ZS) (l:a8):Prop:=∀ W,bW w W->ZQ ZK 118 #[vo] W λe w'=>∃ g cap,e=Z3 (Z5 (ZW ⟨g,0,ZX⟩) l.length cap)/\w'.ownsRow W.heap.size 5 1 (Z5 (ZW ⟨g,0,ZX⟩) l.length cap) l.length (aH l)/\bW W w'
def aF.TG (A:aF) (D L G t:Nat) (P l:a8):aF:=(A.wrTo D L G P (cF D P l) P.length).putAt (YE A.n) 0 (λ_=>.root D L G t (P.getD 0 0) l.length)
def Lj (w:ZT) (ar v p D L G t:Nat) (A:aF) (F:aQ) (P l:a8) (vp vo:ZS) (off:Bool) (e:ZP) (w':ZT):Prop:=aa (λk=>k=ar\/F.S k) w w'/\e=Z3 .nilIface/\aA w' p (A.TG D L G (nx t) P l) F/\bf w' ar v D L G (nx t) (P.getD 0 0) l.length vp vo off
theorem ny {A:aF} (ha:bf w ar v D' L' G' t f nn pg ob off) (B:pH w v p D L G ps ho A F) (O:¬ F.S ar)
 (oo:Option Addr) (on oc:Nat) (l:a8) (qb:∀ x∈l,x<256) (hll:l.length<=1000000) (qd:EF w (.slice oo on oc) l)
 (pb po pc:Nat) (P:a8) (hP:bg (λk=>¬ F.S k) w (Z5 (ZW ⟨pb,po,ZX⟩) P.length pc) P) (kr:P≠[]) (kv:∀ x∈P,x<A.nb) (q7:∀ k,k<P.length->k*(D*44-4)<=l.length) :
 ZQ ZK 85 #[Z6 (ZW ⟨ar,0,ZX⟩),.slice oo on oc,Z5 (ZW ⟨pb,po,ZX⟩) P.length pc] w (Lj w ar v p D L G t A F P l (Z5 (ZW ⟨pb,po,ZX⟩) P.length pc) (.slice oo on oc) off):=by
 obtain ⟨hr,qf,hD,hL,qg,hG,q9,kj⟩:=B.par;have hn:=B.n;have h8:0<P.length:=Yi.2 kr;obtain ⟨a,W⟩:=nM (P.getD 0 0);have hf:P[0]=a:=by rw [<- W];simp [h8]
 have qh:=B.arr.Sx.2;have qa:a<A.nb:=by rw [<- hf];exact kv _ (TY _)
 have qc:(bw.root D L G (nx t) a l.length).ok:=by
  have:=aat t;exact ⟨by omega,by omega,by omega,by omega,by omega,by omega⟩
 unfold Lj aF.TG;rw [W];have HA:=al W hf;have HP:=ak hP;clear W hf hP;go_enter func85,ntmps85;go_wp2_with fail;refine (qd w (TW _ w)).mono ?_;rintro e w1 ⟨g,cap,rfl,hv,m⟩;have C:=ha.keep (m.block _ ha.lt);have I:=B.below m lR;have Y:=HP.o.keep (eu.RM m);have q5:=tV C I O g cap w.heap.size l hv qb hll (λk M=>B.arr.RO M) _ P Y kv q7;have H1:=a6 m q5 Y C I;clear m q5 Y hv C I;go_wp2_with fail;refine H1.o.2.1.mono ?_;rintro e w2 ⟨rfl,kk,E⟩;obtain ⟨m,_,hp,C,I⟩:=H1.o;have J:=C.keep (E.block _ C.lt O);have u:aa F.S w w2:=(aa.RN m _).trans E;have q1:=ju A D L G P (cF D P l) P.length;have N:=I.turn E kk q1.1;have ks:=hp.keep (eu.R6 E);obtain ⟨b',qj,c',e1,ky⟩:=sr ks kr;simp only [VH,UF,abw] at e1;obtain ⟨⟨rfl,rfl,_⟩,_,rfl⟩:=e1;have kf:=ky 0 h8;rw [VR,HA.o.2] at kf;have u:aa (F.S) w w2:=(aa.RN m _).trans E;have Q:=a5 J N u kf;clear m hp C I kk E J N ks ky kf u;go_wp2_with fail;refine wu (f:=a) (by kernel_rfl) Q.o.2.1.vol Q.o.1 rfl rfl (by omega) Q.o.2.2.2 rfl rfl rfl rfl ?_;intro r vs d q3 kh b V;obtain ⟨x0,x1,x2,x3,x4,x5,x6,x7,x8,x9,xa,xb,xc,xd,xe,xf,xg,rfl⟩:=QH q3;obtain ⟨J,N,u,kg⟩:=Q.o;clear kg;have c:=J.keep (V.block _ J.lt);have j:=N.below V lR;have s:aa (F.S) w r:=u.trans (aa.RN V _);have y:¬ F.S d:=λq=>by have:=B.arr.RO q;have:=u.size;omega
 have H3:=a7 c j s b y kh;clear J N u c j s b y kh V q3;rename_i hK
 refine hK _ _ ?_;clear hK;simp only [Act.RQ,Act.put,Ue,Uc,Uf];go_wp2_with fail;obtain ⟨c,j,s,b,y,kh⟩:=H3.o;obtain ⟨hd,qi,qk,qm⟩:=q1;obtain ⟨S,Z⟩:=nM (2^(D+L+G)-1);have ka:ab S=YE A.n:=by rw [<- Z,hn];exact ou kj
 have kx:S<65536:=by
  have:2^(D+L+G)<=2^16:=U8 (by decide) kj;omega
 have q4:∀ X,bW r X->ZQ ZK 120 #[Z6 (ZW ⟨v,0,ZX⟩),Z7 Z9 (0:Nat),cZ (.root D L G (nx t) a l.length),Z7 Z8 S] X λe w'=>(∃ z:Nat,e=Z3 (Z7 Z8 z))/\aA w' p ((A.wrTo D L G P (cF D P l) P.length).putAt (YE A.n) 0 (λ_=>.root D L G (nx t) a l.length)) F/\aa (F.S) r w':=λX K=>by
  have q8:=j.below K lR;have h:=eX q8 0 S (by rw [qi];omega) kx (λi hi=>by rw [hd];rw [ka] at hi;simpa using hi) (.root D L G (nx t) a l.length) qc;rw [ka] at h;exact h.mono λe w' q=>⟨⟨_,q.1⟩,q.2.1,(aa.RN K _).trans q.2.2⟩
 have kc:=kJ (j.vol.keep (w':=r.drew) rfl) B.par;rw [Z] at kc;have ke:∀ X,bW r X->X.cell? ⟨ar,0,ZX⟩=ZW (Z6 (ZW ⟨v,0,ZX⟩))/\X.cell? ⟨d,0,ZX⟩=ZW (Z7 Z9 D)/\X.cell? ⟨d,1,ZX⟩=ZW (Z7 Z9 L)/\X.cell? ⟨d,2,ZX⟩=ZW (Z7 Z9 G)/\X.cell? ⟨d,3,ZX⟩=ZW (Z7 Z8 (nx t))/\X.cell? ⟨d,4,ZX⟩=ZW (Z7 Z9 a)/\X.cell? ⟨d,5,ZX⟩=ZW (Z7 Z9 l.length):=λX K=>by
  have qe:X.heap[d]?=ZW (Z4 (aj D L G (nx t) a l.length) 130 (0,0)):=(K.block d (TX.1 b).1).trans b;refine ⟨(c.keep (K.block _ c.lt)).cells.1,?_,?_,?_,?_,?_,?_⟩<;>simp [World.cell?,qe,aj]
 obtain ⟨k0,k1,k2,k3,k4,k5,k6⟩:=ke r (TW _ _);have R:=aE q4 kc ke;have q6:=a6 c j s b y;clear q4 kc ke c j s b y Z ka kx;go_cut [47] from 36 to 46 (λ_ wx=>aA wx p ((A.wrTo D L G P (cF D P l) P.length).putAt (YE A.n) 0 (λ_=>.root D L G (nx t) a l.length)) F/\aa (F.S) r wx)
 case first=>
  go_region_with (first
   | (go_at_call 121;refine R.o.2.1.mono ?_;rintro e w5 ⟨rfl,kz⟩;have he:bW r w5:=((TW _ r).drew).trans kz;obtain ⟨j0,j1,j2,j3,j4,j5,j6⟩:=R.o.2.2 w5 he;have H5:=ak he;clear kz he)
   | (go_at_call 120;refine (R.o.1 w5 H5.o).mono ?_;rintro e w6 ⟨⟨z,rfl⟩,ko,kp⟩;have H6:=al ko kp;clear ko kp))
  all_goals (go_wp2_with fail;go_meet;case rel=>exact H6.o)
 case rest=>
 rename ZT=>w4;obtain ⟨km,T⟩:=hcut;obtain ⟨c,j,s,b,y⟩:=q6.out;clear k0 k1 k2 k3 k4 k5 k6 R;have kb:=c.keep (T.block _ c.lt O);have h5:=(T.block d (TX.1 b).1 y).trans b;have hm:aa (λk=>k=ar\/F.S k) w w4:=(s.trans T).mono λ_ _ q=>.inr q;have q2:=kb.there;have U:=Cd (D:=D) (L:=L) (G:=G) (t:=nx t) (f:=a) (n:=l.length) kb;have k9:=hm.trans (aa.setCells (S:=λk=>k=ar\/F.S k) _ ar 1 (aj D L G (nx t) a l.length).toList (.inl rfl));have k8:=km.outside (aa.setCells (S:=λk=>k=ar) w4 ar 1 (aj D L G (nx t) a l.length).toList rfl) (λk M e=>O (e▸M));obtain ⟨w8,ki⟩:=nM (w4.setCells ar 1 (aj D L G (nx t) a l.length).toList);rw [ki] at U k9 k8;obtain ⟨c7,f7,c8,f8⟩:=U.tail;have H:=a7 k8 k9 U q2 h5 ki;clear km T kb hm q2 U k9 k8 ki h5 c j s b;go_wp2_with (first|(refine kO rfl (Z0 9) rfl rfl (by rfl) (by exact H.o.2.2.2.2.1) ?_)|(refine wpList_store_mid rfl 130 (Z0 55) (Z0 51) rfl ar 1 (aj D L G (nx t) a l.length) (by rfl) (by rfl) (by exact H.o.2.2.2.1) (kN _ _ _ _ _ _) (pW _ _ _ _ _ _) ?_;rw [H.o.2.2.2.2.2]));go_ret;refine ⟨(H.o.2.1.trans (aa.setCell _ _ _ (.inl rfl))).trans (aa.setCell _ _ _ (.inl rfl)),rfl,?_,H.o.2.2.1.late _ _⟩;exact H.o.1.keep λk M=>by
  have q0:k≠ar:=λe=>O (e▸M);exact (Ud _ _ _ _ q0).trans (Ud _ _ _ _ q0)
def su {v:ZS} {B:ZT->Prop} (i:(execOp a.eval o).run P w=.ok (.value v) w') (f:∀ c,o.op≠.defer c) {d:Nat} (g:o.dst=ZW d) (h:B w'/\Vi v w'/\S w') :
 o.wpIn Fence.wide n P a w (λb w'=>∃ v,b=a.put o.dst v/\(o.dst=ZX->v=ZY)/\B w'/\Vi v w'/\S w') Q:=by
 refine ⟨λ_ _=>trivial,?_⟩;rw [VF _ _ _ f,i];exact ⟨v,rfl,λe=>(by rw [g] at e;cases e),h.1,h.2.1,h.2.2⟩
def Ce {B:ZT->Prop} (e:(execOp a.eval o).run P w=.ok .skip w') (d:∀ c,o.op≠.defer c) (h:B w'/\Vi ZY w'/\S w') :
 o.wpIn Fence.wide n P a w (λb w'=>∃ v,b=a.put o.dst v/\(o.dst=ZX->v=ZY)/\B w'/\Vi v w'/\S w') Q:=by
 refine ⟨λ_ _=>trivial,?_⟩;rw [VF _ _ _ d,e];exact ⟨ZY,rfl,λ_=>rfl,h.1,h.2.1,h.2.2⟩
def Lk {w1:ZT} {f:FuncId} {Rr:ZP->ZT->Prop} {B:ZT->Prop} (l:(execOp a.eval o).run P w=.ok (.enter f args) w1) (g:∀ c,o.op≠.defer c) {d:Nat} (k:o.dst=ZW d) (j:ZQ P f args w1 Rr)
 (h:∀ e w',Rr e w'->∃ v,e=Z3 v/\B w'/\Vi v w'/\S w'):o.wpIn Fence.wide n P a w (λb w'=>∃ v,b=a.put o.dst v/\(o.dst=ZX->v=ZY)/\B w'/\Vi v w'/\S w') Q:=by
 refine ⟨λ_ _=>trivial,?_⟩;rw [VF _ _ _ g,l];refine ⟨λh=>(by cases h),(Vc.2 (j.mono λe w' i=>?_))⟩;obtain ⟨v,rfl,m,p,q⟩:=h e w' i;exact ⟨v,rfl,λe=>(by rw [k] at e;cases e),m,p,q⟩
section
attribute [local go_sem] Oper.semAt_some
def pX (K:Nat->Prop) (n b1:Nat) (v:ZS) (os:List Ob) (w:ZT) (i:b1<w.heap.size) (b:w.cell? ⟨b1,0,ZX⟩=ZW v) (j:eN K w v os) :
 SeqStopsK Fence.wide n ZK 148 #[Z6 (ZW ⟨b1,0,ZX⟩)] nu (eu K) (λu=>u=af os) (λpre=>pre<+:af os) (af os).length w:=λl J d W c m _ o f=>by
 refine (tI K n l b1 v os J d (λpre A B h a=>m pre A B ZX h ⟨a.os,a.tape,a.output,a.size,λk q _=>a.block k q⟩ (λr e=>by cases e)) (af os).length o [] (by simp) W ((c.cell (p:=⟨b1,0,ZX⟩) i).trans b) (j.keep (eu.RM c)) f).mono ?_;rintro e x ⟨b,g⟩;refine ⟨b,?_⟩;rcases g with h|⟨pre,s,t⟩
 . exact .inl ⟨_,rfl,by simpa using h⟩
 . exact .inr ⟨pre,s,by simpa using t⟩
structure RmI (w:ZT) (B:Nat) (pre:a8) (X:ZT):Prop where
 box:ZM X w.heap.size 3 (Z7 Z9 (pre.length:Nat))
 below:bW w X
 size:B<=X.heap.size
def RmI.Td (h:w.heap.size<B):OwnFrom B (RmI w B):=by
 rintro pre X Y row ⟨f,b,g⟩ a d;have c:∀ k,k<B->Y.heap[k]?=X.heap[k]?:=λk c=>a.block k (by omega) (λe=>by have:=(d k e.symm).1;omega);exact ⟨(c _ (by omega)).trans f,b.grown a b.size (λk e=>by have:=(d k e).1;omega),TU g a.size⟩
theorem Cf {A:aF} (j:bf w ar v D' L' G' t f nn pg ob off) (m:bt w v p D L G ps ho) (h:aA w p A F) (hn:0<A.n) (os:List Ob) (u:eN (λk=>k<w.heap.size) w ob os) (hv:(af os).length<=1000000) (count pages:Nat) (he:count<=1000000) (hg:pages<=1000000) :
 ZQ ZK 100 #[Z6 (ZW ⟨ar,0,ZX⟩),Z7 Z9 (count:Nat),Z7 Z9 (pages:Nat)] w λe w'=>e=Z3 (Z1 (decide ((af os).length+count+2*pages+2<=A.nb)))/\bW w w':=by
 obtain ⟨n,HN⟩:∃ n:Nat,cA (9<=n):=⟨9,TV _⟩;obtain ⟨c0,_,_,_,P⟩:=j.cells;obtain ⟨d,c,rfl,hol,_⟩:=id u;have H:=a5 j m h u;clear j m h u;refine (Vc (n:=n)).1 ?_;refine Wf func100 rfl trivial ?_ rfl;simp only [ntmps100,UH,UD,UW,YF,YG,Vj,Vk,Vl,Vm,Uo,UU];have g:bW w (w.alloc (Z4 #[Z7 Z9 0] 3)):=bA w _;have Q:=(g.cell (p:=⟨ar,8,ZX⟩) H.o.1.lt).trans P;have r:ZM (w.alloc (Z4 #[Z7 Z9 0] 3)) w.heap.size 3 (Z7 Z9 0):=Ut w _ _;have y:(w.alloc (Z4 #[Z7 Z9 0] 3)).heap.size=w.heap.size+1:=by simp
 have I:=aE g r y;clear g r y;gi_wp2;refine cj (lJ d os.length c (w.alloc (Z4 #[Z7 Z9 0] 3))) ?_;rintro e w' ⟨rfl,rfl⟩;obtain ⟨w1,hy⟩:=nM (w.alloc (Z4 #[Z7 Z9 0] 3));rw [hy] at I Q ⊢;have C:bW w1 (w1.alloc (Z4 #[.slice d os.length c] 133)):=bA w1 _;have z:(w1.alloc (Z4 #[.slice d os.length c] 133)).cell? ⟨w1.heap.size,0,ZX⟩=ZW (.slice d os.length c):=(Ut w1 _ _).cell;have N:(w1.alloc (Z4 #[.slice d os.length c] 133)).heap.size=w1.heap.size+1:=by simp
 obtain ⟨w2,hz⟩:=nM (w1.alloc (Z4 #[.slice d os.length c] 133));rw [hz] at C z N ⊢;obtain ⟨g,r,y⟩:=I.o;have B:bW w w2:=g.trans (C.mono g.size);have V:RmI w w2.heap.size [] w2:=⟨(C.block _ (by omega)).trans r,B,TV _⟩;have Z:eN (λk=>k<w.heap.size) w2 (.slice d os.length c) os:=H.o.2.2.2.keep (eu.RM B);have hs:=pX (λk=>k<w.heap.size) (n-1) w1.heap.size _ os w2 (by omega) z Z;have O:=aE V hs B;have T:w1.heap.size=w.heap.size+1:=y;have U:w2.heap.size=w.heap.size+2:=by omega
 have HZ:=al T U;clear V hs B Z g r y C z N hz hy Q T U I P;gi_wp2;obtain ⟨kc,N⟩:=HZ.o;refine Wg rfl (by have:=HN.o;omega) (gf:=148) (lb:=#[Z6 (ZW ⟨w1.heap.size,0,ZX⟩)]) rfl trivial (Ve func148 (by kernel_rfl) rfl)
  O.o.2.1 (λh k=>h.trans k) (λW l o o' hl _ _ _=>⟨by simp [World.putObj],λk _ E=>US (by omega)⟩) (TW _ _) (λ_=>rfl)
  (RmI w w2.heap.size) (λ_ _ _=>False) (RmI.Td (by omega)) (λ_ _ _ _ _ h _ _=>h.elim) O.o.1
  (λx=>{ tmps:=#[Z6 (ZW ⟨ar,0,ZX⟩),Z7 Z9 (count:Nat),Z7 Z9 (pages:Nat),ZY,ZY,ZY,Z1 ZU,Z6 (ZW ⟨w.heap.size,0,ZX⟩),Z6 (ZW ⟨ar,0,ZX⟩),Z6 (ZW ⟨ar,0,ZX⟩),Z6 (ZW ⟨ar,8,ZX⟩),.slice d os.length c,.func (.func 148) #[] #[Z6 (ZW ⟨w1.heap.size,0,ZX⟩)],Z7 Z9 (x:Nat),ZY,ZY,ZY,ZY,ZY,ZY,ZY,ZY,ZY,ZY,ZY,ZY,ZY,ZY,ZY],defers:=[] }) ?assign ?body ?done ?stop
 case assign=>
  intro l2 x X Kk hK;unfold nu;gi_wp2;simpa using hK
 case body=>
  rintro l2 pre x X b S;have c1:=b.box.cell;have f1:=b.box.frozen;obtain ⟨pl,s⟩:=nM (pre.length);rw [s] at c1 S;have k9:pl<=1000000:=by omega
  have i:=al b s;clear b s S hv hol;gi_wp2;obtain ⟨b,s⟩:=i.o;have h6:((pre++[x]).length:Nat)=pl+1:=by rw [T8,s];rfl
  have hr:∀ k,k≠w.heap.size->(X.setCell ⟨w.heap.size,0,ZX⟩ (Z7 Z9 ((pl:Int)+1))).heap[k]?=X.heap[k]?:=λk E=>Ud _ _ _ _ E;refine ⟨⟨by simp [World.setCell],λk o E ho _=>?_⟩,⟨by simp [World.setCell],λk E hK=>?_⟩,?_,?_,?_⟩
  . exact (hr k (by omega)).trans ho
  . exact hr k (by omega)
  . rw [h6];exact b.box.set _
  . exact Xo (p:=⟨w.heap.size,0,ZX⟩) b.below lR _
  . have:=b.size;simp [World.setCell];omega
 case done=>
  rintro D1 xs X k6 k0 b hK;have hj:xs=af os:=k0;subst hj;have c1:=b.box.cell;obtain ⟨xl,M⟩:=nM ((af os).length);rw [M] at c1 hv;have HL:=ak M;clear M;have q:=b.below;obtain ⟨j,m,h,u⟩:=H.o;have cX:=(q.cell (p:=⟨ar,0,ZX⟩) j.lt).trans c0;have R:∀ W,bW w W->ZQ ZK 137 #[Z6 (ZW ⟨v,0,ZX⟩)] W λe w'=>e=Z3 (Z7 Z9 A.nb)/\w'=W:=λW Y=>js (m.keep (Y.block _ m.lt)) (h.below Y lR) hn;have i:=a5 b hK R q;obtain ⟨nb,J⟩:=nM (A.nb);have k8:=h.Sx.2;rw [J] at i k8;have k5:=ak J;clear J;clear b hK k0 R q j m h u c0;gi_wp2;have k1:IntKind.i64.wrap ((xl:Int)+(count:Int))=(xl:Int)+(count:Int):=by rw [UB];omega
  have k2:IntKind.i64.wrap (2*(pages:Int))=2*(pages:Int):=by rw [UB];omega
  have k3:IntKind.i64.wrap ((xl:Int)+(count:Int)+2*(pages:Int))=(xl:Int)+(count:Int)+2*(pages:Int):=by rw [UB];omega
  have k4:IntKind.i64.wrap ((nb:Int)-2)=(nb:Int)-2:=by rw [UB];omega
  refine wpIn_region_quiet_lit rfl (by kernel_rfl) (by kernel_rfl) ?_;repeat (quiet_step_in (fail))
  refine wpQuietIn_step (by go_simp;intros;trivial) (λK hK=>?_);go_simp;refine ⟨Z7 Z9 (nb:Nat),λa=>⟨λh=>(by cases h),CallsIn.quiet_of_same (Vc.2 (i.o.2.2.1 _ (i.o.2.2.2.trans ⟨rfl,rfl,rfl,TV _,λ_ _=>rfl⟩)))⟩,hK _ ?_⟩;clear hK K;repeat (quiet_step_in (fail))
  refine wpQuietIn_nil ?_;intro _ kb;obtain ⟨nq,rfl⟩:=kb;gi_wp2;obtain ⟨b,hK,_,q⟩:=i.o;have hq:(X.drewN nq).heap[D1]?=ZW (.deferred (ZW [])):=hK;have k7:bW w (X.drewN nq):=q.trans ⟨rfl,rfl,rfl,TV _,λ_ _=>rfl⟩;refine Gg (t:=6) (x:=Z1 (decide ((xl:Int)+(count:Int)+2*(pages:Int)<=(nb:Int)-2))) results100 rfl rfl hq ⟨?_,?_⟩
  . rw [HL.o,k5.out];congr 2;exact decide_eq_decide.2 ⟨λh=>by omega,λh=>by omega⟩
  . exact Below.RR k7 (by omega) (TX.1 hq).1 _
 case stop=>
  rintro D1 z pre X k6 ka hx hK;exact hx.elim
end
def mid (f:Nat->ZS) (g F:Nat->Nat) (c off k j:Nat):ZS:=if off<=j/\j<off+k then Z7 .u8 ((g j^^^gm c (F (j-off)):Nat):Int) else f j
def AdM (w:ZT) (b t N off k c tb fb foff:Nat) (f:Nat->ZS) (g F:Nat->Nat) (i:ZS) (wr:ZT):Prop:=
 ∃ j:Nat,j<=k/\i=Z7 Z9 j/\wr.rowIs b t N (mid f g F c off j)/\mv wr tb c/\(∀ i,i<k->wr.cell? ⟨fb,foff+i,ZX⟩=ZW (Z7 .u8 ((F i:Nat):Int)))/\w.grownBy wr (ZW b)
def Ll (f:Nat->ZS) (g F:Nat->Nat) (c off j x:Nat):mid f g F c off (j+1) x=if x=off+j then Z7 .u8 ((g (off+j)^^^gm c (F j):Nat):Int) else mid f g F c off j x:=by
 unfold mid;by_cases h:x=off+j
 . subst h;rw [TT rfl,TT (by omega),WN]
 . rw [TS h];by_cases a:off<=x/\x<off+j
   . rw [TT a,TT (by omega)]
   . rw [TS a,TS (by omega)]
theorem Lm (f:Nat->ZS) (g F:Nat->Nat) (c off:Nat):mid f g F c off 0=f:=by
 funext j;unfold mid;rw [TS (by omega)]
theorem Ln {f:Nat->ZS} {g F:Nat->Nat} {off:Nat} (a:∀ j,off<=j->j<off+n->f j=Z7 .u8 ((g j:Nat):Int)) (j:Nat):mid f g F 0 off n j=f j:=by
 unfold mid;split
 . rename_i h;rw [bK,U4,a j h.1 h.2]
 . rfl
theorem zP (b t N off n cap p d s c:Nat) (f:Nat->ZS) (g F:Nat->Nat) (w:ZT) (E:c<256) (B:w.rowIs b t N f) (C:∀ j,off<=j->j<off+n->f j=Z7 .u8 ((g j:Nat):Int)) (P:∀ j,g j<256) (L:∀ j,F j<256) (hn:off+n<=N) (k6:n<=140737488355328)
 (V:∀ i,i<n->w.cell? ⟨p,d+i,ZX⟩=ZW (Z7 .u8 ((F i:Nat):Int))) (k7:p≠b\/d+n<=off\/off+n<=d) :
 ZQ ZK 176 #[Z5 (ZW ⟨b,off,ZX⟩) n cap,Z5 (ZW ⟨p,d,ZX⟩) n s,Z7 .u8 c] w λe w'=>e=Z3 (ZZ #[])/\w'.rowIs b t N (mid f g F c off n)/\w.grownBy w' (ZW b):=by
 by_cases J:c=0
 . subst J;go_enter func176,ntmps176;go_wp2;exact Ur (v:=ZZ #[]) (by simp [results,results176]) rfl ⟨rfl,B.congr (λj _=>(Ln C j).symm),Ws _ _⟩
 . have ke:((c:Int)==0)=ZU:=(by rw [beq_eq_false_iff_ne];omega);clear J;go_enter func176,ntmps176;go_wp2_with fail;refine (lE c E _).mono ?_;rintro e w1 ⟨cs,rfl,kb,K,q⟩;have ka:=q.size;go_wp2_with (refine nt _ rfl (Z0 6) (Z0 11) rfl w1.heap.size c cs _ rfl rfl (UE w1 _) rfl kb K ?_;intro w2 Q r);have S:b<w.heap.size:=B.lt;have l:w.grownBy w2 ZX:=by
    refine ⟨r.os.trans q.os,r.tape.trans q.tape,r.output.trans q.output,?_,λk H _=>?_⟩
    . have:=r.size;rw [Uh] at this;omega
    . rw [r.block k (by rw [Uh];omega) (by intro e;simp at e;omega),UC _ _ _ (by omega),q.block k H]
   have Y:w2.rowIs b t N f:=B.of_block (l.block b S (by simp));have T:∀ i,i<n->w2.cell? ⟨p,d+i,ZX⟩=ZW (Z7 .u8 ((F i:Nat):Int)):=λi G=>by
    have:=V i G;exact l.cell this (by simp)
   have k0:w.grownBy w2 (ZW b):=⟨l.os,l.tape,l.output,l.size,λk H _=>l.block k H (by simp)⟩;have kc:w1.heap.size≠b:=(by omega);clear r l B V K q ka S;go_loopw [17] (λi wr=>AdM w b t N off n c w1.heap.size p d f g F i wr) (λi _=>n-(intOf i).toNat)
   case atStart=>exact ⟨0,T5 _,rfl,by rw [Lm];exact Y,Q,T,k0⟩
   case round=>
    clear Q T k0 Y;obtain ⟨j,R,rfl,u,z,A,D⟩:=hrel;by_cases k9:j<n
    . have c1:=u.cell (i:=off+j) (by omega);have f1:=u.frozen (off+j);have c2:=A j k9;have I:mid f g F c off j (off+j)=Z7 .u8 ((g (off+j):Nat):Int):=(by unfold mid;rw [TS (by omega)];exact C _ (by omega) (by omega));rw [I] at c1;have X:=lx (g (off+j)) (gm c (F j)) (P _) (bx _ E);have Z:=(u.set (off+j) (Z7 .u8 ((g (off+j)^^^gm c (F j):Nat):Int))).congr (λx _=>(Ll f g F c off j x).symm);have O:=rj z (a:=⟨b,off+j,ZX⟩) kc (Z7 .u8 ((g (off+j)^^^gm c (F j):Nat):Int));have W:=eI D (off+j) (Z7 .u8 ((g (off+j)^^^gm c (F j):Nat):Int));have U:∀ i,i<n->(wr.setCell ⟨b,off+j,ZX⟩ (Z7 .u8 ((g (off+j)^^^gm c (F j):Nat):Int))).cell? ⟨p,d+i,ZX⟩=ZW (Z7 .u8 ((F i:Nat):Int)):=λi G=>by
       rw [<- A i G];by_cases k5:p=b
       . exact abO _ _ _ _ (by intro e;have h1:off+j=d+i:=Uy Addr.off e;omega)
       . exact Uk (Ud _ _ _ _ k5)
      have M:=L j;have h:=a5 Z O U W;have HT:=ak z;generalize F j=y at c2 X M h;generalize g (off+j)=x at c1 X h;clear I Z O W U u z A D P L C;go_wp2;go_region_with ((go_at_call 198;refine (xJ w1.heap.size c y E M _ (by exact λj R=>HT.o j R)).mono ?_;rintro e w' ⟨rfl,m,rfl⟩));all_goals
       go_wp2;go_roundw
       case rel=>exact ⟨j+1,by omega,by go_num,h.o.1,h.o.2.1,h.o.2.2.1,⟨h.o.2.2.2.os,h.o.2.2.2.tape,h.o.2.2.2.output,h.o.2.2.2.size,h.o.2.2.2.block⟩⟩
       case measure=>simp [intOf];omega
    . have k8:j=n:=(by omega);subst k8;clear z A;go_wp2;go_end0
      exact ⟨rfl,u,D⟩
def nJ (C:Ck) (k:Nat):ZS:=if k<128 then Z7 .u8 ((C.m (k/16) (k%16):Nat):Int) else if k=128 then Z7 Z9 (C.told:Int) else Z7 Z9 (C.count:Int)
def aD (w:ZT) (b:Nat) (C:Ck):Prop:=w.rowIs b 329 130 (nJ C)
structure eF (C:Ck):Prop where
 byt:zg C
 le:C.told<=C.count
 Sd:C.count<=8
def aD.at (h:aD w b C) (r i:Nat) (c:r<8) (a:i<16):w.cell? ⟨b,r*16+i,ZX⟩=ZW (Z7 .u8 ((C.m r i:Nat):Int)):=by
 have:=h.cell (i:=r*16+i) (by omega);rw [this];unfold nJ;rw [TT (by omega),show (r*16+i)/16=r by omega,show (r*16+i)%16=i by omega]
def aD.R5 (h:aD w b C):w.cell? ⟨b,128,ZX⟩=ZW (Z7 Z9 (C.told:Int)):=h.cell (i:=128) (by decide)
def aD.Sl (h:aD w b C):w.cell? ⟨b,129,ZX⟩=ZW (Z7 Z9 (C.count:Int)):=h.cell (i:=129) (by decide)
def aa5 (C:Ck) (i:Nat) (wo:ZT) (v:ZS) (wr:ZT):Prop:=∃ r:Nat,v=Z7 Z9 r/\C.told<=r/\r<=C.count/\(∀ k,C.told<=k->k<r->C.m k i=0)/\wr=wo
def spV:Option Nat->ZS
 | some r=>ZZ #[Z7 Z9 (r:Int),Z1 ZV]
 | none=>ZZ #[Z7 Z9 0,Z1 ZU]
theorem xT (b i:Nat) (C:Ck) (w:ZT) (h:aD w b C) (l:eF C) (s:i<16) :
 ZQ ZK 213 #[Z6 (ZW ⟨b,0,ZX⟩),Z7 Z9 i] w λe w'=>e=Z3 (spV (eo C i))/\w'=w:=by
 have x:=h.R5;have u:=h.Sl;have n:=l.le;have y:=l.Sd;have z:(i:Int)<16:=by omega
 go_enter func213,ntmps213;go_wp2;go_loopw [6] (λv wr=>aa5 C i w v wr) (λv _=>C.count-(intOf v).toNat)
 case atStart=>exact ⟨C.told,rfl,TV _,n,λk a b=>absurd b (by omega),rfl⟩
 case round=>
  obtain ⟨r,rfl,t,D,f,rfl⟩:=hrel;by_cases q:r<C.count
  . have c1:=h.at r i (by omega) s;have j:=ak f;clear f;have p:(r:Int)<C.count:=(by omega);have B:(r:Int)<8:=(by omega);by_cases d:C.m r i=0
    . rw [d] at c1;go_wp2;go_roundw
      case rel=>exact ⟨r+1,by go_num,by omega,by omega,λk a b=>by
       by_cases e:k=r
       . rw [e];exact d
       . exact j.o k a (by omega),rfl⟩
      case measure=>simp [intOf];omega
    . have A:((C.m r i:Nat):Int)≠0:=(by omega);have c:=vT t q d j.o;have g:=ak c;clear c d;go_wp2;refine Ur (v:=ZZ #[Z7 Z9 (r:Int),Z1 ZV]) (by simp [results,results213]) rfl ?_;rw [g.o];exact ⟨rfl,rfl⟩
  . have p:¬ (r:Int)<C.count:=(by omega);have c:=vU (C:=C) (i:=i) (λk a b=>f k a (by omega));have g:=ak c;clear c f;go_wp2;refine Ur (v:=ZZ #[Z7 Z9 0,Z1 ZU]) (by simp [results,results213]) rfl ?_;rw [g.o];exact ⟨rfl,rfl⟩
def RdR (C:Ck) (i:Nat) (wo:ZT) (v:ZS) (wr:ZT):Prop:=∃ r:Nat,v=Z7 Z9 r/\r<=C.told/\(∀ k,k<r->C.m k i=0)/\wr=wo
theorem xU (b i:Nat) (C:Ck) (w:ZT) (j:aD w b C) (l:eF C) (s:i<16) :
 ZQ ZK 217 #[Z6 (ZW ⟨b,0,ZX⟩),Z7 Z9 i] w λe w'=>e=Z3 (Z1 (cH C i))/\w'=w:=by
 have t:=j.R5;have u:=l.le;have x:=l.Sd;have y:(i:Int)<16:=by omega
 go_enter func217,ntmps217;go_wp2;go_loopw [10] (λv wr=>RdR C i w v wr) (λv _=>C.told-(intOf v).toNat)
 case atStart=>exact ⟨0,rfl,T5 _,λk h=>absurd h (by omega),rfl⟩
 case round=>
  obtain ⟨r,rfl,B,f,rfl⟩:=hrel;by_cases q:r<C.told
  . have c1:=j.at r i (by omega) s;have n:=ak f;clear f;have p:(r:Int)<C.told:=(by omega);have A:(r:Int)<8:=(by omega);by_cases d:C.m r i=0
    . rw [d] at c1;go_wp2;go_roundw
      case rel=>exact ⟨r+1,by go_num,by omega,λk b=>by
       by_cases e:k=r
       . rw [e];exact d
       . exact n.o k (by omega),rfl⟩
      case measure=>simp [intOf];omega
    . have z:((C.m r i:Nat):Int)≠0:=(by omega);have c:=qR q d;have g:=ak c;clear c d;go_wp2;go_ret;rw [g.o];exact ⟨rfl,rfl⟩
  . have p:¬ (r:Int)<C.told:=(by omega);have c:=(gV (C:=C) (i:=i)).2 (λk a=>f k (by omega));have g:=ak c;clear c f;go_wp2;go_ret;rw [g.o];exact ⟨rfl,rfl⟩
def ll (C:Ck) (k r i:Nat):Ck:=⟨cV C.m k r i,C.told,C.count⟩
theorem Io (m:Nat->Nat->Nat) (r i:Nat):cV m 0 r i=m:=by funext k j;unfold cV;rw [TS (by omega)]
def Ip (m:Nat->Nat->Nat) (k r i:Nat):cV m k r i r=m r:=nP (by omega)
def xV (m:Nat->Nat->Nat) (k r i:Nat):cV m k r i k=m k:=nP (by omega)
theorem Iq (m:Nat->Nat->Nat) (r i:Nat):cV m (r+1) r i=cV m r r i:=by
 funext k j;unfold cV;by_cases h:k<r/\k≠r
 . rw [TT h,TT (by omega)]
 . rw [TS h,TS (by omega)]
def Lo (C:Ck) (k r i:Nat) (e:k≠r) (f:k<8) (x:Nat) :
 mid (nJ (ll C k r i)) (λx=>cV C.m k r i (x/16) (x%16)) (λj=>C.m r j) (gm (C.m k i) (gi (C.m r i))) (k*16) 16 x=nJ (ll C (k+1) r i) x:=by
 unfold mid;by_cases h:k*16<=x/\x<k*16+16
 . rw [TT h];have c:x/16=k:=(by omega);have d:x-k*16=x%16:=(by omega);unfold nJ;rw [TT (by omega)];show Value.int .u8 ((cV C.m k r i (x/16) (x%16)^^^gm _ (C.m r (x-k*16)):Nat):Int)=Z7 .u8 ((cV C.m (k+1) r i (x/16) (x%16):Nat):Int);rw [c,d,xV];have:cV C.m (k+1) r i k (x%16)=C.m k (x%16)^^^gm (gm (C.m k i) (gi (C.m r i))) (C.m r (x%16)):=by unfold cV;rw [TT ⟨by omega,e⟩]
   rw [this]
 . rw [TS h];unfold nJ;by_cases a:x<128
   . rw [TT a,TT a];have:cV C.m k r i (x/16) (x%16)=cV C.m (k+1) r i (x/16) (x%16):=by
      unfold cV;by_cases b:x/16<k/\x/16≠r
      . rw [TT b,TT (by omega)]
      . rw [TS b,TS (by omega)]
     show Value.int .u8 ((cV C.m k r i (x/16) (x%16):Nat):Int)=Z7 .u8 ((cV C.m (k+1) r i (x/16) (x%16):Nat):Int);rw [this]
   . rw [TS a,TS a];rfl
def OfR (w:ZT) (b r i:Nat) (C:Ck) (v:ZS) (wr:ZT):Prop:=
 ∃ k:Nat,v=Z7 Z9 k/\k<=C.count/\aD wr b (ll C k r i)/\w.grownBy wr (ZW b)
theorem pY (w:ZT) (b o:Nat):(Instr.sliceAt 249 (Z6 (ZW ⟨b,o,ZX⟩)) ZX ZX ZX).run ZK w=.ok (Z5 (ZW ⟨b,o,ZX⟩) 16 16) w:=by
 go_simp
theorem xW (b r i:Nat) (C:Ck) (w:ZT) (f:aD w b C) (d:eF C) (y:r<8) (u:i<16) :
 ZQ ZK 215 #[Z6 (ZW ⟨b,0,ZX⟩),Z7 Z9 r,Z7 Z9 i] w λe w'=>e=Z3 (ZZ #[])/\aD w' b (ll C C.count r i)/\w.grownBy w' (ZW b):=by
 have D:=f.Sl;have c0:=f.at r i y u;have F:=d.Sd;have A:=d.byt r i;have W:(i:Int)<16:=by omega
 have Z:(r:Int)<8:=by omega
 have l:=ak (show aD w b (ll C 0 r i) by unfold ll;rw [Io];exact f);clear f;go_enter func215,ntmps215;go_wp2_with fail;refine (rZ (C.m r i) A _).mono ?_;rintro e w1 ⟨rfl,S⟩;have T:=S.symm;subst T;go_wp2;go_loopw [21] (λv wr=>OfR w b r i C v wr) (λv _=>C.count-(intOf v).toNat)
 case atStart=>exact ⟨0,rfl,T5 _,l.o,Ws _ _⟩
 case round=>
  clear D c0 l;rename ZT=>wo;obtain ⟨k,rfl,V,a,g⟩:=hrel;by_cases Y:k<C.count
  . have H:(k:Int)<C.count:=(by omega);by_cases h:k=r
    . have G:(k:Int)=(r:Int):=(by omega);have B:cA (aD wo b (ll C (k+1) r i)):=ak (by unfold ll at *;rw [h] at a ⊢;rw [Iq];exact a);clear h a;go_wp2;go_roundw
      case rel=>exact ⟨k+1,by go_num,by omega,B.o,g⟩
      case measure=>simp [intOf];omega
    . have G:(k:Int)≠(r:Int):=(by omega);have X:(k:Int)<8:=(by omega);have c1:=a.at k i (by omega) u;have n:(ll C k r i).m k i=C.m k i:=(by show cV C.m k r i k i=_;rw [xV]);rw [n] at c1;have z:=d.byt k i;have p:∀ j,j<16->wo.cell? ⟨b,r*16+j,ZX⟩=ZW (Z7 .u8 ((C.m r j:Nat):Int)):=λj L=>by
       have:=a.at r j y L;have E:(ll C k r i).m r j=C.m r j:=(by show cV C.m k r i r j=_;rw [Ip]);rwa [E] at this
      have P:gm (C.m k i) (gi (C.m r i))<256:=bx _ z;have t:=Lo C k r i h (by omega);have O:∀ x,cV C.m k r i (x/16) (x%16)<256:=λx=>nQ d.byt _ _;have K:=ak p;have N:=ak t;have M:=ak a;clear p t n a;have I:=λw=>pY w b (k*16);have J:=λw=>pY w b (r*16);go_wp2;go_region_with (first
       | (go_at_call 185;refine (mh (C.m k i) (gi (C.m r i)) z (iu A) _).mono ?_;rintro e w' ⟨rfl,rfl⟩)
       | (go_at_call 176;refine (zP b 329 130 (k*16) 16 16 b (r*16) 16 (gm (C.m k i) (gi (C.m r i))) (nJ (ll C k r i)) (λx=>cV C.m k r i (x/16) (x%16)) (λj=>C.m r j) _ P (by exact M.out) (λj U F=>by unfold nJ;rw [TT (by omega)];rfl) O (λj=>d.byt r j) (by omega) (by omega) (by exact K.out) (.inr (by omega))).mono ?_;rintro e w' ⟨rfl,s,c⟩))
      all_goals
       have R:aD w' b (ll C (k+1) r i):=s.congr (λx _=>N.out x);have Q:w.grownBy w' (ZW b):=gw g ⟨c.os,c.tape,c.output,c.size,c.block⟩;clear s c I J;go_wp2;go_roundw
       case rel=>exact ⟨k+1,by go_num,by omega,R,Q⟩
       case measure=>simp [intOf];omega
  . have q:k=C.count:=(by omega);rw [q] at a;have H:¬ (k:Int)<C.count:=(by omega);clear q;go_wp2;go_end0
    exact ⟨rfl,a,g⟩
def pZ (m:Nat->Nat->Nat) (r i j:Nat):Nat->Nat->Nat:=λk x=>if k=r/\x<j then gm (m r x) (gi (m r i)) else m k x
def Pv (C:Ck) (r i j:Nat):Ck:=⟨pZ C.m r i j,C.told,C.count⟩
theorem Ir (m:Nat->Nat->Nat) (r i:Nat):pZ m r i 0=m:=by funext k x;unfold pZ;rw [TS (by omega)]
def N2 (C:Ck) (r i j:Nat) (d:r<8) (c:j<16) (x:Nat):nJ (Pv C r i (j+1)) x=if x=r*16+j then Z7 .u8 ((gm (C.m r j) (gi (C.m r i)):Nat):Int) else nJ (Pv C r i j) x:=by
 unfold nJ;by_cases h:x=r*16+j
 . rw [TT h,TT (by omega)];show Value.int .u8 ((pZ C.m r i (j+1) (x/16) (x%16):Nat):Int)=_;unfold pZ;rw [TT (by omega),show x%16=j by omega]
 . rw [TS h];by_cases a:x<128
   . rw [TT a,TT a];have:pZ C.m r i (j+1) (x/16) (x%16)=pZ C.m r i j (x/16) (x%16):=by
      unfold pZ;by_cases b:x/16=r/\x%16<j
      . rw [TT b,TT (by omega)]
      . rw [TS b,TS (by omega)]
     show Value.int .u8 ((pZ C.m r i (j+1) (x/16) (x%16):Nat):Int)=Z7 .u8 ((pZ C.m r i j (x/16) (x%16):Nat):Int);rw [this]
   . rw [TS a,TS a];rfl
def QI (C:Ck) (r i x:Nat):nJ (Pv C r i 16) x=nJ ⟨eJ C.m r i,C.told,C.count⟩ x:=by
 unfold nJ;by_cases a:x<128
 . rw [TT a,TT a];have:pZ C.m r i 16 (x/16) (x%16)=eJ C.m r i (x/16) (x%16):=by
    unfold pZ eJ;by_cases b:x/16=r
    . rw [TT b,TT (by omega)]
    . rw [TS b,TS (by omega)]
   show Value.int .u8 ((pZ C.m r i 16 (x/16) (x%16):Nat):Int)=Z7 .u8 ((eJ C.m r i (x/16) (x%16):Nat):Int);rw [this]
 . rw [TS a,TS a];rfl
theorem Is (cs:List ZS) (k:Nat) (v:ZS) (a:k<16) (b:cs[k]?=ZW v) (w:ZT):(Instr.index 249 (.agg cs.toArray) (Z7 Z9 (k:Int))).run ZK w=.ok v w:=by
 simp [Instr.index,UO Ya,asIntOf,go_sem,part];rw [TT a,b];rfl
def fE (f:Nat->Nat):List ZS:=(YE 16).map (λj=>Value.int .u8 ((f j:Nat):Int))
def jH (f:Nat->Nat):(fE f).length=16:=by unfold fE;rw [T9,UK]
def sy (f:Nat->Nat) (j:Nat) (a:j<16):(fE f)[j]?=ZW (Z7 .u8 ((f j:Nat):Int)):=by
 unfold fE;rw [UA,VP a];rfl
def tX (h:aD w b C) (r:Nat) (d:r<8):w.rangeAt b (r*16) (fE (C.m r)):=λj v a=>by
 have c:j<16:=by
  have:=(Va.1 a).1;rwa [jH] at this
 rw [sy _ _ c] at a;rw [<- a];exact h.at r j d c
def Tryz.Sf (f:Nat->Nat):(ZK.info? 249).map (λi=>i.size)=ZW (fE f).length:=by rw [jH];exact Tryz.Sr
def ScR (w:ZT) (b r i:Nat) (C:Ck) (v:ZS) (wr:ZT):Prop:=
 ∃ k:Nat,v=Z7 Z9 k/\k<=16/\aD wr b (Pv C r i k)/\w.grownBy wr (ZW b)
theorem Cg (b r i:Nat) (C:Ck) (w:ZT) (f:aD w b C) (u:eF C) (g:r<8) (G:i<16) :
 ZQ ZK 214 #[Z6 (ZW ⟨b,0,ZX⟩),Z7 Z9 r,Z7 Z9 i] w λe w'=>e=Z3 (ZZ #[])/\aD w' b ⟨eJ C.m r i,C.told,C.count⟩/\w.grownBy w' (ZW b):=by
 have c0:=f.at r i g G;have y:=u.byt r i;have L:(i:Int)<16:=by omega
 have M:(r:Int)<8:=by omega
 have l:=ak (show aD w b (Pv C r i 0) by unfold Pv;rw [Ir];exact f);have n:=ak (tX f r g);have A:cA (∀ j,j<16->(fE (C.m r))[j]?=ZW (Z7 .u8 ((C.m r j:Nat):Int))):=ak (sy (C.m r));have J:=ak (jH (C.m r));have B:=ak (Tryz.Sf (C.m r));generalize fE (C.m r)=cs at *;clear f;go_enter func214,ntmps214;go_wp2_with fail;refine (rZ (C.m r i) y _).mono ?_;rintro e w1 ⟨rfl,H⟩;have F:=H.symm;subst F;go_wp2_with (refine abP rfl 249 (Z0 22) rfl b (r*16) rfl cs _ n.o Ya rfl B.o ?_);go_loopw [24] (λv wr=>ScR w b r i C v wr) (λv _=>16-(intOf v).toNat)
 case atStart=>exact ⟨0,rfl,T5 _,l.o,Ws _ _⟩
 case round=>
  clear c0 l n;rename ZT=>wo;obtain ⟨k,rfl,N,c,h⟩:=hrel;by_cases d:k<16
  . have E:(k:Int)<16:=(by omega);have t:=A.o k d;have c1:=c.at r k g d;have K:=c.frozen (r*16+k);have I:=u.byt r k;have s:aD (wo.setCell ⟨b,r*16+k,ZX⟩ (Z7 .u8 ((gm (C.m r k) (gi (C.m r i)):Nat):Int))) b (Pv C r i (k+1)):=
     (c.set (r*16+k) (Z7 .u8 ((gm (C.m r k) (gi (C.m r i)):Nat):Int))).congr (λx _=>(N2 C r i k g d x).symm)
    have p:=eI h (r*16+k) (Z7 .u8 ((gm (C.m r k) (gi (C.m r i)):Nat):Int));have a:=al s p;clear s p c h;generalize (Pv C r i k).m r k=z at c1;have D:=Is cs k _ d t;clear t;go_wp2;go_region_with ((go_at_call 185;refine (mh (C.m r k) (gi (C.m r i)) I (iu y) _).mono ?_;rintro e w' ⟨rfl,rfl⟩));all_goals
     clear D;go_wp2;go_roundw
     case rel=>exact ⟨k+1,by go_num,by omega,a.o.1,⟨a.o.2.os,a.o.2.tape,a.o.2.output,a.o.2.size,a.o.2.block⟩⟩
     case measure=>simp [intOf];omega
  . have q:k=16:=(by omega);rw [q] at c;have E:¬ (k:Int)<16:=(by omega);clear q;go_wp2;go_end0
    exact ⟨rfl,c.congr (λx _=>QI C r i x),h⟩
theorem rq:∀ (vs:List ZS) (o:Nat) (w:ZT) (f:Nat->ZS),w.rowIs b t n f->(w.setCells b o vs).rowIs b t n (λx=>if o<=x/\x<o+vs.length then vs.getD (x-o) ZY else f x)
 | [],o,w,f,h=>h.congr (λi _=>by rw [TS (by simp)])
 | v::vs,o,w,f,h=>(rq vs (o+1) _ _ (h.set o v)).congr (λi _=>by
  by_cases a:i=o
  . subst a;rw [TS (by omega),TT rfl,TT (by simp)];simp
  . by_cases c:o+1<=i/\i<o+1+vs.length
    . rw [TT c,TT (by simp;omega),show i-o=(i-(o+1))+1 by omega];simp
    . rw [TS c,TS a,TS (by simp;omega)])
def oK:∀ (vs:List ZS) (o:Nat) (w w':ZT),w.grownBy w' (ZW b)->w.grownBy (w'.setCells b o vs) (ZW b)
 | [],_,_,_,h=>h
 | v::vs,o,w,_,h=>oK vs (o+1) w _ (eI h o v)
def rS (m:Nat->Nat->Nat) (q:Nat) (f:Nat->Nat):Nat->Nat->Nat:=λk=>if k=q then f else m k
theorem sA (h:aD w b C) (q:Nat) (d:q<8) (f:Nat->Nat):aD (w.setCells b (q*16) (fE f)) b ⟨rS C.m q f,C.told,C.count⟩:=by
 refine (rq (fE f) (q*16) w (nJ C) h).congr (λx _=>?_);rw [jH];unfold nJ;by_cases c:q*16<=x/\x<q*16+16
 . rw [TT c,TT (by omega)];show (fE f).getD (x-q*16) ZY=Z7 .u8 ((rS C.m q f (x/16) (x%16):Nat):Int);have e:x/16=q:=(by omega);unfold rS;rw [TT e,T6,sy _ _ (by omega),show x-q*16=x%16 by omega];rfl
 . rw [TS c];by_cases a:x<128
   . rw [TT a,TT a];show _=Value.int .u8 ((rS C.m q f (x/16) (x%16):Nat):Int);unfold rS;rw [TS (by omega)]
   . rw [TS a,TS a]
def Lp (f:Nat->Nat):(fE f).toArray.all (λv=>v.oneCell')=ZV:=by
 rw [X9];intro i a;have b:i<16:=by simpa [jH] using a
 have:=sy f i b;have e:(fE f).toArray[i]?=ZW (Z7 .u8 ((f i:Nat):Int)):=by simpa using this
 rw [VM a] at e;simp only [UF] at e;rw [e];rfl
def tY (h:aD w b C) (q:Nat) (c:q<8):w.there b (q*16) 16:=λj a=>⟨by rw [h.at q j c a];rfl,h.frozen _⟩
def sB (h:aD w b C) (q:Nat) (a:q<8):(Instr.loadAt 249 (Z6 (ZW ⟨b,q*16,ZX⟩))).run ZK w=.ok (.agg (fE (C.m q)).toArray) w:=
 run_loadAt_mid w b (q*16) 249 (fE (C.m q)) _ (tX h q a) Ya rfl (Tryz.Sf _)
theorem xX (h:aD w b C) (n:Nat):aD (w.setCell ⟨b,129,ZX⟩ (Z7 Z9 (n:Int))) b ⟨C.m,C.told,n⟩:=
 (h.set 129 (Z7 Z9 (n:Int))).congr (λx d=>by
  unfold nJ;by_cases e:x=129
  . subst e;rw [TT rfl,TS (by decide),TS (by decide)]
  . rw [TS e];by_cases a:x<128
    . rw [TT a,TT a]
    . rw [TS a,TS a];by_cases c:x=128
      . rw [TT c,TT c]
      . omega)
theorem Lq (h:aD w b C) (n:Nat):aD (w.setCell ⟨b,128,ZX⟩ (Z7 Z9 (n:Int))) b ⟨C.m,n,C.count⟩:=
 (h.set 128 (Z7 Z9 (n:Int))).congr (λx c=>by
  unfold nJ;by_cases e:x=128
  . subst e;rw [TT rfl,TS (by decide),TT rfl]
  . rw [TS e];by_cases a:x<128
    . rw [TT a,TT a]
    . rw [TS a,TS a,TS e,TS e])
def qt:List (Int×Nat×Nat×a8)->List ZS
 | []=>[]
 | q::O=>[Z7 Z9 q.1,fP q.2]++qt O
def ru:∀ O a,qt (O++a)=qt O++qt a
 | [],_=>rfl
 | q::O,a=>by simp [qt,ru O a]
def Gj:∀ (O:List (Int×Nat×Nat×a8)) (i:Nat) (a:i<O.length),(qt O)[i*2]?=ZW (Z7 Z9 O[i].1)/\(qt O)[i*2+1]?=ZW (fP O[i].2)
 | q::O,0,_=>by simp [qt]
 | q::O,i+1,a=>by
  have:=Gj O i (by simpa using a);have b:(i+1)*2=i*2+2:=by omega
  have c:(i+1)*2+1=i*2+1+2:=by omega
  simp only [qt,Yg];refine ⟨?_,?_⟩
  . rw [b];simpa using this.1
  . rw [c];simpa using this.2
structure mO (t:ZN) (w:ZT) (base:Nat) (v:ZS) (O:List (Int×Nat×Nat×a8)):Prop where
 own:w.ownsRow base t 2 v O.length (qt O)
 row:∀ q∈O,base<=q.2.1/\aI w q.2.1 q.2.2.2/\q.2.2.1<=q.2.2.2.length/\(q.2.2.1<=140737488355328/\q.2.2.2.length<=9223372036854775807)/\∀ x∈q.2.2.2,x<256
 nodup:(O.map (λq=>q.2.1)).Nodup
def mO.nil (t:ZN) (w:ZT) (base:Nat):mO t w base (Z5 ZX 0 0) []:=⟨UN _ _ _ _,λq a=>by simp at a,by simp⟩
def mO.below {t:ZN} {v:ZS} (h:mO t w base v O) (d:bW w w'):mO t w' base v O:=
 ⟨ay h.own d,λq e=>by obtain ⟨a,b,c⟩:=h.row q e;exact ⟨a,b.below d,c⟩,h.nodup⟩
def mO.cases {t:ZN} {v:ZS} (h:mO t w base v O):(O=[]/\v=Z5 ZX 0 0)\/∃ g cap,v=Z5 (ZW ⟨g,0,ZX⟩) O.length cap/\∀ i (b:i<O.length),w.cell? ⟨g,i*2,ZX⟩=ZW (Z7 Z9 O[i].1)/\w.cell? ⟨g,i*2+1,ZX⟩=ZW (fP O[i].2):=by
 rcases h.own.2 with ⟨c,d⟩|⟨g,cap,cur,a,_⟩
 . exact .inl ⟨UX d,c⟩
 . refine .inr ⟨g,cap,a,λi b=>?_⟩;have ho:=h.own;rw [a] at ho;obtain ⟨e,f⟩:=Gj O i b;exact ⟨by rw [ho.cellAt (i*2) (by omega)];exact e,by rw [ho.cellAt (i*2+1) (by omega)];exact f⟩
def tZ (n nb:Nat):gQ:=⟨n,nb,λ_ _=>ZU,λ_ _=>zb⟩
def ub (n nb:Nat):aF:=⟨n,nb,λ_ _=>ZU,λ_ _=>ZU,λ_ _=>.blank⟩
def zQ (n nb:Nat):qU (tZ n nb) (ub n nb):=⟨rfl,rfl,λ_ _ _=>FT (r:=.blank) trivial,λ_ _ _ h=>by cases h⟩
def rT (w:ZT) (b nb:Nat):Prop:=w.rowIs b 102 (64*nb) (λ_=>Z7 .u8 0)
def ud (w:ZT) (b nb:Nat):Prop:=w.rowIs b 4 nb (λ_=>Z1 ZU)
def dN (nb:Nat) (q:Nat×Nat):List ZS:=[Z1 ZU,Z5 (ZW ⟨q.1,0,ZX⟩) nb nb,Z5 (ZW ⟨q.2,0,ZX⟩) nb nb,Z7 Z9 0]
def oL (nb:Nat) (l:List (Nat×Nat)):List ZS:=l.flatMap (dN nb)
def Tryz.Ta:(ZK.info? 95).map (λi=>(i.zero,i.size,i.bytes))=ZW (ZW (.agg #[Z1 ZU,Z5 ZX 0 0,Z5 ZX 0 0,Z7 Z9 0]),4,64):=by kernel_rfl
def Tryz.Te:(ZK.info? 4).map (λi=>(i.zero,i.size,i.bytes))=ZW (ZW (Z1 ZU),1,1):=by kernel_rfl
def Lr (w:ZT) (nb:Nat):rT (w.alloc (Z4 (madeCells (aB zb) (nb*64)) 102)) w.heap.size nb:=by
 refine ⟨_,Ug _ _,by rw [size_madeCells];omega,λi c=>?_⟩;have b:(aB zb).size=64:=by rw [il,cB]
 have:i%64<64:=V9 _ (by decide);have a:(aB zb)[i%64]! = Z7 .u8 0:=by
  have e:aB zb=YH 64 (Z7 .u8 0):=by simp only [aB,aH,zb,List.map_replicate,List.toArray_replicate];rfl
  rw [getElem!_pos (aB zb) (i%64) (by omega)];simp only [e,Array.getElem_replicate]
 simp [madeCells,b,a,show i<nb*64 by omega]
noncomputable def RNa:Array ZO:=((Tryz.f14.body.bind (DA · 4))).getD #[]
def aa6:List (Op×Option Nat×a8):=[(Op.move (Z0 5),ZW 11,[]),
 (Op.move (Z0 5),ZW 12,[]),
 (Op.nilCheck (Z0 12),ZW 13,[1]),
 (Op.fieldAddr 91 (Z0 13) 0,ZW 14,[2]),
 (Op.load 89 (Z0 14),ZW 15,[3]),
 (Op.move (Z0 1),ZW 16,[]),
 (Op.call { callee:=Callee.builtin Builtin.max,args:=#[Z0 16,Operand.const (Value.int IntKind.i64 0)],argTypes:=#[3,3] },ZW 17,[5]),
 (Op.makeSlice 92 (Z0 17) (Z0 17),ZW 18,[6,6]),
 (Op.move (Z0 1),ZW 19,[]),
 (Op.call { callee:=Callee.builtin Builtin.max,args:=#[Z0 19,Operand.const (Value.int IntKind.i64 0)],argTypes:=#[3,3] },ZW 20,[8]),
 (Op.makeSlice 93 (Z0 20) (Z0 20),ZW 21,[9,9]),
 (Op.build 95 #[(1,Z0 18),(2,Z0 21)],ZW 22,[7,10]),
 (Op.buildSlice 89 1 #[(0,Z0 22)],ZW 23,[11]),
 (Op.call { callee:=Callee.builtin Builtin.append,args:=#[Z0 15,Z0 23],argTypes:=#[89,89] },ZW 24,[4,12]),
 (Op.nilCheck (Z0 11),ZW 25,[0,0,1,2,3,4,5,6,7,8,9,10,11,12,13]),
 (Op.fieldAddr 91 (Z0 25) 0,ZW 26,[14,0,1,2,3,4,5,6,7,8,9,10,11,12,13]),
 (Op.store 89 (Z0 26) (Z0 24),ZX,[15,13,13,0,1,2,3,4,5,6,7,8,9,10,11,12,13])]
def It:bD RNa 11 27 aa6:=eQ (by kernel_rfl) (by kernel_rfl)
def N3 (w0:ZT) (p nb:Nat) (v0:ZS) (xs:List ZS) (k:Nat) (i:Nat) (u:ZS) (w:ZT):Prop:=match i with
 | 0|1|2|3|14|15=>u=Z6 (ZW ⟨p,0,ZX⟩)
 | 4=>u=v0
 | 5|6|8|9=>u=Z7 Z9 nb
 | 7=>∃ b,w0.heap.size<=b/\u=Z5 (ZW ⟨b,0,ZX⟩) nb nb/\rT w b nb
 | 10=>∃ b,w0.heap.size<=b/\u=Z5 (ZW ⟨b,0,ZX⟩) nb nb/\ud w b nb
 | 11=>∃ q:Nat×Nat,w0.heap.size<=q.1/\w0.heap.size<=q.2/\u=.agg (dN nb q).toArray/\rT w q.1 nb/\ud w q.2 nb
 | 12=>∃ (c:Nat) (q:Nat×Nat),w0.heap.size<=c/\w0.heap.size<=q.1/\w0.heap.size<=q.2/\u=Z5 (ZW ⟨c,0,ZX⟩) 1 1/\w.heap[c]?=ZW (Z4 (dN nb q).toArray 95 (0,0))/\rT w q.1 nb/\ud w q.2 nb
 | 13=>∃ q:Nat×Nat,w0.heap.size<=q.1/\w0.heap.size<=q.2/\w.ownsRow (p+1) 95 4 u (k+1) (xs++dN nb q)/\rT w q.1 nb/\ud w q.2 nb
 | 16=>∃ (v':ZS) (q:Nat×Nat),w.heap[p]?=ZW (Z4 #[v',Z7 Z9 (-1)] 91 (0,0))/\w0.heap.size<=q.1/\w0.heap.size<=q.2/\w.ownsRow (p+1) 95 4 v' (k+1) (xs++dN nb q)/\rT w q.1 nb/\ud w q.2 nb
 | _=>True
def lS (j:∀ b,w0.heap.size<=b->b<w.heap.size->w'.heap[b]?=w.heap[b]?) (i:Nat) (u:ZS) (o:i≠13/\i≠16) (h:N3 w0 p nb v0 xs k i u w):N3 w0 p nb v0 xs k i u w':=by
 have l:∀ b,w0.heap.size<=b->rT w b nb->rT w' b nb:=λb e q=>VA q (j b e q.lt);have e:∀ b,w0.heap.size<=b->ud w b nb->ud w' b nb:=λb e q=>VA q (j b e q.lt);match i with
 | 0|1|2|3|14|15|4|5|6|8|9=>exact h
 | 7=>obtain ⟨b,a,d,f⟩:=h;exact ⟨b,a,d,l b a f⟩
 | 10=>obtain ⟨b,a,d,f⟩:=h;exact ⟨b,a,d,e b a f⟩
 | 11=>obtain ⟨q,a,d,f,g,m⟩:=h;exact ⟨q,a,d,f,l _ a g,e _ d m⟩
 | 12=>obtain ⟨c,q,r,a,d,f,g,m,s⟩:=h;exact ⟨c,q,r,a,d,f,(j c r (TX.1 g).1).trans g,l _ a m,e _ d s⟩
 | 13=>exact absurd rfl o.1
 | 16=>exact absurd rfl o.2
 | n+17=>trivial
def QJ (w0:ZT) (p:Nat) (v0:ZS) (D:Nat->Bool) (w:ZT):Prop:=(∀ k,k<w0.heap.size->(D 13=ZV->v0.ownBlock≠ZW k)->(D 16=ZV->k≠p)->w.heap[k]?=w0.heap[k]?)/\w0.heap.size<=w.heap.size/\w.os=w0.os/\w.tape=w0.tape/\w.output=w0.output
theorem sC {D:Nat->Bool} (h:QJ w0 p v0 D w) (i:Nat) (a:w.heap.size<=w'.heap.size/\w'.os=w.os/\w'.tape=w.tape/\w'.output=w.output) (f:∀ k,k<w0.heap.size->(i=13->v0.ownBlock≠ZW k)->(i=16->k≠p)->w'.heap[k]?=w.heap[k]?):QJ w0 p v0 (mj D i) w':=by
 obtain ⟨g,j,l,m,n⟩:=h;refine ⟨λk d b c=>?_,TU j a.1,a.2.1.trans l,a.2.2.1.trans m,a.2.2.2.trans n⟩;unfold mj at b c;refine (f k d (λe=>b (by rw [TT e.symm])) (λe=>c (by rw [TT e.symm]))).trans (g k d (λe=>b ?_) (λe=>c ?_))
 . split
   . rfl
   . exact e
 . split
   . rfl
   . exact e
def dU {D:Nat->Bool} (h:QJ w0 p v0 D w) (i:Nat):QJ w0 p v0 (mj D i) w:=sC h i ⟨TV _,rfl,rfl,rfl⟩ (λ_ _ _ _=>rfl)
def qu {D:Nat->Bool} (h:QJ w0 p v0 D w) (i:Nat) (o:Obj):QJ w0 p v0 (mj D i) (w.alloc o):=
 sC h i ⟨by simp,rfl,rfl,rfl⟩ (λk a _ _=>UC _ _ _ (TZ a h.2.1))
theorem EG (hx:RNa=ops) (km:nb<=1000000) (B:k<=1000) (V:w.ownsRow (p+1) 95 4 v0 k xs)
 (W:w.heap[p]?=ZW (Z4 #[v0,Z7 Z9 (-1)] 91 (0,0))) (ko:a.tmps.size=29) (e5:a.eval (Z0 5)=Z6 (ZW ⟨p,0,ZX⟩)) (Z:a.eval (Z0 1)=Z7 Z9 nb)
 (hQ:∀ (w':ZT) (vs:List ZS) (O:ZS) (q:Nat×Nat),vs.length=16->w.heap.size<=q.1->w.heap.size<=q.2->w'.ownsRow (p+1) 95 4 O (k+1) (xs++dN nb q)->rT w' q.1 nb->ud w' q.2 nb->w'.heap[p]?=ZW (Z4 #[O,Z7 Z9 (-1)] 91 (0,0)) ->
  aa (λj=>j=p\/v0.ownBlock=ZW j) w w'->Q .normal (Act.RQ a 11 vs) w'):(Code.region 4 ops ZV).wp ZK Q a w:=by
 subst hx;have X:p<w.heap.size:=(TX.1 W).1;have n1:¬ (nb:Int)<0:=by omega
 obtain ⟨ib,kh,k9,k8,k7⟩:=Us Tryz.zeroBlk;obtain ⟨ic,ki,kc,kb,ka⟩:=Us Tryz.Te;obtain ⟨id,U,kg,kf,ke⟩:=Us Tryz.Ta;refine gX (by kernel_rfl) It a w (by omega) (N3 w p nb v0 xs k) (QJ w p v0) ⟨λ_ _ _ _=>rfl,TV _,rfl,rfl,rfl⟩ ?_ ?_
 . intro i G;match i,G with
   | 0,_=>exact λo f w' D C ho m B y z l d h=>aJ (bS ho ((B.slot 5 (by omega)).trans e5) w') m ⟨dU d _,rfl,kq⟩
   | 1,_=>exact λo f w' D C ho m B y z l d h=>aJ (bS ho ((B.slot 5 (by omega)).trans e5) w') m ⟨dU d _,rfl,kq⟩
   | 2,_=>
    intro o f w' D C ho m B y z l d h;have u0:f.eval (Z0 12)=Z6 (ZW ⟨p,0,ZX⟩):=h 1 (l 1 (by decide));exact aJ (kl ho u0 w') m ⟨dU d _,rfl,kq⟩
   | 3,_=>
    intro o f w' D C ho m B y z l d h;have u0:f.eval (Z0 13)=Z6 (ZW ⟨p,0,ZX⟩):=h 2 (l 2 (by decide));exact aJ (v:=Z6 (ZW ⟨p,0,ZX⟩)) (by (conv at ho=>rhs;whnf);simp only [execOp,ho,u0];go_simp) m ⟨dU d _,rfl,kq⟩
   | 4,_=>
    intro o f w' D C ho m B y z l d h;have u0:f.eval (Z0 14)=Z6 (ZW ⟨p,0,ZX⟩):=h 3 (l 3 (by decide));have hv:D 13=ZU:=by
     cases q:D 13 with
     | false=>rfl
     | true=>have:=(z 13 q).2 4 (by decide);rw [y] at this;cases this
    have S:D 16=ZU:=by
     cases q:D 16 with
     | false=>rfl
     | true=>have:=(z 16 q).2 4 (by decide);rw [y] at this;cases this
    have c:w'.cell? ⟨p,0,ZX⟩=ZW v0:=by
     have:=(d.1 p X (λq=>by rw [hv] at q;cases q) (λq=>by rw [S] at q;cases q)).trans W;simp [World.cell?,this]
    exact aJ (v:=v0) (by (conv at ho=>rhs;whnf);simp only [execOp,ho,u0];go_simp) m ⟨dU d _,rfl,kq⟩
   | 5,_=>exact λo f w' D C ho m B y z l d h=>aJ (bS ho ((B.slot 1 (by omega)).trans Z) w') m ⟨dU d _,rfl,kq⟩
   | 6,_=>
    intro o f w' D C ho m B y z l d h;have u0:f.eval (Z0 16)=Z7 Z9 nb:=h 5 (l 5 (by decide));exact aJ (v:=Z7 Z9 nb) (by have:=te (P:=ZK) (s:=Z0 16) (t:=.const (Z7 Z9 0)) ho u0 rfl w';rwa [TS (show ¬ (0:Int)>(nb:Int) by omega)] at this) m ⟨dU d _,rfl,kq⟩
   | 7,_=>
    intro o f w' D C ho m B y z l d h;have u0:f.eval (Z0 17)=Z7 Z9 nb:=h 6 (l 6 (by decide));have R:=run_make (P:=ZK) w' 92 102 ib (.agg (aB zb)) underlying92 kh k9 .i64 .i64 nb nb (by omega) (Int.le_refl _) (by rw [k7];omega) (by omega);rw [k8,VG] at R;refine aJ (v:=Z5 (ZW ⟨w'.heap.size,0,ZX⟩) nb nb) (w':=w'.alloc (Z4 (madeCells (aB zb) (nb*64)) 102)) (by (conv at ho=>rhs;whnf);simp [execOp,ho,u0,R,Value.cells]) m ⟨qu d _ _,⟨_,d.2.1,rfl,Lr w' nb⟩,λj u A q=>?_⟩;refine lS (λb _ J=>UC _ _ _ J) j u ⟨λe=>?_,λe=>?_⟩ q
    . subst e;have:=(z 13 A).2 12 (by decide);have:=(z 12 this).2 11 (by decide);have:=(z 11 this).2 7 (by decide);rw [y] at this;cases this
    . subst e;have:=(z 16 A).2 7 (by decide);rw [y] at this;cases this
   | 8,_=>exact λo f w' D C ho m B y z l d h=>aJ (bS ho ((B.slot 1 (by omega)).trans Z) w') m ⟨dU d _,rfl,kq⟩
   | 9,_=>
    intro o f w' D C ho m B y z l d h;have u0:f.eval (Z0 19)=Z7 Z9 nb:=h 8 (l 8 (by decide));exact aJ (v:=Z7 Z9 nb) (by have:=te (P:=ZK) (s:=Z0 19) (t:=.const (Z7 Z9 0)) ho u0 rfl w';rwa [TS (show ¬ (0:Int)>(nb:Int) by omega)] at this) m ⟨dU d _,rfl,kq⟩
   | 10,_=>
    intro o f w' D C ho m B y z l d h;have u0:f.eval (Z0 20)=Z7 Z9 nb:=h 9 (l 9 (by decide));have R:=run_make (P:=ZK) w' 93 4 ic (Z1 ZU) underlying93 ki kc .i64 .i64 nb nb (by omega) (Int.le_refl _) (by rw [ka];omega) (by omega);rw [kb,VG,We] at R;refine aJ (v:=Z5 (ZW ⟨w'.heap.size,0,ZX⟩) nb nb) (w':=w'.alloc (Z4 (madeCells #[Z1 ZU] nb) 4)) (by (conv at ho=>rhs;whnf);simp [execOp,ho,u0,R,Value.cells]) m ⟨qu d _ _,⟨_,d.2.1,rfl,XA w' (Z1 ZU) nb _⟩,λj u A q=>?_⟩;refine lS (λb _ J=>UC _ _ _ J) j u ⟨λe=>?_,λe=>?_⟩ q
    . subst e;have:=(z 13 A).2 12 (by decide);have:=(z 12 this).2 11 (by decide);have:=(z 11 this).2 10 (by decide);rw [y] at this;cases this
    . subst e;have:=(z 16 A).2 10 (by decide);rw [y] at this;cases this
   | 11,_=>
    intro o f w' D C ho m B y z l d h;obtain ⟨b1,E,u0,H⟩:N3 w p nb v0 xs k 7 (f.eval (Z0 18)) w':=h 7 (l 7 (by decide));obtain ⟨b2,F,u1,I⟩:N3 w p nb v0 xs k 10 (f.eval (Z0 21)) w':=h 10 (l 10 (by decide));exact aJ (v:=.agg (dN nb (b1,b2)).toArray) (by (conv at ho=>rhs;whnf);simp only [execOp,ho,V3,UG,Vg,u0,u1,dN];go_simp) m ⟨dU d _,⟨(b1,b2),E,F,rfl,H,I⟩,kq⟩
   | 12,_=>
    intro o f w' D C ho m B y z l d h;obtain ⟨q,E,F,u0,H,I⟩:N3 w p nb v0 xs k 11 (f.eval (Z0 22)) w':=h 11 (l 11 (by decide));refine aJ (v:=Z5 (ZW ⟨w'.heap.size,0,ZX⟩) 1 1) (w':=w'.alloc (Z4 (dN nb q).toArray 95)) (by (conv at ho=>rhs;whnf);simp only [execOp,ho,V3,UG,Vg,u0,dN];go_simp) m ⟨qu d _ _,⟨_,q,d.2.1,E,F,rfl,Ug _ _,H.alloc _,I.alloc _⟩,λj u A r=>?_⟩;refine lS (λb _ J=>UC _ _ _ J) j u ⟨λe=>?_,λe=>?_⟩ r
    . subst e;have:=(z 13 A).2 12 (by decide);rw [y] at this;cases this
    . subst e;have:=(z 16 A).2 12 (by decide);rw [y] at this;cases this
   | 13,_=>
    intro o f w' D C ho m hz y z l d h;have u0:f.eval (Z0 15)=v0:=h 4 (l 4 (by decide));obtain ⟨c,q,q0,E,F,u1,hc,H,I⟩:N3 w p nb v0 xs k 12 (f.eval (Z0 23)) w':=h 12 (l 12 (by decide));have S:D 16=ZU:=by
     cases q:D 16 with
     | false=>rfl
     | true=>have:=(z 16 q).2 13 (by decide);rw [y] at this;cases this
    have L:w'.ownsRow (p+1) 95 4 v0 k xs:=V.kept (row:=ZX) ⟨d.2.2.1,d.2.2.2.1,d.2.2.2.2,d.2.1,λj A _=>d.1 j A (λq=>by rw [y] at q;cases q) (λq=>by rw [S] at q;cases q)⟩ (by cases v0.ownBlock<;>simp);refine wp_append_own w' (Z0 15) (Z0 23) 89 ho (p+1) 95 id _ 4 64 underlying89 U kg kf ke rfl (by decide) v0 k xs u0 L ⟨c,0,ZX⟩ 1 1 (dN nb q) u1 rfl (λj u A=>?_) (λu N=>?_) (by simp [maxLen];omega) (by omega) (TU X d.2.1) ?_
    . rw [jC];simp only [World.cell?,hc];simpa using A
    . simp [dN] at N;rcases N with rfl|rfl|rfl|rfl<;>rfl
    . intro O Y kj M _;have K:∀ b,w.heap.size<=b->b<w'.heap.size->Y.heap[b]?=w'.heap[b]?:=λb J k6=>M.block b k6 (λe=>by have:=(V.lt b e.symm).2;omega);refine ⟨O,rfl,λe=>(by rw [m] at e;cases e),sC d 13 ⟨M.size,M.os,M.tape,M.output⟩ (λj A k0 _=>M.block j (TZ A d.2.1) (λe=>k0 rfl e.symm)),⟨q,E,F,kj,VA H (K _ E H.lt),VA I (K _ F I.lt)⟩,λj u A r=>lS K j u ⟨λe=>(by subst e;rw [y] at A;cases A),λe=>(by subst e;rw [S] at A;cases A)⟩ r⟩
   | 14,_=>
    intro o f w' D C ho m B y z l d h;have u0:f.eval (Z0 11)=Z6 (ZW ⟨p,0,ZX⟩):=h 0 (l 0 (by decide));exact aJ (kl ho u0 w') m ⟨dU d _,rfl,kq⟩
   | 15,_=>
    intro o f w' D C ho m B y z l d h;have u0:f.eval (Z0 25)=Z6 (ZW ⟨p,0,ZX⟩):=h 14 (l 14 (by decide));exact aJ (v:=Z6 (ZW ⟨p,0,ZX⟩)) (by (conv at ho=>rhs;whnf);simp only [execOp,ho,u0];go_simp) m ⟨dU d _,rfl,kq⟩
   | 16,_=>
    intro o f w' D C ho m B y z l d h;have u0:f.eval (Z0 26)=Z6 (ZW ⟨p,0,ZX⟩):=h 15 (l 15 (by decide));obtain ⟨q,E,F,L,H,I⟩:N3 w p nb v0 xs k 13 (f.eval (Z0 24)) w':=h 13 (l 13 (by decide));have T:w'.heap[p]?=ZW (Z4 #[v0,Z7 Z9 (-1)] 91 (0,0)):=(d.1 p X (λ_ e=>by have:=(V.lt p e).1;omega) (λq=>by rw [y] at q;cases q)).trans W;obtain ⟨u,N⟩:=nM (f.eval (Z0 24));have c:w'.cell? ⟨p,0,ZX⟩=ZW v0:=(by simp [World.cell?,T]);have fz:w'.frozen? ⟨p,0,ZX⟩=ZU:=(by simp [World.frozen?,T]);rw [N] at L;obtain ⟨so,sl,sc,kk⟩:∃ so sl sc,u=.slice so sl sc:=by
     rcases L.2 with ⟨e,_⟩|⟨g,cap,cur,e,_⟩
     . exact ⟨_,_,_,e⟩
     . exact ⟨_,_,_,e⟩
    refine FX (w':=w'.setCell ⟨p,0,ZX⟩ u) (by rw [kk] at N ⊢;(conv at ho=>rhs;whnf);simp only [execOp,ho,u0,N];go_simp) ⟨sC d 16 ⟨by simp [World.setCell],rfl,rfl,rfl⟩ (λj _ _ k5=>Ud _ _ _ _ (k5 rfl)),?_,λj x A r=>?_⟩
    . refine ⟨u,q,by simp [World.setCell,VL,T],E,F,L.kept (row:=ZW p) ⟨rfl,rfl,rfl,by simp [World.setCell],λi _ G=>Ud _ _ _ _ (λe=>G (by rw [e]))⟩ (.inr λe=>by have:=(L.lt p e).1;omega),VA H (Ud _ _ _ _ (by show q.1≠p;omega)),VA I (Ud _ _ _ _ (by show q.2≠p;omega))⟩
    have K:∀ b,w.heap.size<=b->b<w'.heap.size->(w'.setCell ⟨p,0,ZX⟩ u).heap[b]?=w'.heap[b]?:=λb J _=>Ud _ _ _ _ (by show b≠p;omega);by_cases e:j=13
    . subst e;obtain ⟨q,E,F,r1,r2,r3⟩:=r;refine ⟨q,E,F,r1.kept (row:=ZW p) ⟨rfl,rfl,rfl,by simp [World.setCell],λi _ G=>Ud _ _ _ _ (λe=>G (by rw [e]))⟩ (.inr λe=>by have:=(r1.lt p e).1;omega),VA r2 (K _ E r2.lt),VA r3 (K _ F r3.lt)⟩
    . exact lS K j x ⟨e,λe=>(by subst e;rw [y] at A;cases A)⟩ r
   | n+17,hn=>exact absurd hn (by show ¬ n+17<17;omega)
 . rintro f w' hz ⟨D,hD,d⟩ h;obtain ⟨O,q,h1,h2,h3,h4,h5,h6⟩:N3 w p nb v0 xs k 16 ZY w':=h 16 (by decide);have e:f=Act.RQ a 11 ((YE 16).map λi=>f.eval (.tmp (11+i))):=hz.out _ (by rw [T9,UK]) (by omega) (λi G=>by
    rw [T9,UK] at G;rw [T6,UA,VP G];rfl)
   rw [e];refine hQ w' _ O q (by rw [T9,UK]) h2 h3 h4 h5 h6 h1 ⟨d.2.2.1,d.2.2.2.1,d.2.2.2.2,d.2.1,λj A hs=>d.1 j A (λ_ e=>hs (.inr e)) (λ_ e=>hs (.inl e))⟩
def QK (w:ZT) (p nb k:Nat) (L:List (Nat×Nat)) (v:ZS) (wr:ZT):Prop:=
 L.length=k/\wr.heap[p]?=ZW (Z4 #[v,Z7 Z9 (-1)] 91 (0,0))/\wr.ownsRow (p+1) 95 4 v k (oL nb L)/\(∀ q∈L,(p<q.1/\p<q.2)/\rT wr q.1 nb/\ud wr q.2 nb)/\(L.map (λq=>q.1)).Nodup/\(L.map (λq=>q.2)).Nodup/\ZR p w wr
def NaR (w:ZT) (p nb n:Nat) (i:ZS) (wr:ZT):Prop:=∃ k L v,k<=n/\i=Z7 Z9 (k:Nat)/\QK w p nb k L v wr
def Gk {v:ZS} {f:Nat->ZS} (h:w.ownsRow base 95 4 v n xs) (j:w.rowIs b t m f) (l:t≠95):v.ownBlock≠ZW b:=by
 intro e;rcases h.2 with ⟨i,_⟩|⟨g,cap,cur,d,o,a,p⟩
 . rw [i] at e;simp [Value.ownBlock] at e
 . rw [d] at e;simp [Value.ownBlock] at e;subst e;obtain ⟨c,k,_⟩:=j;rw [k] at a;simp at a;exact l a.2
def ue (h:l.Nodup) (a:∀ x∈l,x<b) (c:Nat) (g:b<=c):(l++[c]).Nodup:=by
 rw [U9];refine ⟨h,by simp,λx d y f e=>?_⟩;simp at f;have:=a x d;omega
def QK.next {L:List (Nat×Nat)} {v v':ZS} {q:Nat×Nat} (h:QK w p nb k L v wr) (z:wr.heap.size<=q.1) (A:wr.heap.size<=q.2) (ho:w'.ownsRow (p+1) 95 4 v' (k+1) (oL nb L++dN nb q))
 (B:rT w' q.1 nb) (C:ud w' q.2 nb) (u:w'.heap[p]?=ZW (Z4 #[v',Z7 Z9 (-1)] 91 (0,0))) (b:aa (λj=>j=p\/v.ownBlock=ZW j) wr w'):QK w p nb (k+1) (L++[q]) v' w':=by
 obtain ⟨n,o,i,d,r,s,c⟩:=h;have:p<wr.heap.size:=(TX.1 o).1;have m:∀ x∈L,rT w' x.1 nb/\ud w' x.2 nb:=λx a=>by
  obtain ⟨⟨D,E⟩,f,g⟩:=d x a;refine ⟨VA f (b.block _ f.lt ?_),VA g (b.block _ g.lt ?_)⟩
  . rintro (e|e)
    . omega
    . exact Gk i f (by decide) e
  . rintro (e|e)
    . omega
    . exact Gk i g (by decide) e
 refine ⟨by simp [n],u,?_,λx a=>?_,?_,?_,⟨b.os.trans c.os,b.tape.trans c.tape,b.output.trans c.output,TU c.size b.size,λj t=>(b.block j (by omega) (λe=>?_)).trans (c.block j t)⟩⟩
 . have e:oL nb (L++[q])=oL nb L++dN nb q:=(by simp [oL]);rw [e];exact ho
 . rcases Uj.1 a with a|a
   . exact ⟨(d x a).1,m x a⟩
   . simp at a;subst a;exact ⟨⟨by omega,by omega⟩,B,C⟩
 . rw [Uv];exact ue r (λx a=>by obtain ⟨y,l,rfl⟩:=T7.1 a;exact (d y l).2.1.lt) _ z
 . rw [Uv];exact ue s (λx a=>by obtain ⟨y,l,rfl⟩:=T7.1 a;exact (d y l).2.2.lt) _ A
 . rcases e with e|e
   . omega
   . have:=(i.lt j e).1;omega
def Ls (n nb:Nat) (w:ZT) (e:ZP) (w':ZT):Prop:=e=Z3 (Z6 (ZW ⟨w.heap.size,0,ZX⟩))/\bW w w'/\∃ F:aQ,ah w' w.heap.size (tZ n nb) F/\∀ k,F.S k->w.heap.size<=k
def Ci (nb:Nat):∀ (L:List (Nat×Nat)) (i:Nat),i<L.length->(oL nb L)[i*4]?=ZW (Z1 ZU)/\(oL nb L)[i*4+1]?=ZW (Z5 (ZW ⟨(L.getD i (0,0)).1,0,ZX⟩) nb nb)/\(oL nb L)[i*4+2]?=ZW (Z5 (ZW ⟨(L.getD i (0,0)).2,0,ZX⟩) nb nb)/\(oL nb L)[i*4+3]?=ZW (Z7 Z9 0)
 | [],i,h=>absurd h (by simp)
 | q::L,0,_=>⟨rfl,rfl,rfl,rfl⟩
 | q::L,i+1,h=>by
  have e:oL nb (q::L)=dN nb q++oL nb L:=by simp [oL]
  have ih:=Ci nb L i (by simpa using h);have a:∀ j,(dN nb q++oL nb L)[(i+1)*4+j]?=(oL nb L)[i*4+j]?:=λj=>by
   rw [U6 (by simp [dN];omega),show (i+1)*4+j-(dN nb q).length=i*4+j by simp [dN];omega]
  rw [e];exact ⟨(a 0).trans ih.1,(a 1).trans ih.2.1,(a 2).trans ih.2.2.1,(a 3).trans ih.2.2.2⟩
def Cj (h:l.Nodup) {i j:Nat} (a:i<l.length) (b:j<l.length) (e:l[i]=l[j]):i=j:=(List.getElem_inj h).1 e
theorem QK.post {L:List (Nat×Nat)} {v:ZS} (h:QK w w.heap.size nb n L v wr) (K:0<n) (B:n<=1000) (C:nb<=1000000):Ls n nb w (Z3 (Z6 (ZW ⟨w.heap.size,0,ZX⟩))) wr:=by
 obtain ⟨b,t,u,f,y,z,A⟩:=h;refine ⟨rfl,A,?_⟩;rcases u.2 with ⟨rfl,I⟩|⟨g,cap,cur,rfl,c,r,F,G,H,s⟩
 . omega
 . have l:∀ i,i<n->(L.getD i (0,0))∈L:=λi a=>by
    rw [T6,Ua (show i<L.length by omega)];exact TY _
   refine ⟨⟨g,cap,λi=>(L.getD i (0,0)).1,λi=>(L.getD i (0,0)).2,λk=>k=w.heap.size\/k=g\/∃ i,i<n/\(k=(L.getD i (0,0)).1\/k=(L.getD i (0,0)).2)⟩,⟨t,⟨cur,r,λi a=>?_⟩,λi a=>?_,λi a=>?_,λi j a d=>⟨λe=>?_,λe=>?_⟩,λk=>Iff.rfl,B,C,λ_ _=>⟨cB,λx D=>by have:=VJ D;omega⟩⟩,?_⟩
   . have q:=Ci nb L i (by rw [b];exact a);have:i<n:=a;rw [<- s] at q;simp only [VO (show i*4<n*4 by omega),VO (show i*4+1<n*4 by omega),VO (show i*4+2<n*4 by omega),VO (show i*4+3<n*4 by omega),abx] at q;exact ⟨q.1,q.2.1,q.2.2.1,_,q.2.2.2⟩
   . refine World.rowIs.congr (f _ (l i a)).2.1 λj d=>?_;show Value.int .u8 0=Value.int .u8 ((zb.getD (j%64) 0:Nat):Int);have E:zb.getD (j%64) 0=0:=by
      unfold zb;rw [T6,WC];split<;>rfl
     rw [E];rfl
   . exact (f _ (l i a)).2.2
   . have p:i<(L.map (λq=>q.1)).length:=(by rw [T9,b];exact a);have c:j<(L.map (λq=>q.1)).length:=(by rw [T9,b];exact d);refine Cj y p c ?_;have m:i<L.length:=(by rw [b];exact a);have o:j<L.length:=(by rw [b];exact d);simpa [m,o] using e
   . have p:i<(L.map (λq=>q.2)).length:=(by rw [T9,b];exact a);have c:j<(L.map (λq=>q.2)).length:=(by rw [T9,b];exact d);refine Cj z p c ?_;have m:i<L.length:=(by rw [b];exact a);have o:j<L.length:=(by rw [b];exact d);simpa [m,o] using e
   . rintro k (rfl|rfl|⟨i,a,rfl|rfl⟩)
     . exact TV _
     . exact Nat.le_of_succ_le c
     . exact Nat.le_of_lt (f _ (l i a)).1.1
     . exact Nat.le_of_lt (f _ (l i a)).1.2
def QL (h:vs.length=16):∃ a b c d e f g i j k l m n o p q,vs=[a,b,c,d,e,f,g,i,j,k,l,m,n,o,p,q]:=by
 match vs,h with
 | [a,b,c,d,e,f,g,i,j,k,l,m,n,o,p,q],_=>exact ⟨_,_,_,_,_,_,_,_,_,_,_,_,_,_,_,_,rfl⟩
theorem oM (n nb:Nat) (w:ZT) (u:0<n) (x:n<=1000) (d:nb<=1000000) :
 ZQ ZK 14 #[Z7 Z9 n,Z7 Z9 nb] w λe w'=>Ls n nb w e w':=by
 go_enter func14,ntmps14;have c:QK w w.heap.size nb 0 [] (Z5 ZX 0 0) (w.alloc (Z4 #[Z5 ZX 0 0,Z7 Z9 (-1)] 91)):=⟨rfl,Ug _ _,UN _ _ _ _,λq y=>(by simp at y),by simp,by simp,bA w _⟩;go_wp2_with fail;go_loopw [9] (λi wr=>NaR w w.heap.size nb n i wr) (λi _=>n-(intOf i).toNat)
 case atStart=>exact ⟨0,[],_,T5 _,rfl,c⟩
 case round=>
  clear c;obtain ⟨k,L,v,A,rfl,b⟩:=hrel;by_cases z:k<n
  . have a:=ak b;clear b;go_wp2_with fail;refine EG (by kernel_rfl) d (by omega) a.o.2.2.1 a.o.2.1 rfl rfl rfl ?_;intro w' vs B q f l m ho p r j h;obtain ⟨C,D,E,F,G,H,I,J,K,M,N,O,P,Q,R,S,rfl⟩:=QL f;have g:=a.o.next l m ho p r j h;have s:=ak g;clear g ho p r j h a l m f;rename_i hK
    refine hK _ _ ?_;clear hK;simp only [Act.RQ];go_wp2;exact ⟨⟨k+1,_,_,by omega,by go_num,s.o⟩,by simp [intOf];omega⟩
  . have t:k=n:=(by omega);subst t;have a:=ak b;clear b;go_wp2;go_ret;exact a.o.post u x d
def QM (n nb:Nat) (w:ZT) (e:ZP) (w':ZT):Prop:=e=Z3 (Z6 (ZW ⟨w.heap.size,0,ZX⟩))/\bW w w'/\∃ F:aQ,aA w' w.heap.size (ub n nb) F/\∀ k,F.S k->w.heap.size<=k
def zR (n nb:Nat) (w:ZT) (a:0<n) (f:n<=1000) (d:nb<=1000000) :
 ZQ ZK 14 #[Z7 Z9 n,Z7 Z9 nb] w λe w'=>QM n nb w e w':=by
 refine (oM n nb w a f d).mono ?_;rintro e w' ⟨b,c,F,g,h⟩;exact ⟨b,c,F,⟨_,g,zQ n nb⟩,h⟩
def qw (X:ZT) (p:Nat) (A:aF) (F:aQ) (M:List (Nat×Nat)):Prop:=aA X p A F/\∀ i b,A.tn i b=ZV->(i,b)∈M
def qw.keep {Y:ZT} {A:aF} {M:List (Nat×Nat)} (h:qw X p A F M) (a:∀ k,F.S k->Y.heap[k]?=X.heap[k]?):qw Y p A F M:=⟨h.1.keep a,h.2⟩
def aF.SF (A:aF) (d b:Nat):aF:={ A with bad:=λi m=>if i=d/\m=b then ZV else A.bad i m }
def aF.turn (A:aF) (d b:Nat):aF:={ A with bad:=λi m=>if i=d/\m=b then ZV else A.bad i m,tn:=λi m=>if i=d/\m=b then ZV else A.tn i m }
theorem ah.TH {R:gQ} (h:ah X p R F) {d b j z:Nat} (c:d<R.n) (f:j<64) (l:z<256):ah (X.setCell ⟨F.bb d,b*64+j,ZX⟩ (Z7 .u8 (z:Nat))) p (R.RU d λm=>if m=b then (R.blk d b).set j z else R.blk d m) F:=by
 refine h.RU c (((h.blk d c).set (b*64+j) (Z7 .u8 (z:Nat))).congr λm _=>?_) (λk g=>Ud _ _ _ _ g) λm=>?_
 . unfold Pi;show _=Value.int .u8 (((if m/64=b then (R.blk d b).set j z else R.blk d (m/64)).getD (m%64) 0:Nat):Int);by_cases e:m/64=b
   . rw [TT e,e];simp only [T6,Xh,(h.len d b).1];by_cases a:m=b*64+j
     . rw [TT a,TT (by omega),TT f];rfl
     . rw [TS a,TS (by omega)]
   . rw [TS (by omega),TS e]
 . split
   . refine ⟨by rw [VY];exact (h.len d b).1,λx i=>?_⟩;rcases Yb i with q|q
     . exact (h.len d b).2 x q
     . rw [q];exact l
   . exact h.len d m
theorem qU.turn {A:aF} {R:gQ} (a:qU R A) (hl:∀ i j,(R.blk i j).length=64/\∀ x∈R.blk i j,x<256) {d b j z:Nat} (r:j<64) (u:z<256) (l:z≠(R.blk d b).getD j 0) (t:A.tn d b=ZU):qU (R.RU d λm=>if m=b then (R.blk d b).set j z else R.blk d m) (A.turn d b):=by
 refine ⟨a.n,a.nb,λi m g=>?_,λi m g c o=>?_⟩
 . have q:=a.rd i m g;unfold gQ.rd aF.rd at q ⊢;show (if R.bad i m=ZV then ZX else J4 ((if i=d then λm=>if m=b then (R.blk d b).set j z else R.blk d m else R.blk i) m))=if (if i=d/\m=b then ZV else A.bad i m)=ZV then ZX else ZW (A.rc i m);by_cases e:i=d/\m=b
   . obtain ⟨rfl,rfl⟩:=e;rw [TT (show i=i/\m=m from ⟨rfl,rfl⟩),TT rfl,TT rfl];by_cases c:R.bad i m=ZV
     . rw [TT c];rfl
     . rw [TS c] at q ⊢;have p:¬ A.bad i m=ZV:=λe=>c (a.tn i m g e t);rw [TS p] at q;unfold J4 at q ⊢;simp only [if_true];split at q
       . rename_i s
         rw [TS (K2 (hl i m).1 (hl i m).2 r u l s)]
       . cases q
   . rw [TS e];by_cases h:i=d
     . subst h;rw [TT rfl];simp only [TS (show ¬ m=b from λq=>e ⟨rfl,q⟩)];exact q
     . rw [TS h];exact q
 . have k:(if i=d/\m=b then ZV else A.bad i m)=ZV:=c;have f:(if i=d/\m=b then ZV else A.tn i m)=ZU:=o;by_cases e:i=d/\m=b
   . rw [TT e] at f;cases f
   . rw [TS e] at k f;exact a.tn i m g k f
def Cl (R:gQ) (d b i m:Nat) (t:Bool):(R.RY d λm=>if m=b then t else R.bad d m).bad i m=if i=d/\m=b then t else R.bad i m:=by
 show (if i=d then λm=>if m=b then t else R.bad d m else R.bad i) m=_;by_cases e:i=d
 . subst e;rw [TT rfl];by_cases a:m=b<;>simp [a]
 . rw [TS e,TS (λq=>e q.1)]
theorem Iu {A:aF} {M:List (Nat×Nat)} (s:qw w p A F M) (d b:Nat) (c:d<A.n) (g:b<A.nb):ZQ ZK 19 #[Z6 (ZW ⟨p,0,ZX⟩),Z7 Z9 d,Z7 Z9 b,Z7 Z9 (-1)] w λe w'=>e=Z3 (ZZ #[])/\qw w' p (A.SF d b) F M/\aa F.S w w':=by
 obtain ⟨⟨R,h,a⟩,f⟩:=s;rw [<- a.n] at c;rw [<- a.nb] at g;obtain ⟨c0,c1⟩:=h.RT;obtain ⟨x,d1,y,z⟩:=h.Sc d c;have j:=h.bad d c;have u:=abJ j (i:=b) g;have K:=World.rowIs.frozen j b;have r:=kH h (by omega);have B:¬ (d:Int)<0:=by omega
 have C:¬ (R.n:Int)<=(d:Int):=by omega
 have D:¬ (b:Int)<0:=by omega
 have E:(d:Int)<(R.n:Int):=by omega
 have G:(b:Int)<(R.nb:Int):=by omega
 have I:(0:Int)<=(d:Int):=by omega
 have J:(0:Int)<=(b:Int):=by omega
 have H:=a5 h r a f;clear h r j a f;go_enter func19,ntmps19;go_wp2_with fail;refine H.o.2.1.mono ?_;rintro e w' ⟨rfl,rfl⟩;go_wp2;refine Ur (v:=ZZ #[]) (by simp [results,results19,go_sem]) rfl ?_;obtain ⟨h,_,a,f⟩:=H.o;refine ⟨rfl,⟨⟨_,h.TB c b ZV,⟨a.n,a.nb,λi m k=>?_,λi m k g t=>?_⟩⟩,f⟩,aa.setCell _ _ _ (h.sd c)⟩
 . have q:=a.rd i m k;unfold gQ.rd aF.rd at q ⊢;rw [Cl];show (if (if i=d/\m=b then ZV else R.bad i m)=ZV then ZX else J4 (R.blk i m))=if (if i=d/\m=b then ZV else A.bad i m)=ZV then ZX else ZW (A.rc i m);by_cases e:i=d/\m=b
   . simp only [TT e];rfl
   . simp only [TS e];exact q
 . rw [Cl];have l:(if i=d/\m=b then ZV else A.bad i m)=ZV:=g;by_cases e:i=d/\m=b
   . exact TT e
   . rw [TS e] at l ⊢;exact a.tn i m k l t
theorem Lt {A:aF} {M:List (Nat×Nat)} (O:qw w p A F M) (d b k:Nat) (f:d<A.n) (P:b<A.nb) (hk:k<512) (x:(d,b)∉M):ZQ ZK 19 #[Z6 (ZW ⟨p,0,ZX⟩),Z7 Z9 d,Z7 Z9 b,Z7 Z9 k] w λe w'=>e=Z3 (ZZ #[])/\qw w' p (A.turn d b) F (M++[(d,b)])/\aa F.S w w':=by
 obtain ⟨⟨R,h,c⟩,g⟩:=O;rw [<- c.n] at f;rw [<- c.nb] at P;obtain ⟨c0,c1⟩:=h.RT;obtain ⟨W,d1,X,K⟩:=h.Sc d f;have I:=kH h (by omega);have Y:¬ (d:Int)<0:=by omega
 have Z:¬ (R.n:Int)<=(d:Int):=by omega
 have e3:¬ (b:Int)<0:=by omega
 have e5:(d:Int)<(R.n:Int):=by omega
 have e6:(b:Int)<(R.nb:Int):=by omega
 have e7:(0:Int)<=(d:Int):=by omega
 have e8:(0:Int)<=(b:Int):=by omega
 have hh:(k:Int).tmod 512=(k:Nat):=by rw [aby (by omega)];omega
 obtain ⟨j,T⟩:=nM (k/8);obtain ⟨t,V⟩:=nM (k%8);have hf:(k:Int).tdiv 8=(j:Nat):=by rw [XP (by omega)];omega
 have hg:(k:Int).tmod 8=(t:Nat):=by rw [aby (by omega)];omega
 have G:j<64:=by omega
 have Q:t<8:=by omega
 have D:=(h.blk d f).cell (i:=b*64+j) (by omega);have fb:=(h.blk d f).frozen (b*64+j);have J:Pi (R.blk d) (b*64+j)=Z7 .u8 (((R.blk d b).getD j 0:Nat):Int):=by
  unfold Pi;rw [show (b*64+j)/64=b by omega,show (b*64+j)%64=j by omega]
 rw [J] at D;have B:(R.blk d b).getD j 0<256:=by
  have hl:=h.len d b;rw [T6,Ua (by omega)];exact hl.2 _ (TY _)
 obtain ⟨y,r⟩:=nM ((R.blk d b).getD j 0);rw [r] at D B;have v:2^t<256:=V8 (n:=8) (by decide) Q;have a:y^^^2^t<256:=V7 (n:=8) B v;have l:y^^^2^t≠y:=λe=>by
  have L:y^^^(y^^^2^t)=y^^^y:=by rw [e]
  rw [<- U3,UV,VT] at L;have:=Vz t;omega
 obtain ⟨z,C⟩:=nM (y^^^2^t);have s:bits .xor .u8 (y:Int) ((2:Int)^t%256)=(z:Nat):=by
  have U:(2:Int)^t=((2^t:Nat):Int):=by rw [XJ];rfl
  have N:∀ u:Nat,u<256->(u:Int)%256=(u:Int):=λu hu=>by omega
  rw [U,N _ v,u8_xor_nat y (2^t) B v,C]
 rw [C] at a l;have H:=hide9 h I c g r x a l s;clear h I c g r x J C T V a l v K s;go_enter func19,ntmps19;go_wp2_with fail;refine H.o.2.1.mono ?_;rintro e w' ⟨rfl,rfl⟩;go_wp2;go_region;all_goals (
  go_end0
  obtain ⟨h,_,c,g,r,x,a,l,s⟩:=H.o;rw [s];refine ⟨rfl,⟨⟨_,(h.TH f G a).keep λ_ _=>rfl,c.turn h.len G a (by rw [r];exact l) (Yj.2 λe=>x (g d b e))⟩,λi m e=>?_⟩,(aa.setCell _ _ _ (h.sb f)).trans (aa.drew _)⟩;have E:(if i=d/\m=b then ZV else A.tn i m)=ZV:=e;by_cases q:i=d/\m=b
  . rw [q.1,q.2];simp
  . rw [TS q] at E;exact UL _ (g i m E))
section
open Go.ChangeShapes Go.WideShapes
abbrev uf:List (String×DataW Unit):=[("math/bits.deBruijn64tab",Rows.laid_math_bits_deBruijn64tab),("errors.errorType",Rows.laid_errors_errorType),("stripes/record.halves",Rows.laid_stripes_record_halves)]
def Gl:List Int:=(YE 64).map λj=>((Lib.deBruijn64tab.getD j 0:Nat):Int)
def sD:List Int:=cI.map λ(x:Nat)=>(x:Int)
def Tryz.bt3:ZK.globalNamed "math/bits.deBruijn64tab"=ZW 1:=by kernel_rfl
def Tryz.TQ:(ZK.globals[1]?).map (·.type)=ZW 101:=by kernel_rfl
def Tryz.Tz:ZK.cellsOf 101=64:=by kernel_rfl
def Tryz.SV:ZK.cellsOf 5=1:=by kernel_rfl
def Tryz.hv3:ZK.globalNamed "stripes/record.halves"=ZW 2:=by kernel_rfl
def Tryz.TR:(ZK.globals[2]?).map (·.type)=ZW 322:=by kernel_rfl
def Tryz.Tm:ZK.cellsOf 322=16:=by kernel_rfl
def Tryz.Tc:ZK.cellsOf 302=1:=by kernel_rfl
def Iv:(Rows.laid_math_bits_deBruijn64tab:DataW Unit)=Lib.tabData .u8 Gl:=by rfl
def Lu:(Rows.laid_stripes_record_halves:DataW Unit)=Lib.tabData .u32 sD:=by rfl
def Iw {x:String×DataW Unit} {r:List (String×DataW Unit)} (h:laidMet P (x::r) w):laidMet P r w:=by
 obtain ⟨ps,i,c,a⟩:=h;obtain ⟨n,d⟩:=x;obtain ⟨g,t,cs,fuel,p,q,_,_,_,_,f,rfl⟩:=i;exact ⟨q,f,List.Nodup.sublist (ace _ _) c,λb off e=>a b off (V6 _ e)⟩
theorem Cm (h:laidMetH ZK uf W):bN W/\aG W/\bh W/\3<=W.heap.size:=by
 have d:laidMet ZK [("math/bits.deBruijn64tab",Rows.laid_math_bits_deBruijn64tab),("stripes/record.halves",Rows.laid_stripes_record_halves)] W/\handlesMet ZK [("errors.errorType",Rows.laid_errors_errorType)] W:=h;have l:bN W:=tQ (show laidMetH ZK [("errors.errorType",Rows.laid_errors_errorType)] W from ⟨⟨[],rfl,List.nodup_nil,λb off k=>by cases k⟩,d.2⟩);have c:=d.1;have e:=Iw c;rw [Iv] at c;rw [Lu] at e;have n:=Lib.tabIs_of_head Tryz.bt3 Tryz.TQ Ye Xn Tryz.SV Tryz.Tz c;have m:=Lib.tabIs_of_head Tryz.hv3 Tryz.TR underlying322 underlying302 Tryz.Tc Tryz.Tm e;have g:aG W:=λj a=>by
  have:=n.cell Tryz.bt3 j (by simpa [Gl] using a);rw [this];unfold Gl;simp [a]
 have f:bh W:=λj a=>by
  have hl:cI.length=16:=rfl;have:=m.cell Tryz.hv3 j (by unfold sD;rw [T9,hl];exact a);rw [this];unfold sD;congr 2;rw [T6,T6,UA,Ua (by omega)];rfl
 refine ⟨l,g,f,?_⟩;have o:=Ub (g 0 (by decide));have i:=Ub (f 0 (by decide));have p:2<W.heap.size:=i;omega
noncomputable def ug (os:Os):ZT:=
 { World.holding ZK os ⟨#[],#[],[]⟩ with heap:=(((World.holding ZK os ⟨#[],#[],[]⟩).heap.modify 0 fun|Z4 _ t frozen=>Z4 #[.iface 155 (.agg #[Z6 (ZW ⟨3,63,ZX⟩)])] t frozen|o=>o).modify 1 fun|Z4 _ t frozen=>Z4 (Gl.map λz=>Value.int .u8 z).toArray t frozen|o=>o).modify 2 fun|Z4 _ t frozen=>Z4 (sD.map λz=>Value.int .u32 z).toArray t frozen|o=>o }
def uh (os:Os) (args:Array ZS):laidMetH ZK uf ((ug os).forCall (λ_ _=>0) ⟨#[],args,[]⟩).memory:=
 laidMetH_of_parts (laidMet_of_run' 8 (by kernel_rfl) (by kernel_rfl)) (by kernel_rfl)
def Cn {H:Type} {enc:ZN×ZS->H} {spare:Nat->Bool} {held:Bool} {t0 t1 t2 t3 t4:ZN} {v1 v2 v3 v4:ZS} {d0 d1 d2 d3 d4:DataW H} {p0 p1 p2 p3 p4:List MemPlace} (a:DataW.Trod enc P w base spare held t0 v0 d0 p0) (b:DataW.Trod enc P w base spare held t1 v1 d1 p1) (c:DataW.Trod enc P w base spare held t2 v2 d2 p2) (d:DataW.Trod enc P w base spare held t3 v3 d3 p3) (e:DataW.Trod enc P w base spare held t4 v4 d4 p4) :
 DataW.TrodAll enc P w base spare held [t0,t1,t2,t3,t4] [v0,v1,v2,v3,v4] [d0,d1,d2,d3,d4] (p0++(p1++(p2++(p3++p4)))):=⟨p0,p1++(p2++(p3++p4)),a,trodAll_mk4 b c d e,rfl⟩
end
