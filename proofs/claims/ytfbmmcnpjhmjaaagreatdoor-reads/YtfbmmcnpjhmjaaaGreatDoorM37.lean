import Derived.Test.YtfbmmcnpjhmjaaaGreatDoorM36
import Derived.RangeFuncRecord
import Derived.Test.YtfbmmcnpjhmjaaaGreatDoorM34
set_option maxRecDepth 100000
set_option maxHeartbeats 8000000
open Go.IntKind renaming i64 -> Z9, u64 -> Z8
open Go.Value renaming int -> Z7, pointer -> Z6, slice -> Z5, bool -> Z2, tuple -> Z1
open Go.Obj renaming cells -> Z4
open Go.Ending renaming returned -> Z3
open Option renaming none -> Z0, some -> ZZ
open Go renaming World -> ZY, Value -> ZX, Calls -> ZV
open Go.RowKit renaming Below -> ZW
open Array renaming getElem?_eq_some_iff -> Tm
open Nat renaming le_trans -> Tn, lt_of_lt_of_le -> Tp, le_refl -> Tq
open Option.some renaming inj -> To
open Go.Proofs.Tryz renaming prog -> ZU
namespace Go.Proofs.YtfbmmcnpjhmjaaaGreatDoor
open Go.RowKit Go.Deep
variable {es:Array MapEntry} {rd:Bool} {D L G lost regs room:Int} {m n k sb:Nat} {v steps ne ol:ZX} {w:ZY}
section
open Go.Shelf Gf
structure CI (w:ZY) (D L G:Int) (X:ZY):Prop where
 par:X.heap[w.heap.size]?=ZZ (Z4 #[Z7 Z9 D,Z7 Z9 L,Z7 Z9 G] 25 (0,0))
 res:X.heap[w.heap.size+1]?=ZZ (Z4 #[Z7 Z9 0,Z5 Z0 0 0] 210 (0,0))
 below:ZW w.heap.size w X
theorem CI.mono {X Y:ZY} {B:Nat} (h:CI w D L G X) (a:ZW B X Y) (b:w.heap.size+2<=B):CI w D L G Y:=
 ⟨(a.block _ (by omega)).trans h.par,(a.block _ (by omega)).trans h.res,h.below.trans (a.mono (by omega))⟩
theorem CI.new (w:ZY) (D L G:Int):CI w D L G ((w.alloc (Z4 #[Z7 Z9 D,Z7 Z9 L,Z7 Z9 G] 25)).alloc (Z4 #[Z7 Z9 0,Z5 Z0 0 0] 210)):=by
 refine ⟨?_,?_,(bA w _).alloc (by simp) _⟩
 . rw [Below.heap_alloc _ _ _ (by simp)];exact World.alloc_heap_new _ _
 . have:=World.alloc_heap_new (w.alloc (Z4 #[Z7 Z9 D,Z7 Z9 L,Z7 Z9 G] 25)) (Z4 #[Z7 Z9 0,Z5 Z0 0 0] 210);rwa [World.size_alloc] at this
def NV (n:Nat):Nat:=2^n-1
theorem Jt (lost n:Nat) (hl:lost<18446744073709551616) (a:n<=16):bits .and .u64 (lost:Int) (NV n:Int)=((av n lost:Nat):Int):=by
 have:=vJ a;have b:0<2^n:=Nat.two_pow_pos n;exact fW lost (2^n-1) hl (by omega)
theorem Ju (lost n:Nat) (a:n<=16):bits .andNot .u64 (NV n:Int) ((av n lost:Nat):Int)=((bw n lost:Nat):Int):=by
 have b:=vJ a;have c:=ou lost a;exact u64_andNot_nat (2^n-1) (av n lost) (by omega) (by omega)
def NW (D L G lost:Nat) (w:ZY) (e:Ending) (w':ZY):Prop:=
 ZW w.heap.size w w'/\((tells (fE D L G) (ae (av (D+L+G) lost))=Z0/\e=Z3 (Z1 #[.agg #[Z7 Z9 0,Z5 Z0 0 0],.iface 66 (Z7 Z9 3)])) \/
  (∃ C v,tells (fE D L G) (ae (av (D+L+G) lost))=ZZ C/\e=Z3 (Z1 #[.agg #[Z7 Z9 (1+((ae (av (D+L+G) lost)).length:Int)),v],.nilIface]) /\
   w'.ownsRow w.heap.size 284 4 v (fG (aS 8 C (bw (D+L+G) lost)).1 (av (D+L+G) lost) (bw (D+L+G) lost)).length (eH .u8 (fG (aS 8 C (bw (D+L+G) lost)).1 (av (D+L+G) lost) (bw (D+L+G) lost)))))
theorem Jv {z:Int} (k:Nat) (a:k<=16) (b:z=(k:Int)) (w:ZY) :
 ZV ZU 113 #[Z7 Z9 z] w λe w'=>e=Z3 (Z7 Z8 (NV k:Int))/\w'=w:=by subst b;exact l9 k a w
theorem uG (D L G lost:Nat) (hr:cn D L G=true) (kc:1<=D) (hD:D<=12) (hL:1<=L) (T:L<=4) (hG:G<=4) (hs:D%L=0) (c:D+L+G<=16) (hl:lost<18446744073709551616) (w:ZY) (B:aJ w) (h2:3<=w.heap.size) :
 ZV ZU 188 #[.agg #[Z7 Z9 D,Z7 Z9 L,Z7 Z9 G],Z7 Z8 lost] w λe w'=>NW D L G lost w e w':=by
 have i:=CI.new w D L G;have l:((w.alloc (Z4 #[Z7 Z9 (D:Int),Z7 Z9 (L:Int),Z7 Z9 (G:Int)] 25)).alloc (Z4 #[Z7 Z9 0,Z5 Z0 0 0] 210)).heap.size=w.heap.size+2:=by simp
 obtain ⟨p0,p1,p2⟩:=fa i.par;have J:=hide2 i l;clear i l;go_enter Tryz.func188,Tryz.ntmps188;go_wp2_with fail;refine (oV D L G _).mono ?_;rintro e w1 ⟨rfl,t⟩;obtain ⟨i,l⟩:=J.out;rw [l] at t;have ke:=t.size;rw [l] at ke;have z:=i.mono t lR;obtain ⟨p0,p1,p2⟩:=fa z.par;have K:=hide z;clear J i l t z;go_wp2_with fail;refine (ea D L G _ (by omega) (by omega) (by omega)).mono ?_;rintro e w2 ⟨rfl,E⟩;have ki:=E.size;have A:=K.out.mono E (by omega);obtain ⟨p0,p1,p2⟩:=fa A.par;have q:=hide A;clear A E K;go_wp2_with fail;refine (Jv (D+L+G) c (by omega) w2).mono ?_;rintro e I ⟨rfl,hy⟩;subst hy;have kg:=Jt lost (D+L+G) hl c;go_wp2_with fail;refine (kS D L G (av (D+L+G) lost) hr kc hD hL T hG hs c (ou lost c) I (B.mono (by omega) q.out.below) (by omega)).mono ?_;rintro e a ⟨u,hg⟩;have kj:=u.size;have s:=q.out.mono u (by omega);have hz:=zeroCk;have hx:=aY dC;rcases hg with ⟨x,rfl⟩|⟨C,hC,rfl⟩
 . have R:=aY dC;have o:ZW a.heap.size a ((a.alloc (Z4 (aV dC) 319)).setRow a.heap.size (aV dC)):=(bA _ _).grown (aR _ _ _) (by simp) (λk e=>by cases e;exact Tq _);have d:=s.mono o (by omega);obtain ⟨r0,r1,g1,g0⟩:=aG d.res;have b:=hide2 d x;clear s d u o q x;go_wp2_with (refine wpList_store_row rfl 319 (.tmp 8) (.tmp 25) rfl a.heap.size (aV dC) rfl rfl 319 (aV dC) (aD.new a dC).heap (eh _) rfl (oj _) ?_);obtain ⟨Q,x⟩:=b.out;have y:=kU (y':=Z5 Z0 0 0) (kT (x':=Z7 Z9 0) Q.res);obtain ⟨n0,H,_⟩:=aG y;refine bodyPost_ret (v:=Z1 #[.agg #[Z7 Z9 0,Z5 Z0 0 0],.iface 66 (Z7 Z9 3)]) (by simp [results,Tryz.results188,go_sem,n0,H]) rfl ?_;exact ⟨(Q.below.setCell (p:=⟨w.heap.size+1,0,Z0⟩) (by show w.heap.size<=w.heap.size+1;omega) _).setCell (p:=⟨w.heap.size+1,1,Z0⟩) (by show w.heap.size<=w.heap.size+1;omega) _,.inl ⟨x,rfl⟩⟩
 . have r:=(oy hD hG hC).1;have P:=xP hD T hG hC;have N:dU (aS 8 C (bw (D+L+G) lost)).1:=⟨r.byt,r.le,by have:=r.most;omega⟩;have kh:=Ju lost (D+L+G) c;have R:=aY C;have o:ZW a.heap.size a ((a.alloc (Z4 (aV dC) 319)).setRow a.heap.size (aV C)):=(bA _ _).grown (aR _ _ _) (by simp) (λk e=>by cases e;exact Tq _);have W:aD ((a.alloc (Z4 (aV dC) 319)).setRow a.heap.size (aV C)) a.heap.size C:=(aD.new a dC).setRow C;have d:=s.mono o (by omega);have Z:((a.alloc (Z4 (aV dC) 319)).setRow a.heap.size (aV C)).heap.size=a.heap.size+1:=(by simp [World.setRow]);have U:=B.mono (by omega) d.below;have b:=hide5 d W Z U hC;have M:=hide2 P N;clear s d u o W Z U q hC r P N;go_wp2_with (first
    | refine wpList_store_row rfl 319 (.tmp 8) (.tmp 25) rfl a.heap.size (aV C) rfl rfl 319 (aV dC) (aD.new a dC).heap (eh _) (by rw [aY,aY]) (oj _) ?_
    | refine wpList_load_row rfl 319 (.tmp 8) rfl a.heap.size rfl 319 (aV C) (0,0) _ b.out.2.1.heap Tryz.underlying319 rfl (eh _) ?_)
   obtain ⟨w5,Y⟩:=nM ((a.alloc (Z4 (aV dC) 319)).setRow a.heap.size (aV C));rw [Y] at b ⊢;clear Y R hx hz;refine (CW C (bw (D+L+G) lost) w5 M.out.1 (Aj lost c) b.out.2.2.2.1 (by have:=b.out.2.2.1;omega)).mono ?_;rintro e w7 ⟨rfl,F⟩;have kk:=F.size;have X:=b.out.1.mono F (by have:=b.out.2.2.1;omega);have kf:a.heap.size+1<=w7.heap.size:=(by have:=b.out.2.2.1;omega);have S:=hide X;clear X F;go_wp2_with fail;refine (FX (aS 8 C (bw (D+L+G) lost)).1 (av (D+L+G) lost) (bw (D+L+G) lost) w7 M.out.2 (ou lost c) (Aj lost c) (B.mono (by omega) S.out.below) (by omega)).mono ?_;rintro e w8 ⟨v,rfl,V,n⟩;obtain ⟨f,m,h,rfl⟩:∃ f m h,v=.slice f m h:=by
    rcases n.2 with ⟨rfl,_⟩|⟨g,cap,cur,rfl,_⟩
    . exact ⟨_,_,_,rfl⟩
    . exact ⟨_,_,_,rfl⟩
   have j:=S.out.mono V (by omega);obtain ⟨r0,r1,g1,g0⟩:=aG j.res;have H8:=hide2 j n;clear j n V;go_wp2;obtain ⟨j,n⟩:=H8.out;have y:=kU (y':=.slice f m h) (kT (x':=Z7 Z9 (1+((ae (av (D+L+G) lost)).length:Int))) j.res);obtain ⟨n0,H,_⟩:=aG y;have O:(Value.slice f m h).ownBlock≠ZZ (w.heap.size+1):=λe=>by have:=jN n e;omega
   have hv:=(n.kept (dh w8 (w.heap.size+1) 0 (Z7 Z9 (1+((ae (av (D+L+G) lost)).length:Int)))) (.inr O)).kept (dh _ (w.heap.size+1) 1 (.slice f m h)) (.inr O);refine bodyPost_ret (v:=Z1 #[.agg #[Z7 Z9 (1+((ae (av (D+L+G) lost)).length:Int)),.slice f m h],.nilIface]) (by simp [results,Tryz.results188,go_sem,n0,H]) rfl ?_;exact ⟨(j.below.setCell (p:=⟨w.heap.size+1,0,Z0⟩) (by show w.heap.size<=w.heap.size+1;omega) _).setCell (p:=⟨w.heap.size+1,1,Z0⟩) (by show w.heap.size<=w.heap.size+1;omega) _,.inr ⟨C,_,b.out.2.2.2.2,rfl,jO hv (by omega)⟩⟩
end
def bY (D L G lost:Int) (rd:Bool):ZX:=.agg #[Z7 Z9 D,Z7 Z9 L,Z7 Z9 G,Z7 Z8 lost,Z2 rd]
theorem sB (e:Bool) (D L G lost:Int) (rd:Bool) (w:ZY):(Instr.checkKey e 10000 228 (bY D L G lost rd)).run ZU w=.ok () w:=by kernel_rfl
theorem LW (D L G lost:Int) (rd:Bool) (w:ZY):(Op.equal 228 (bY D L G lost rd) (bY D L G lost rd)).run ZU w=.ok true w:=by
 unfold bY Op.equal Op.maxDepth;go_simp
theorem xT (h:w.heap[m]?=ZZ (.map es n)):(getObj m).run ZU w=.ok (.map es n) w:=by simp [getObj,Sem.run,h]
theorem NX (h:w.heap[m]?=ZZ (.map es n)) (o:Obj):(setObj m o).run ZU w=.ok () (w.putObj m o):=by simp [setObj,Sem.run,h,World.putObj]
theorem FY (h:w.heap[m]?=ZZ (.map #[] n)) (D L G lost:Int) (rd:Bool):(Instr.lookup 263 (.map (ZZ m)) (bY D L G lost rd) true).run ZU w=.ok (Z1 #[.pointer Z0,Z2 false]) w:=by
 have a:=xT h;have b:=sB true D L G lost rd w;simp [Instr.lookup,run_underlying Tryz.underlying263,a,b,Instr.findKey,Instr.findNow,run_underlying Tryz.underlying228]
theorem FZ (h:w.heap[m]?=ZZ (.map #[] n)) (D L G lost:Int) (rd:Bool) (v:ZX):(Instr.mapUpdate 263 (.map (ZZ m)) (bY D L G lost rd) v).run ZU w=.ok () (w.putObj m (.map #[{ key:=bY D L G lost rd,val:=v,born:=n }] (n+1))):=by
 have a:=xT h;have b:=sB false D L G lost rd w;simp [Instr.mapUpdate,run_underlying Tryz.underlying263,a,b,Instr.findKey,Instr.findNow,run_underlying Tryz.underlying228,NX h]
theorem Jw (D L G lost:Int) (rd:Bool) (h:w.heap[m]?=ZZ (.map #[{ key:=bY D L G lost rd,val:=v,born:=k }] n)):(Instr.lookup 263 (.map (ZZ m)) (bY D L G lost rd) true).run ZU w=.ok (Z1 #[v,Z2 true]) w:=by
 have a:=xT h;have b:=sB false D L G lost rd w;have c:=LW D L G lost rd w;simp [Instr.lookup,run_underlying Tryz.underlying263,a,b,Instr.findKey,Instr.findNow,Instr.findAsking,run_underlying Tryz.underlying228,c,Instr.sameNow]
def dH (w:ZY) (n:Nat) (D L G lost:Int) (rd:Bool) (regs:Int) (steps:ZX) (ne ol:ZX):Prop:=w.heap[n]?=ZZ (Z4 (pS D L G lost rd regs steps ne ol) 262 (0,0))
theorem dH.lt (h:dH w n D L G lost rd regs steps ne ol):n<w.heap.size:=(Tm.1 h).1
theorem dH.cells (h:dH w n D L G lost rd regs steps ne ol):w.cell? ⟨n,7,Z0⟩=ZZ ne/\w.cell? ⟨n,8,Z0⟩=ZZ ol/\w.frozen? ⟨n,7,Z0⟩=false/\w.frozen? ⟨n,8,Z0⟩=false:=by
 have a:w.heap[n]?=ZZ (Z4 (pS D L G lost rd regs steps ne ol) 262 (0,0)):=h;simp [World.cell?,World.frozen?,a,pS]
theorem dH.set7 (h:dH w n D L G lost rd regs steps ne ol) (x:ZX):dH (w.setCell ⟨n,7,Z0⟩ x) n D L G lost rd regs steps x ol:=aj (j:=7) h x
theorem dH.set8 (h:dH w n D L G lost rd regs steps ne ol) (x:ZX):dH (w.setCell ⟨n,8,Z0⟩ x) n D L G lost rd regs steps ne x:=aj (j:=8) h x
theorem dH.keep {w':ZY} (h:dH w n D L G lost rd regs steps ne ol) (e:w'.heap[n]?=w.heap[n]?):dH w' n D L G lost rd regs steps ne ol:=e.trans h
theorem eO (w:ZY) (b i j:Nat) (x y:ZX):aa (λk=>k=b) w ((w.setCell ⟨b,i,Z0⟩ x).setCell ⟨b,j,Z0⟩ y):=by
 have a:aa (λk=>k=b) w (w.setCell ⟨b,i,Z0⟩ x):=aa.setCell _ _ _ rfl;have c:aa (λk=>k=b) (w.setCell ⟨b,i,Z0⟩ x) ((w.setCell ⟨b,i,Z0⟩ x).setCell ⟨b,j,Z0⟩ y):=aa.setCell _ _ _ rfl;exact a.trans c
def iC (w:ZY) (sb n:Nat):Prop:=dH w sb 0 0 0 0 false 0 (Z5 Z0 0 0) (Z6 (ZZ ⟨n,0,Z0⟩)) (Z6 (ZZ ⟨n,0,Z0⟩))
def gC (w:ZY) (sb:Nat) (room:Int):Prop:=w.heap[sb+1+1]?=ZZ (Z4 #[Z7 Z9 room,.map (ZZ (sb+1)),Z6 (ZZ ⟨sb,0,Z0⟩)] 265 (0,0))
theorem xU (b:dH w n D L G lost rd regs steps (Z6 (ZZ ⟨sb,0,Z0⟩)) (Z6 (ZZ ⟨sb,0,Z0⟩))) (a:iC w sb n) :
 ZV ZU 185 #[Z6 (ZZ ⟨n,0,Z0⟩)] w λe w'=>e=Z3 (Z1 #[])/\iC w' sb sb/\aa (λk=>k=sb) w w':=by
 obtain ⟨c,d,_,_⟩:=b.cells;obtain ⟨f,g,h,i⟩:=dH.cells a;have H:=hide2 b a;clear b a;go_enter Tryz.func185,Tryz.ntmps185;go_region;go_end0
 have a:=H.out.2;exact ⟨rfl,dH.set7 (dH.set8 a _) _,((eO w sb 8 7 _ _).trans (aa.drew _))⟩
theorem mJ (hl:gC w sb room) (c:dH w n D L G lost rd regs steps ne ol) (a:iC w sb sb) (m:n≠sb) :
 ZV ZU 186 #[Z6 (ZZ ⟨sb+1+1,0,Z0⟩),Z6 (ZZ ⟨n,0,Z0⟩)] w λe w'=>e=Z3 (Z1 #[])/\dH w' n D L G lost rd regs steps (Z6 (ZZ ⟨sb,0,Z0⟩)) (Z6 (ZZ ⟨sb,0,Z0⟩))/\iC w' sb n/\aa (λk=>k=n\/k=sb) w w':=by
 obtain ⟨p,r,y,z⟩:=c.cells;obtain ⟨s,t,u,v⟩:=dH.cells a;have A:w.cell? ⟨sb+1+1,2,Z0⟩=ZZ (Z6 (ZZ ⟨sb,0,Z0⟩)):=by
  have x:w.heap[sb+1+1]?=_:=hl;simp [World.cell?,x]
 have H:=hide3 hl c a;clear hl c a;go_enter Tryz.func186,Tryz.ntmps186;go_wp2;go_region;obtain ⟨hl,c,a⟩:=H.out;have l:=(c.set7 (Z6 (ZZ ⟨sb,0,Z0⟩))).set8 (Z6 (ZZ ⟨sb,0,Z0⟩));have h:aa (λk=>k=n) w ((w.setCell ⟨n,7,Z0⟩ (Z6 (ZZ ⟨sb,0,Z0⟩))).setCell ⟨n,8,Z0⟩ (Z6 (ZZ ⟨sb,0,Z0⟩))):=eO w n 7 8 _ _;have j:iC _ sb sb:=a.keep (h.block sb a.lt (λe=>m e.symm));obtain ⟨w2,f⟩:=nM (((w.setCell ⟨n,7,Z0⟩ (Z6 (ZZ ⟨sb,0,Z0⟩))).setCell ⟨n,8,Z0⟩ (Z6 (ZZ ⟨sb,0,Z0⟩))).drew);rw [f];have b:dH w2 n D L G lost rd regs steps (Z6 (ZZ ⟨sb,0,Z0⟩)) (Z6 (ZZ ⟨sb,0,Z0⟩)):=by rw [<- f];exact l
 have d:iC w2 sb sb:=by rw [<- f];exact j
 have g:aa (λk=>k=n) w w2:=by rw [<- f];exact h.trans (aa.drew _)
 obtain ⟨p,r,_,_⟩:=b.cells;obtain ⟨s,t,u,v⟩:=dH.cells d;have o:=hide3 b d g;clear hl c a l h j b d g f;go_wp2;go_region;go_end0
 obtain ⟨b,d,g⟩:=o.out;have i:aa (λk=>k=sb) w2 ((w2.setCell ⟨sb,8,Z0⟩ (Z6 (ZZ ⟨n,0,Z0⟩))).setCell ⟨sb,7,Z0⟩ (Z6 (ZZ ⟨n,0,Z0⟩))):=eO w2 sb 8 7 _ _;exact ⟨rfl,b.keep (i.block n b.lt m),dH.set7 (dH.set8 d _) _,(g.mono λ_ _ q=>.inl q).trans ((i.mono λ_ _ q=>.inr q).trans (aa.drew _))⟩
theorem Ar (hl:gC w sb room) (i:w.heap[sb+1]?=ZZ (.map #[] n)) (D L G lost:Int) (rd:Bool) :
 ZV ZU 167 #[Z6 (ZZ ⟨sb+1+1,0,Z0⟩),bY D L G lost rd] w λe w'=>e=Z3 (Z1 #[.agg #[Z7 Z9 0,Z5 Z0 0 0],Z2 false])/\ZW w.heap.size w w':=by
 have l1:w.cell? ⟨sb+1+1,1,Z0⟩=ZZ (.map (ZZ (sb+1))):=by
  have u:w.heap[sb+1+1]?=_:=hl;simp [World.cell?,u]
 have k:∀ w',ZW w.heap.size w w'->(Instr.lookup 263 (.map (ZZ (sb+1))) (bY D L G lost rd) true).run ZU w'=.ok (Z1 #[.pointer Z0,Z2 false]) w':=λw' x=>FY ((x.block _ (Tm.1 i).1).trans i) D L G lost rd;obtain ⟨w2,f⟩:=nM ((w.alloc (Z4 #[Z7 Z9 D,Z7 Z9 L,Z7 Z9 G,Z7 Z8 lost,Z2 rd] 228)).alloc (Z4 #[Z7 Z9 0,Z5 Z0 0 0] 210));have a:ZW w.heap.size w w2:=by rw [<- f];exact (bA w _).alloc (by simp) _
 have d:w2.heap[w.heap.size]?=ZZ (Z4 #[Z7 Z9 D,Z7 Z9 L,Z7 Z9 G,Z7 Z8 lost,Z2 rd] 228 (0,0)):=by rw [<- f];exact (blk_alloc_lt _ _ _ (by simp)).trans (blk_alloc_new _ _)
 have q:w2.cell? ⟨w.heap.size,0,Z0⟩=ZZ (Z7 Z9 D):=by simp [World.cell?,d]
 have c1:w2.cell? ⟨w.heap.size,1,Z0⟩=ZZ (Z7 Z9 L):=by simp [World.cell?,d]
 have r:w2.cell? ⟨w.heap.size,2,Z0⟩=ZZ (Z7 Z9 G):=by simp [World.cell?,d]
 have s:w2.cell? ⟨w.heap.size,3,Z0⟩=ZZ (Z7 Z8 lost):=by simp [World.cell?,d]
 have t:w2.cell? ⟨w.heap.size,4,Z0⟩=ZZ (Z2 rd):=by simp [World.cell?,d]
 have h:w2.heap[w.heap.size+1]?=ZZ (Z4 #[Z7 Z9 0,Z5 Z0 0 0] 210 (0,0)):=by
  have:=blk_alloc_new (w.alloc (Z4 #[Z7 Z9 D,Z7 Z9 L,Z7 Z9 G,Z7 Z8 lost,Z2 rd] 228)) (Z4 #[Z7 Z9 0,Z5 Z0 0 0] 210);rw [World.size_alloc] at this;rw [<- f];exact this
 have y:=(a.cell (p:=⟨sb+1+1,1,Z0⟩) (block_lt_of_cell l1)).trans l1;have j:=k w2.drew a.drew;unfold bY at j ⊢;have c:w2.heap.size=w.heap.size+2:=by rw [<- f];simp
 have H:=hide3 a h c;clear hl i k a d h c;go_enter Tryz.func167,Tryz.ntmps167;go_wp2;go_region;obtain ⟨a,h,c⟩:=H.out;have b:ZW w2.heap.size w2 (w2.drew.alloc (Z4 #[Z7 Z9 0,Z5 Z0 0 0] 210)):=((Below.refl _ w2).drew).alloc lR _;obtain ⟨A,m⟩:=nM (w2.drew.alloc (Z4 #[Z7 Z9 0,Z5 Z0 0 0] 210));rw [m] at b;have g:=(b.block (w.heap.size+1) (by omega)).trans h;obtain ⟨E,F,C,B⟩:=aG g;have l:A.heap[w2.heap.size]?=ZZ (Z4 #[Z7 Z9 0,Z5 Z0 0 0] 210 (0,0)):=by rw [<- m];exact blk_alloc_new w2.drew _
 obtain ⟨I,J,_,_⟩:=aG l;have o:=hide4 g b a c;clear a h c b g l q c1 r s t l1 y j f;go_wp2;obtain ⟨g,b,a,c⟩:=o.out;obtain ⟨n0,z,_⟩:=aG (kU (y':=Z5 Z0 0 0) (kT (x':=Z7 Z9 0) g));refine bodyPost_ret (v:=Z1 #[.agg #[Z7 Z9 0,Z5 Z0 0 0],Z2 false]) (by simp [results,Tryz.results167,go_sem,n0,z]) rfl ?_;exact ⟨rfl,((a.trans (b.mono a.size)).setCell (p:=⟨w.heap.size+1,0,Z0⟩) (by show w.heap.size<=w.heap.size+1;omega) _).setCell (p:=⟨w.heap.size+1,1,Z0⟩) (by show w.heap.size<=w.heap.size+1;omega) _⟩
theorem dH.value (h:dH w n D L G lost rd regs steps ne ol):w.cell? ⟨n,5,Z0⟩=ZZ (Z7 Z9 regs)/\w.cell? ⟨n,6,Z0⟩=ZZ steps:=by
 have a:w.heap[n]?=ZZ (Z4 (pS D L G lost rd regs steps ne ol) 262 (0,0)):=h;simp [World.cell?,a,pS]
theorem nh (hl:gC w sb room):w.cell? ⟨sb+1+1,0,Z0⟩=ZZ (Z7 Z9 room)/\w.cell? ⟨sb+1+1,1,Z0⟩=ZZ (.map (ZZ (sb+1)))/\w.cell? ⟨sb+1+1,2,Z0⟩=ZZ (Z6 (ZZ ⟨sb,0,Z0⟩)):=by
 have a:w.heap[sb+1+1]?=_:=hl;simp [World.cell?,a]
theorem C8 {nb:Nat} {ao:Option Addr} {c:Nat} (hl:gC w sb room) (F:w.heap[sb+1]?=ZZ (.map #[{ key:=bY D L G lost rd,val:=Z6 (ZZ ⟨nb,0,Z0⟩),born:=k }] n)) (he:iC w sb nb) (hn:dH w nb D L G lost rd regs (.slice ao m c) (Z6 (ZZ ⟨sb,0,Z0⟩)) (Z6 (ZZ ⟨sb,0,Z0⟩))) (hv:sb+1+1+1<nb) :
 ZV ZU 167 #[Z6 (ZZ ⟨sb+1+1,0,Z0⟩),bY D L G lost rd] w λe w'=>e=Z3 (Z1 #[.agg #[Z7 Z9 regs,.slice ao m c],Z2 true])/\iC w' sb nb/\dH w' nb D L G lost rd regs (.slice ao m c) (Z6 (ZZ ⟨sb,0,Z0⟩)) (Z6 (ZZ ⟨sb,0,Z0⟩))/\aa (λk=>k=sb\/k=nb) w w':=by
 obtain ⟨w2,p⟩:=nM ((w.alloc (Z4 #[Z7 Z9 D,Z7 Z9 L,Z7 Z9 G,Z7 Z8 lost,Z2 rd] 228)).alloc (Z4 #[Z7 Z9 0,Z5 Z0 0 0] 210));have a:ZW w.heap.size w w2:=by rw [<- p];exact (bA w _).alloc (by simp) _
 have f:w2.heap.size=w.heap.size+2:=by rw [<- p];simp
 have i:w2.heap[w.heap.size]?=ZZ (Z4 #[Z7 Z9 D,Z7 Z9 L,Z7 Z9 G,Z7 Z8 lost,Z2 rd] 228 (0,0)):=by rw [<- p];exact (blk_alloc_lt _ _ _ (by simp)).trans (blk_alloc_new _ _)
 have K:w2.cell? ⟨w.heap.size,0,Z0⟩=ZZ (Z7 Z9 D):=by simp [World.cell?,i]
 have c1:w2.cell? ⟨w.heap.size,1,Z0⟩=ZZ (Z7 Z9 L):=by simp [World.cell?,i]
 have M:w2.cell? ⟨w.heap.size,2,Z0⟩=ZZ (Z7 Z9 G):=by simp [World.cell?,i]
 have N:w2.cell? ⟨w.heap.size,3,Z0⟩=ZZ (Z7 Z8 lost):=by simp [World.cell?,i]
 have O:w2.cell? ⟨w.heap.size,4,Z0⟩=ZZ (Z2 rd):=by simp [World.cell?,i]
 have g:w2.heap[w.heap.size+1]?=ZZ (Z4 #[Z7 Z9 0,Z5 Z0 0 0] 210 (0,0)):=by
  have:=blk_alloc_new (w.alloc (Z4 #[Z7 Z9 D,Z7 Z9 L,Z7 Z9 G,Z7 Z8 lost,Z2 rd] 228)) (Z4 #[Z7 Z9 0,Z5 Z0 0 0] 210);rw [World.size_alloc] at this;rw [<- p];exact this
 have Q:=hn.lt;have b:gC w2 sb room:=(a.block _ (by omega)).trans hl;have l1:=(nh b).2.1;have B:iC w2 sb nb:=dH.keep he (a.block _ (by omega));have d:=hn.keep (a.block _ Q);have E:=Jw (w:=w2.drew) D L G lost rd ((a.block _ (by omega)).trans F);have hr:=xU (w:=w2.drew) d B;unfold bY at E ⊢;have H:=hide6 a g f b d hr;clear hl F he hn a i g f b B d hr;go_enter Tryz.func167,Tryz.ntmps167;go_wp2;go_region;clear K c1 M N O l1 E p;go_wp2_with fail;refine H.out.2.2.2.2.2.mono ?_;rintro e x ⟨rfl,C,z⟩;obtain ⟨a,g,f,b,d,_⟩:=H.out;have s:aa (λk=>k=sb) w2 x:=(aa.drew w2).trans z;have I:=mJ (w:=x) (n:=nb) (show gC x sb room from (s.block _ (by omega) (by omega)).trans b) (d.keep (s.block _ (by omega) (by omega))) C (by omega);have y:=hide2 s I;clear a g f b d C z s I;go_wp2_with fail;refine y.out.2.mono ?_;rintro e t ⟨rfl,h,o,A⟩;obtain ⟨a,g,f,b,d,_⟩:=H.out;have j:aa (λk=>k=sb\/k=nb) w2 t:=(y.out.1.mono λ_ _ q=>.inl q).trans (A.mono λ_ _ q=>q.symm);have r:=(j.block (w.heap.size+1) (by omega) (by omega)).trans g;obtain ⟨X,Y⟩:=h.value;obtain ⟨V,W,T,S⟩:=aG r;have J:=hide6 h o j r a f;clear a g f b d h o A j r;go_wp2;obtain ⟨h,o,j,r,a,f⟩:=J.out;obtain ⟨n0,R,_⟩:=aG (kU (y':=.slice ao m c) (kT (x':=Z7 Z9 regs) r));refine bodyPost_ret (v:=Z1 #[.agg #[Z7 Z9 regs,.slice ao m c],Z2 true]) (by simp [results,Tryz.results167,go_sem,n0,R]) rfl ?_;have u:aa (λk=>k=w.heap.size+1) t ((t.setCell ⟨w.heap.size+1,0,Z0⟩ (Z7 Z9 regs)).setCell ⟨w.heap.size+1,1,Z0⟩ (.slice ao m c)):=eO t (w.heap.size+1) 0 1 _ _;have l:=(j.mono λ_ _ q=>(.inl q:_\/_)).trans (u.mono λ_ _ q=>(.inr q:(_=sb\/_=nb)\/_));exact ⟨rfl,dH.keep o (u.block _ (dH.lt o) (by omega)),h.keep (u.block _ h.lt (by omega)),l.os.trans a.os,l.tape.trans a.tape,l.output.trans a.output,Tn a.size l.size,λk P U=>(l.block k (by have:=a.size;omega) (by omega)).trans (a.block k P)⟩
theorem LX {x:MapEntry} (h:w.heap[m]?=ZZ (.map #[x] n)) (t:TypeId):(Builtin.len_ #[263] t #[.map (ZZ m)]).run ZU w=.ok (Z7 Z9 1) w:=by
 simp [Builtin.len_,xT h,run_underlying Tryz.underlying263];rfl
theorem aa.putObj {S:Nat->Prop} (w:ZY) (m:Nat) (o:Obj) (h:S m):aa S w (w.putObj m o):=⟨rfl,rfl,rfl,by simp [World.putObj],λk _ a=>World.putObj_heap_other (λe=>a (e▸h))⟩
theorem C9 (Z:1<=room) (hl:gC w sb room) (J:w.heap[sb+1]?=ZZ (.map #[] n)) (y:iC w sb sb) (D L G lost regs:Int) (rd:Bool) (h:Option Addr) (m c:Nat) :
 ZV ZU 169 #[Z6 (ZZ ⟨sb+1+1,0,Z0⟩),bY D L G lost rd,.agg #[Z7 Z9 regs,.slice h m c]] w λe w'=>e=Z3 (Z1 #[])/\(∃ W V,w'.heap[sb+1]?=ZZ (.map #[{ key:=bY D L G lost rd,val:=Z6 (ZZ ⟨w.heap.size+1+1,0,Z0⟩),born:=V }] W))/\iC w' sb (w.heap.size+1+1)/\dH w' (w.heap.size+1+1) D L G lost rd regs (.slice h m c) (Z6 (ZZ ⟨sb,0,Z0⟩)) (Z6 (ZZ ⟨sb,0,Z0⟩))/\aa (λk=>k=sb\/k=sb+1) w w':=by
 obtain ⟨a,B⟩:=nM (((w.alloc (Z4 #[Z7 Z9 D,Z7 Z9 L,Z7 Z9 G,Z7 Z8 lost,Z2 rd] 228)).alloc (Z4 #[Z7 Z9 regs,.slice h m c] 210)).alloc (Z4 #[Z7 Z9 D,Z7 Z9 L,Z7 Z9 G,Z7 Z8 lost,Z2 rd,Z7 Z9 regs,.slice h m c,.pointer Z0,.pointer Z0] 262));have b:ZW w.heap.size w a:=by rw [<- B];exact ((bA w _).alloc (by simp) _).alloc (by simp;omega) _
 obtain ⟨l,_,v⟩:=mF w (Z4 #[Z7 Z9 D,Z7 Z9 L,Z7 Z9 G,Z7 Z8 lost,Z2 rd] 228) (Z4 #[Z7 Z9 regs,.slice h m c] 210) (Z4 #[Z7 Z9 D,Z7 Z9 L,Z7 Z9 G,Z7 Z8 lost,Z2 rd,Z7 Z9 regs,.slice h m c,.pointer Z0,.pointer Z0] 262);rw [B] at l v;have j:dH a (w.heap.size+1+1) D L G lost rd regs (.slice h m c) (.pointer Z0) (.pointer Z0):=v;have r:sb+1+1<w.heap.size:=(Tm.1 hl).1;have f:gC a sb room:=(b.block _ r).trans hl;have I:=(b.block _ (by omega)).trans J;have o:iC a sb sb:=y.keep (b.block _ y.lt);have O:a.cell? ⟨w.heap.size,0,Z0⟩=ZZ (Z7 Z9 D):=by simp [World.cell?,l]
 have c1:a.cell? ⟨w.heap.size,1,Z0⟩=ZZ (Z7 Z9 L):=by simp [World.cell?,l]
 have P:a.cell? ⟨w.heap.size,2,Z0⟩=ZZ (Z7 Z9 G):=by simp [World.cell?,l]
 have Q:a.cell? ⟨w.heap.size,3,Z0⟩=ZZ (Z7 Z8 lost):=by simp [World.cell?,l]
 have R:a.cell? ⟨w.heap.size,4,Z0⟩=ZZ (Z2 rd):=by simp [World.cell?,l]
 obtain ⟨_,l1,_⟩:=nh f;have A:=FZ (w:=a.drew) I D L G lost rd (Z6 (ZZ ⟨w.heap.size+1+1,0,Z0⟩));have d:aa (λk=>k=sb+1) a (a.drew.putObj (sb+1) (.map #[{ key:=bY D L G lost rd,val:=Z6 (ZZ ⟨w.heap.size+1+1,0,Z0⟩),born:=n }] (n+1))):=(aa.drew a).trans (aa.putObj _ _ _ rfl);have g:(a.drew.putObj (sb+1) (.map #[{ key:=bY D L G lost rd,val:=Z6 (ZZ ⟨w.heap.size+1+1,0,Z0⟩),born:=n }] (n+1))).heap[sb+1]?=ZZ (.map #[{ key:=bY D L G lost rd,val:=Z6 (ZZ ⟨w.heap.size+1+1,0,Z0⟩),born:=n }] (n+1)):=by
  have hz:=b.size;unfold World.putObj;exact Array.getElem?_setIfInBounds_self_of_lt (by show sb+1<a.heap.size;omega)
 obtain ⟨M,hr⟩:=nM (a.drew.putObj (sb+1) (.map #[{ key:=bY D L G lost rd,val:=Z6 (ZZ ⟨w.heap.size+1+1,0,Z0⟩),born:=n }] (n+1)));rw [hr] at A d g;unfold bY at A ⊢;have H:=hide7 b j f o d g r;clear hl J y b j f I o d g l v hr;go_enter Tryz.func169,Tryz.ntmps169;go_wp2;go_region;clear O c1 P Q R l1 A B;obtain ⟨b,j,f,o,d,g,r⟩:=H.out;have k5:=b.size;have K:=mJ (w:=M) (n:=w.heap.size+1+1) (show gC M sb room from (d.block _ (by omega) (by omega)).trans f) (j.keep (d.block _ j.lt (by omega))) (o.keep (d.block _ o.lt (by omega))) (by omega);have C:=hide7 g d f b j.lt r K;clear b j f o d g K;go_wp2_with fail;refine C.out.2.2.2.2.2.2.mono ?_;rintro e x ⟨rfl,u,p,z⟩;obtain ⟨g,d,f,b,k0,r,_⟩:=C.out;have i:aa (λk=>k=sb+1\/k=w.heap.size+1+1\/k=sb) a x:=(d.mono λ_ _ q=>.inl q).trans (z.mono λ_ _ q=>.inr q);have F:gC x sb room:=(i.block _ (by omega) (by omega)).trans f;have k6:=d.size;have s:=(z.block (sb+1) (by omega) (by omega)).trans g;obtain ⟨l0,l1,l2⟩:=nh F;obtain ⟨X,Y,_,_⟩:=dH.cells p;have hv:=λt=>LX (w:=x.drew) s t;have E:aa (λk=>k=sb\/k=sb+1) w x:=⟨i.os.trans b.os,i.tape.trans b.tape,i.output.trans b.output,Tn b.size i.size,λk T v=>(i.block k (by omega) (by omega)).trans (b.block k T)⟩;have N:=hide4 u p s (E.trans (aa.drew _));clear g d f i F s u p z E;have U:¬ (room<(1:Int)):=by omega
 have hy:decide (room<(1:Int))=false:=decide_eq_false U;go_wp2;go_region;go_wp2;go_end0
 obtain ⟨u,p,s,S⟩:=N.out;exact ⟨rfl,⟨_,_,s⟩,p,u,S⟩
section
open Go.Shelf Gf
theorem De (s i:Nat) (g:s<65536) (f:i<16) (w:ZY):ZV ZU 196 #[Z7 Z8 s,Z7 Z9 i] w λe w'=>e=Z3 (Z2 (s.testBit i))/\w'=w:=by
 have key:(bits .and .u64 ((s:Int)/2^i) 1==1)=s.testBit i:=by
  have e:((s:Int)/2^i)=((s/2^i:Nat):Int):=by rw [Int.natCast_ediv,Int.natCast_pow];rfl
  have d:s/2^i<=s:=Nat.div_le_self _ _;have b:=fW (s/2^i) 1 (by omega) (by decide);rw [e,show ((1:Int))=((1:Nat):Int) from rfl,b,Nat.and_one_is_mod,Nat.testBit_eq_decide_div_mod_eq];by_cases c:s/2^i%2=1
  . rw [c];rfl
  . have a:s/2^i%2=0:=(by omega);rw [a];rfl
 go_enter Tryz.func196,Tryz.ntmps196;go_wp2;go_ret;exact ⟨by rw [<- key];rfl,rfl⟩
def yw (D L G lost:Nat) (C:Ck) (w:ZY) (T:Nat->Prop) (e:Ending) (w':ZY):Prop:=
 ∃ ao m c,e=Z3 (Z1 #[.agg #[Z7 Z9 (1+((ae (av (D+L+G) lost)).length:Int)),.slice ao m c],.nilIface])/\w'.ownsRow w.heap.size 284 4 (.slice ao m c) (cK D L G lost C).length (eH .u8 (cK D L G lost C))/\aa T w w'
theorem L4 {base e s:Nat} {xs:List ZX} (c:w.ownsRow base e s v n xs):∃ a m b,v=.slice a m b:=by
 rcases c.2 with ⟨rfl,_⟩|⟨g,cap,cur,rfl,_⟩
 . exact ⟨_,_,_,rfl⟩
 . exact ⟨_,_,_,rfl⟩
def Df (D L G lost:Nat) (w:ZY) (T:Nat->Prop) (e:Ending) (w':ZY):Prop:=∃ s C,OY D L G lost s/\tells (fE D L G) (ae (av (D+L+G) s))=ZZ C/\yw D L G s C w T e w'
section
variable (D L G lost:Nat) {C:Ck} (hr:cn D L G=true) (hD1:1<=D) (hD:D<=12) (hL:1<=L) (hL4:L<=4) (hG:G<=4) (hdiv:D%L=0) (h16:D+L+G<=16) (hl:lost<18446744073709551616) (hC:tells (fE D L G) (ae (av (D+L+G) lost))=ZZ C)
include hr hD1 hD hL hL4 hG hdiv h16 hl hC
theorem Dg (w:ZY) (j:aJ w) (h:3<=w.heap.size):ZV ZU 188 #[.agg #[Z7 Z9 D,Z7 Z9 L,Z7 Z9 G],Z7 Z8 lost] w (yw D L G lost C w (λ_=>False)):=by
 refine (uG D L G lost hr hD1 hD hL hL4 hG hdiv h16 hl w j h).mono ?_;rintro e w1 ⟨i,g⟩;rcases g with ⟨b,rfl⟩|⟨k,v,a,rfl,c⟩
 . rw [hC] at b;cases b
 . rw [hC] at a;obtain rfl:=To a;obtain ⟨d,m,f,rfl⟩:=L4 c;exact ⟨d,m,f,rfl,c,aa.of_all i _⟩
end
def PC (w:ZY) (D L G lost cb:Nat) (C:Ck) (lv iv:ZX) (wr:ZY):Prop:=
 ∃ k:Nat,k<=D+L+G/\lv=Z7 Z8 ((rdTo (D+L+G) (lost,C) k).1:Nat)/\iv=Z7 Z9 ((D+L+G:Nat)-1-(k:Int))/\aD wr cb (rdTo (D+L+G) (lost,C) k).2/\CI w D L G wr/\cb<wr.heap.size/\w.heap.size+2<=cb
section
variable (D L G lost:Nat) (hr:cn D L G=true) (hD1:1<=D) (hD:D<=12) (hL:1<=L) (hL4:L<=4) (hG:G<=4) (hdiv:D%L=0) (h16:D+L+G<=16) (hl:lost<2^(D+L+G)) (hT0:∃ C,tells (fE D L G) (ae lost)=ZZ C)
include hr hD1 hD hL hL4 hG hdiv h16 hl hT0
theorem Dh (w:ZY) (hT:aJ w) (d:3<=w.heap.size):ZV ZU 187 #[.agg #[Z7 Z9 D,Z7 Z9 L,Z7 Z9 G],Z7 Z8 lost] w (Df D L G lost w (λ_=>False)):=by
 unfold Df yw;have q0:lost<65536:=Tp hl (vJ h16);have h:=CI.new w D L G;have x:((w.alloc (Z4 #[Z7 Z9 (D:Int),Z7 Z9 (L:Int),Z7 Z9 (G:Int)] 25)).alloc (Z4 #[Z7 Z9 0,Z5 Z0 0 0] 210)).heap.size=w.heap.size+2:=by simp
 obtain ⟨P,Q,R⟩:=fa h.par;have km:=kS D L G lost hr hD1 hD hL hL4 hG hdiv h16 q0 _ (hT.mono (by omega) h.below) (Tn d h.below.size);have Z:=hide3 h x km;clear h x km;go_enter Tryz.func187,Tryz.ntmps187;go_wp2_with fail;refine Z.out.2.2.mono ?_;rintro e w1 ⟨U,hq⟩;obtain ⟨h,x,_⟩:=Z.out;rw [x] at U;have O:=U.size;rw [x] at O;have hv:=h.mono U lR;obtain ⟨C,hC⟩:=hT0;rcases hq with ⟨kr,rfl⟩|⟨C',j,rfl⟩
 . rw [hC] at kr;cases kr
 rw [hC] at j;obtain rfl:=To j;have o:=zeroCk;have kh:=aY dC;have kg:=aY C;have kj:ZW w1.heap.size w1 ((w1.alloc (Z4 (aV dC) 319)).setRow w1.heap.size (aV C)):=(bA _ _).grown (aR _ _ _) (by simp) (λk e=>by cases e;exact Tq _);have u:aD ((w1.alloc (Z4 (aV dC) 319)).setRow w1.heap.size (aV C)) w1.heap.size C:=(aD.new w1 dC).setRow C;have t:=hv.mono kj O;obtain ⟨P,Q,R⟩:=fa t.par;have H5:=hide3 u t O;clear Z h x U hv kj u t;go_wp2_with (refine wpList_store_row rfl 319 (.tmp 6) (.tmp 13) rfl w1.heap.size (aV C) rfl rfl 319 (aV dC) (aD.new w1 dC).heap (eh _) rfl (oj _) ?_);obtain ⟨w5,kv⟩:=nM ((w1.alloc (Z4 (aV dC) 319)).setRow w1.heap.size (aV C));rw [kv] at H5 P Q R ⊢;clear kv o kh kg;refine (ea D L G _ (by omega) (by omega) (by omega)).mono ?_;rintro e w6 ⟨rfl,V⟩;obtain ⟨u,t,O⟩:=H5.out;have l:=(Tm.1 u.heap).1;have hc:PC w D L G lost w1.heap.size C (Z7 Z8 (lost:Nat)) (Z7 Z9 ((D:Int)+L+G-1)) w6:=⟨0,Nat.zero_le _,rfl,by congr 1;omega,u.keep (V.block _ l),t.mono V (by omega),Tp l V.size,O⟩;have ki:=hide hc;clear P Q R u t l V hc H5;go_wp2;go_loopw [1,8] (λlv iv wr=>PC w D L G lost w1.heap.size C lv iv wr) (λ_ iv _=>(intOf iv+1).toNat)
 case atStart=>exact ki.out
 case round=>
  clear ki;rename ZY=>wo;obtain ⟨k,T,rfl,rfl,I,b,l,kk⟩:=hrel;have kf:=JM hD hG h16 hl hC k T;have X:(rdTo (D+L+G) (lost,C) k).1<65536:=Tp kf.lt (by rw [show D+(L+G)=D+L+G by omega];exact vJ h16);by_cases kp:k<D+L+G
  . obtain ⟨i,hi⟩:∃ i,i=D+L+G-1-k:=⟨_,rfl⟩;have J:((D+L+G:Nat):Int)-1-(k:Int)=(i:Int):=(by omega);have hg:=N5 hD hL4 hG h16 hl hC k T;have h9:rdTo (D+L+G) (lost,C) (k+1)=ju (rdTo (D+L+G) (lost,C) k) i:=(by rw [hi];rfl);rw [J];obtain ⟨a,ha⟩:=nM (rdTo (D+L+G) (lost,C) k);rw [ha] at I X hg h9 ⊢;have q3:=sq w1.heap.size i a.2 wo I hg (by omega);have HN:=hide6 h9 b I l kk J;have kc:i<16:=(by omega);have r:=hide2 hi kp;clear kf ha b I hg h9 l kk J hi kp;go_wp2_with fail;refine (De a.1 i X kc wo).mono ?_;rintro e w2 ⟨rfl,q4⟩;subst q4;cases hb:a.1.testBit i with
    | true=>
     go_wp2;go_roundw
     case rel=>
      obtain ⟨g,d,S,A,B,h6⟩:=HN.out;refine ⟨k+1,by have:=r.out;omega,?_,by congr 1;omega,?_,d,A,B⟩
      . rw [g];unfold ju;rw [if_pos hb]
      . rw [g];unfold ju;rw [if_pos hb];exact S
     case measure=>have:=r.out;simp [intOf]<;>omega
    | false=>
     go_wp2_with fail;refine q3.mono ?_;rintro e Y (⟨ko,rfl,q5⟩|⟨C',K,rfl,j,n⟩)
     . subst q5;go_wp2;go_roundw
       case rel=>
        obtain ⟨g,d,S,A,B,h6⟩:=HN.out;refine ⟨k+1,by have:=r.out;omega,?_,by congr 1;omega,?_,d,A,B⟩
        . rw [g];unfold ju;rw [if_neg (by rw [hb];decide),ko]
        . rw [g];unfold ju;rw [if_neg (by rw [hb];decide),ko];exact S
       case measure=>have:=r.out;simp [intOf]<;>omega
     . have H3:=hide3 K j n;clear K j n;go_wp2_with fail;refine (iF a.1 i (by omega) (by omega) Y).mono ?_;rintro e w4 ⟨rfl,q6⟩;subst q6;go_wp2;go_roundw
       case rel=>
        obtain ⟨g,d,S,A,B,h6⟩:=HN.out;obtain ⟨K,j,n⟩:=H3.out;refine ⟨k+1,by have:=r.out;omega,?_,by congr 1;omega,?_,?_,Tp A n.size,B⟩
        . rw [g];unfold ju;rw [if_neg (by rw [hb];decide),K]
        . rw [g];unfold ju;rw [if_neg (by rw [hb];decide),K];exact j
        . have q2:=d.below.size;exact ⟨(n.block _ (by omega) (λe=>by have:=To e;omega)).trans d.par,(n.block _ (by omega) (λe=>by have:=To e;omega)).trans d.res,d.below.grown n q2 (λq e=>by have:=To e;omega)⟩
       case measure=>have:=r.out;simp [intOf]<;>omega
  . have kz:k=D+L+G:=(by omega);subst kz;have F:=N6 hD hG h16 hl hC;have J:((D+L+G:Nat):Int)-1-((D+L+G:Nat):Int)=-1:=(by omega);rw [J];have e0:(rdTo (D+L+G) (lost,C) (D+L+G)).1=OX D L G lost C:=rfl;rw [e0] at X ⊢;obtain ⟨s,ks⟩:=nM (OX D L G lost C);rw [ks] at F X ⊢;obtain ⟨C2,E⟩:=F.told;have W:=Dg D L G s hr hD1 hD hL hL4 hG hdiv h16 (by omega) E wo (hT.mono (by omega) b.below) (Tn d b.below.size);obtain ⟨P,Q,R⟩:=fa b.par;obtain ⟨z,o⟩:∃ z:Int,1+((ae (av (D+L+G) s)).length:Int)=z:=⟨_,rfl⟩;unfold yw at W;rw [o] at W;have H:=hide5 F W b E o;clear F W b E o kf I l e0 ks;go_wp2_with fail;refine H.out.2.1.mono ?_;rintro e Y ⟨y,m,c,rfl,M,f⟩;have b:=H.out.2.2.1;have kx:=(Tm.1 b.res).1;have N:=(f.block (w.heap.size+1) kx (λq=>q)).trans b.res;obtain ⟨r0,r1,g1,g0⟩:=aG N;have H3:=hide4 M f N kx;clear M f N P Q R b;go_wp2;obtain ⟨M,f,N,F⟩:=H3.out;obtain ⟨n0,n1,_⟩:=aG (kU (y':=.slice y m c) (kT (x':=Z7 Z9 z) N));have hn:(Value.slice y m c).ownBlock≠ZZ (w.heap.size+1):=λe=>by have:=jN M e;omega
    have ke:=(M.kept (dh Y (w.heap.size+1) 0 (Z7 Z9 z)) (.inr hn)).kept (dh _ (w.heap.size+1) 1 (.slice y m c)) (.inr hn);refine bodyPost_ret (v:=Z1 #[.agg #[Z7 Z9 z,.slice y m c],.nilIface]) (by simp [results,Tryz.results187,go_sem,n0,n1]) rfl ?_;obtain ⟨q1,_,b,E,o⟩:=H.out;have ky:ZW w.heap.size w Y:=⟨f.os.trans b.below.os,f.tape.trans b.below.tape,f.output.trans b.below.output,Tn b.below.size f.size,λk T=>(f.block k (by omega) (λq=>q)).trans (b.below.block k T)⟩;exact ⟨s,C2,q1,E,y,m,c,by rw [o],jO ke (by omega),aa.of_all ((ky.setCell (p:=⟨w.heap.size+1,0,Z0⟩) (by show w.heap.size<=w.heap.size+1;omega) _).setCell (p:=⟨w.heap.size+1,1,Z0⟩) (by show w.heap.size<=w.heap.size+1;omega) _) _⟩
end
end
end Go.Proofs.YtfbmmcnpjhmjaaaGreatDoor
