import Derived.Test.YtfbmmcnpjhmjaaaGreatDoorM46
import Derived.Test.YtfbmmcnpjhmjaaaGreatDoorM49
import Derived.SizedLaws
set_option maxRecDepth 100000
set_option maxHeartbeats 8000000
open Go.IntKind renaming i64 -> Z9
open Go.Value renaming int -> Z8, pointer -> Z7, slice -> Z6, string -> Z4
open Go.Obj renaming cells -> Z5
open Option renaming none -> Z3, some -> Z2
open Bool renaming true -> Z1
open Go renaming World -> Z0, Value -> ZZ, Calls -> ZX, Boxed -> ZW
open Go.RowKit renaming Below -> ZY
open List renaming mem_append -> Tm, mem_cons -> Tn, mem_map -> To
open Nat renaming eq_zero_or_pos -> Tp
open Go.Proofs.Tryz renaming prog -> ZV
namespace Go.Proofs.YtfbmmcnpjhmjaaaGreatDoor
open Go.RowKit Go.Deep
variable {A:aB} {F:bx} {cache:Int} {ps:dD} {P:List Nat} {wb D L G blocks p ar v t sa n:Nat} {xs:bg} {H:Type} {s r out want pg ob:ZZ} {w W:Z0}
def PP (D L G:Nat) (a s r:ZZ) (blocks:Nat) (out want:ZZ) (cache:Int):List ZZ:=[Z8 Z9 (D:Nat),Z8 Z9 (L:Nat),Z8 Z9 (G:Nat),a,s,r,Z8 Z9 (blocks:Nat),out,want,Z8 Z9 cache]
def nB (w:Z0) (wb D L G:Nat) (a s r:ZZ) (blocks:Nat) (out want:ZZ) (cache:Int):Prop:=aw w wb 36 (PP D L G a s r blocks out want cache)
theorem nB.cells {a:ZZ} (h:nB w wb D L G a s r blocks out want cache) :
 w.cell? ⟨wb,0,Z3⟩=Z2 (Z8 Z9 (D:Nat))/\w.cell? ⟨wb,1,Z3⟩=Z2 (Z8 Z9 (L:Nat))/\w.cell? ⟨wb,2,Z3⟩=Z2 (Z8 Z9 (G:Nat))/\w.cell? ⟨wb,3,Z3⟩=Z2 a/\w.cell? ⟨wb,4,Z3⟩=Z2 s/\w.cell? ⟨wb,5,Z3⟩=Z2 r/\w.cell? ⟨wb,6,Z3⟩=Z2 (Z8 Z9 (blocks:Nat))/\w.cell? ⟨wb,7,Z3⟩=Z2 out/\w.cell? ⟨wb,8,Z3⟩=Z2 want/\w.cell? ⟨wb,9,Z3⟩=Z2 (Z8 Z9 cache):=
 ⟨aw.cell h rfl,aw.cell h rfl,aw.cell h rfl,aw.cell h rfl,aw.cell h rfl,aw.cell h rfl,aw.cell h rfl,aw.cell h rfl,aw.cell h rfl,aw.cell h rfl⟩
theorem GG (h:nB w wb D L G (Z7 (Z2 ⟨p,0,Z3⟩)) s r blocks out want cache) (B:∃ o,s=.pointer o) (R:Nat->Z0->Prop) (k:∀ sa w2,R sa w2->w2.heap[wb]?=w.heap[wb]?)
 (ho:ZX ZV 30 #[Z7 (Z2 ⟨p,0,Z3⟩),.agg #[Z8 Z9 D,Z8 Z9 L,Z8 Z9 G],.agg #[Z8 Z9 cache]] w.drew λe w2=>∃ sa,e=.returned (.tuple #[Z7 (Z2 ⟨sa,0,Z3⟩),.nilIface])/\R sa w2) :
 ZX ZV 15 #[Z7 (Z2 ⟨wb,0,Z3⟩)] w λe w'=>e=.returned (.bool Z1)/\∃ sa w2 c,R sa w2/\ZY w2.heap.size w2 c/\nB w' wb D L G (Z7 (Z2 ⟨p,0,Z3⟩)) (Z7 (Z2 ⟨sa,0,Z3⟩)) r blocks out want cache/\w'=c.setCell ⟨wb,4,Z3⟩ (Z7 (Z2 ⟨sa,0,Z3⟩)):=by
 obtain ⟨l,c1,m,n,q,t,u,v,x,y⟩:=h.cells;have g:=hide3 ho h k;clear ho h k q t u v x;go_enter Tryz.func15,Tryz.ntmps15;go_upto_region 1 with fail;go_cut [3,4] from 6 to 34 (λE F H=>∃ sa,E=Z7 (Z2 ⟨sa,0,Z3⟩)/\F=.nilIface/\R sa H)
 case first=>
  go_region_with (go_at_call 30;refine g.out.1.mono ?_;rintro e w2 ⟨sa,rfl,a⟩;have b:=hide a;clear a);all_goals (go_wp2_with fail;go_meet;case rel=>exact ⟨sa,rfl,rfl,b.out⟩)
 case rest=>
  obtain ⟨sa,rfl,rfl,a⟩:=hcut;have f:nB wc wb D L G (Z7 (Z2 ⟨p,0,Z3⟩)) s r blocks out want cache:=aw.keep g.out.2.1 (g.out.2.2 sa wc a);obtain ⟨C,rfl⟩:=B;have z:=f.cells.2.2.2.2.1;have A:=aw.thaw f 4;have b:=hide2 a f;clear a f l c1 m n y;go_wp2_with fail;refine (se wc).mono ?_;rintro e c ⟨rfl,i⟩;have d:nB c wb D L G (Z7 (Z2 ⟨p,0,Z3⟩)) (.pointer C) r blocks out want cache:=aw.keep b.out.2 (i.block _ (aw.lt b.out.2));have I:=d.cells.2.2.2.2.1;have J:=aw.thaw d 4;have j:=hide2 i d;clear i d z A;dsimp only;go_wp2;go_ret;refine ⟨rfl,sa,wc,c,b.out.1,j.out.1,?_,rfl⟩;exact aw.set j.out.2 4 [Z7 (Z2 ⟨sa,0,Z3⟩)] (by simp [PP])
section
open Gf
def eI (w:Z0) (ar v p:Nat) (ps:dD) (D L G:Nat) (A:aB) (F:bx) (Q:ZZ->Nat->bg->aB->Z0->Prop) (e:Ending) (w':Z0):Prop:=
 ∃ x t' pg' ob' P' xs' B,e=.returned x/\noCut x/\bf w' ar v p ps D L G t' pg' ob' P' xs' B F/\B.n=A.n/\(B.nb=A.nb/\B.lost=A.lost)/\aa (λj=>j=ar\/F.has p A.n j) w w'/\Q x t' xs' B w'
def DM (D t:Nat) (xs:bg) (A:aB) (x:ByteArray) (d:List Nat) (r:ZZ) (t':Nat) (xs':bg) (_:aB) (_:Z0):Prop:=
 (r=qQ 6/\t'=t/\xs'=xs/\bB x=false)\/(r=qQ 7/\t'=t/\xs'=xs/\bB x=Z1/\1500<d.length)\/(r=qQ 8/\t'=t/\xs'=xs/\bB x=Z1/\d.length<=1500/\x∈xs.names) \/
 (r=qQ 10/\t'=t/\xs'=xs/\bB x=Z1/\d.length<=1500/\x∉xs.names/\A.nb<(ai xs.os).length+iM D d.length+2*pL D (aC xs.os).length d.length+2) \/
 (r=.nilIface/\t'=t+1/\bB x=Z1/\d.length<=1500/\x∉xs.names/\∃ o,o.name=x/\xs'=xs.ins (o,d))
def DN (t:Nat) (xs:bg) (x:ByteArray) (r:ZZ) (t':Nat) (xs':bg) (_:aB) (_:Z0):Prop:=
 (r=qQ 6/\t'=t/\xs'=xs/\bB x=false)\/(r=qQ 9/\t'=t/\xs'=xs/\bB x=Z1/\x∉xs.names)\/(r=.nilIface/\t'=t+1/\bB x=Z1/\x∈xs.names/\xs'=xs.del (aF xs.names x))
section
variable {w:Z0} {ar v p D L G t:Nat} {ps:dD} {pg ob:ZZ} {P:List Nat} {xs:bg} {A:aB} {F:bx}
theorem pM (h:bf w ar v p ps D L G t pg ob P xs A F) {n:Int} (c:n≠13) {Q:ZZ->Nat->bg->aB->Z0->Prop} {e:Ending} {w':Z0} (d:nC w n e w') (b:Q (qQ n) t xs A w'):eI w ar v p ps D L G A F Q e w':=by
 obtain ⟨rfl,a⟩:=d;exact ⟨_,t,pg,ob,P,xs,A,rfl,.inr ⟨n,c,rfl⟩,h.below a,rfl,⟨rfl,rfl⟩,aa.of_all a _,b⟩
theorem Ml (h:bf w ar v p ps D L G t pg ob P xs A F) (x:ByteArray) (b off c:Nat) (d:List Nat) (y:∀ w',aa (F.has p A.n) w w'->Bs w' (Z6 (Z2 ⟨b,off,Z3⟩) d.length c) d) (m:d.length<c) (s:t+1<=1000000) :
 ZX ZV 70 #[Z7 (Z2 ⟨ar,0,Z3⟩),Z4 x,Z6 (Z2 ⟨b,off,Z3⟩) d.length c] w (eI w ar v p ps D L G A F (DM D t xs A x d)):=by
 cases hx:bB x with
 | false=>exact (Bm h x _ hx).mono λe w' a=>pM h (by decide) a (.inl ⟨rfl,rfl,rfl,hx⟩)
 | true=>
  by_cases k:1500<d.length
  . exact (Bn h x _ _ _ hx k).mono λe w' a=>pM h (by decide) a (.inr (.inl ⟨rfl,rfl,rfl,hx,k⟩))
  . have f:d.length<=1500:=(by omega);by_cases g:x∈xs.names
    . exact (uL h x _ _ _ hx f g).mono λe w' a=>pM h (by decide) a (.inr (.inr (.inl ⟨rfl,rfl,rfl,hx,f,g⟩)))
    . by_cases C:(ai xs.os).length+iM D d.length+2*pL D (aC xs.os).length d.length+2<=A.nb
      . refine (OB h x b off c d y m hx f g C s).mono ?_;rintro e w' ⟨rfl,j,i,l,B,o,ho,q,z,r,u⟩;exact ⟨_,_,j,i,l,_,B,rfl,.inl rfl,q,z,r,u,.inr (.inr (.inr (.inr ⟨rfl,rfl,hx,f,g,o,ho,rfl⟩)))⟩
      . exact (Bo h x _ _ _ hx f g (by omega)).mono λe w' a=>pM h (by decide) a (.inr (.inr (.inr (.inl ⟨rfl,rfl,rfl,hx,f,g,by omega⟩))))
theorem OC (h:bf w ar v p ps D L G t pg ob P xs A F) (x:ByteArray) (j:t+1<=1000000) :
 ZX ZV 54 #[Z7 (Z2 ⟨ar,0,Z3⟩),Z4 x] w (eI w ar v p ps D L G A F (DN t xs x)):=by
 cases hx:bB x with
 | false=>exact (Mk h x hx).mono λe w' b=>pM h (by decide) b (.inl ⟨rfl,rfl,rfl,hx⟩)
 | true=>
  by_cases a:x∈xs.names
  . refine (PT h x hx a j).mono ?_;rintro e w' ⟨rfl,d,c,f,B,g,l,i,k⟩;exact ⟨_,_,d,c,f,_,B,rfl,.inl rfl,g,l,i,k,.inr (.inr ⟨rfl,rfl,hx,a,rfl⟩)⟩
  . exact (DL h x hx a).mono λe w' b=>pM h (by decide) b (.inr (.inl ⟨rfl,rfl,rfl,hx,a⟩))
end
theorem eI.later {w0:Z0} {Q:ZZ->Nat->bg->aB->Z0->Prop} {e:Ending} {w':Z0} (h:eI w ar v p ps D L G A F Q e w') (n:ZY w0.heap.size w0 w):eI w0 ar v p ps D L G A F Q e w':=by
 obtain ⟨x,o,b,a,d,c,B,f,g,i,j,k,l,m⟩:=h;exact ⟨x,o,b,a,d,c,B,f,g,i,j,k,(aa.of_all n _).trans l,m⟩
theorem QL (h:bf w ar v p ps D L G t pg ob P xs A F) (x:ByteArray) (b off c:Nat) (d:List Nat) (E:∀ w',aa (F.has p A.n) w w'->Bs w' (Z6 (Z2 ⟨b,off,Z3⟩) d.length c) d) (K:d.length<c) (N:t+1<=1000000) :
 ZX ZV 45 #[Z7 (Z2 ⟨ar,0,Z3⟩),Z4 x,Z6 (Z2 ⟨b,off,Z3⟩) d.length c] w (eI w ar v p ps D L G A F (DM D t xs A x d)):=by
 have S:∀ (z:Fn) (first cap:Array ZZ) (w:Z0),(Instr.makeFunc z first cap).run ZV w=.ok (.func z first cap) w:=λ_ _ _ _=>rfl;have M:∀ (args:Array ZZ) (w:Z0),(callFunc 69 args).run ZV w=.ok (.enter 69 args) w:=enters_of Tryz.func69 (by kernel_rfl) rfl;obtain ⟨n,u⟩:=nM (d.length);obtain ⟨g,j⟩:=nM (((w.alloc (Z5 #[Z7 (Z2 ⟨ar,0,Z3⟩)] 90)).alloc (Z5 #[Z4 x] 9)).alloc (Z5 #[Z6 (Z2 ⟨b,off,Z3⟩) n c] 34));have i:ZW g w.heap.size 90 (Z7 (Z2 ⟨ar,0,Z3⟩)):=by rw [<- j];exact ((Boxed.new w _ _).alloc _).alloc _
 have k:ZW g (w.heap.size+1) 9 (Z4 x):=by
  have:=(Boxed.new (w.alloc (Z5 #[Z7 (Z2 ⟨ar,0,Z3⟩)] 90)) 9 (Z4 x)).alloc (Z5 #[Z6 (Z2 ⟨b,off,Z3⟩) n c] 34);rw [World.size_alloc] at this;rw [<- j];exact this
 have l:ZW g (w.heap.size+2) 34 (Z6 (Z2 ⟨b,off,Z3⟩) n c):=by
  have:=Boxed.new ((w.alloc (Z5 #[Z7 (Z2 ⟨ar,0,Z3⟩)] 90)).alloc (Z5 #[Z4 x] 9)) 34 (Z6 (Z2 ⟨b,off,Z3⟩) n c);simp only [World.size_alloc] at this;rw [<- j];exact this
 have f:ZY w.heap.size w g:=by rw [<- j];exact ((bA w _).alloc (by simp) _).alloc (by simp;omega) _
 have B:∀ w1,ZY g.heap.size g w1->ZX ZV 69 #[Z7 (Z2 ⟨w.heap.size,0,Z3⟩),Z7 (Z2 ⟨w.heap.size+1,0,Z3⟩),Z7 (Z2 ⟨w.heap.size+2,0,Z3⟩)] w1 (eI w1 ar v p ps D L G A F (DM D t xs A x d)):=λw1 a=>by
  have O:=(show ZW w1 w.heap.size 90 _ from (a.block _ i.lt).trans i).cell;have Q:=(show ZW w1 (w.heap.size+1) 9 _ from (a.block _ k.lt).trans k).cell;have R:=(show ZW w1 (w.heap.size+2) 34 _ from (a.block _ l.lt).trans l).cell;have m:ZY w.heap.size w w1:=f.trans (a.mono f.size);have y:=Ml (h.below m) x b off c d (λw' J=>E w' ((aa.of_all m _).trans J)) K N;rw [u] at y;clear i k l a m j f;go_enter Tryz.func69,Tryz.ntmps69;go_wp2_with fail;refine y.mono ?_;rintro e w2 o;obtain ⟨r,_,_,_,_,_,_,rfl,_⟩:=id o;have H:=hide o;clear o y;go_wp2;go_ret;exact H.out
 have C:=M1 (h.below f) 69 #[] #[Z7 (Z2 ⟨w.heap.size,0,Z3⟩),Z7 (Z2 ⟨w.heap.size+1,0,Z3⟩),Z7 (Z2 ⟨w.heap.size+2,0,Z3⟩)] M (DM D t xs A x d) (λ_ _ _ _ _ _ _ q=>q) (λw1 a _=>B w1 a);have c1:=i.cell;rw [u];have H:=hide2 C f;clear C f B i k l h E u;go_enter Tryz.func45,Tryz.ntmps45;go_wp2_with fail;refine H.out.1.mono ?_;rintro e T s;obtain ⟨r,_,_,_,_,_,_,rfl,_⟩:=id s;have I:=hide (eI.later s H.out.2);clear s;go_wp2;go_ret;exact I.out
theorem Mm (h:bf w ar v p ps D L G t pg ob P xs A F) (x:ByteArray) (y:t+1<=1000000) :
 ZX ZV 37 #[Z7 (Z2 ⟨ar,0,Z3⟩),Z4 x] w (eI w ar v p ps D L G A F (DN t xs x)):=by
 have C:∀ (k:Fn) (first cap:Array ZZ) (w:Z0),(Instr.makeFunc k first cap).run ZV w=.ok (.func k first cap) w:=λ_ _ _ _=>rfl;have u:∀ (args:Array ZZ) (w:Z0),(callFunc 53 args).run ZV w=.ok (.enter 53 args) w:=enters_of Tryz.func53 (by kernel_rfl) rfl;obtain ⟨d,g⟩:=nM ((w.alloc (Z5 #[Z7 (Z2 ⟨ar,0,Z3⟩)] 90)).alloc (Z5 #[Z4 x] 9));have c:ZW d w.heap.size 90 (Z7 (Z2 ⟨ar,0,Z3⟩)):=by rw [<- g];exact (Boxed.new w _ _).alloc _
 have f:ZW d (w.heap.size+1) 9 (Z4 x):=by
  have:=Boxed.new (w.alloc (Z5 #[Z7 (Z2 ⟨ar,0,Z3⟩)] 90)) 9 (Z4 x);rw [World.size_alloc] at this;rw [<- g];exact this
 have b:ZY w.heap.size w d:=by rw [<- g];exact (bA w _).alloc (by simp) _
 have m:∀ w1,ZY d.heap.size d w1->ZX ZV 53 #[Z7 (Z2 ⟨w.heap.size,0,Z3⟩),Z7 (Z2 ⟨w.heap.size+1,0,Z3⟩)] w1 (eI w1 ar v p ps D L G A F (DN t xs x)):=λw1 a=>by
  have z:=(show ZW w1 w.heap.size 90 _ from (a.block _ c.lt).trans c).cell;have B:=(show ZW w1 (w.heap.size+1) 9 _ from (a.block _ f.lt).trans f).cell;have l:ZY w.heap.size w w1:=b.trans (a.mono b.size);have o:=OC (h.below l) x y;clear c f a l g b;go_enter Tryz.func53,Tryz.ntmps53;go_wp2_with fail;refine o.mono ?_;rintro e w2 i;obtain ⟨r,_,_,_,_,_,_,rfl,_⟩:=id i;have H:=hide i;clear i o;go_wp2;go_ret;exact H.out
 have n:=M1 (h.below b) 53 #[] #[Z7 (Z2 ⟨w.heap.size,0,Z3⟩),Z7 (Z2 ⟨w.heap.size+1,0,Z3⟩)] u (DN t xs x) (λ_ _ _ _ _ _ _ q=>q) (λw1 a _=>m w1 a);have c1:=c.cell;have H:=hide2 n b;clear n b m c f h;go_enter Tryz.func37,Tryz.ntmps37;go_wp2_with fail;refine H.out.1.mono ?_;rintro e E j;obtain ⟨r,_,_,_,_,_,_,rfl,_⟩:=id j;have s:=hide (eI.later j H.out.2);clear j;go_wp2;go_ret;exact s.out
theorem QM (i:ZW w sa 92 (Z7 (Z2 ⟨ar,0,Z3⟩))) (h:bf w ar v p ps D L G t pg ob P xs A F) (x:ByteArray) (b off c:Nat) (d:List Nat) (g:∀ w',aa (F.has p A.n) w w'->Bs w' (Z6 (Z2 ⟨b,off,Z3⟩) d.length c) d) (k:d.length<c) (l:t+1<=1000000) :
 ZX ZV 32 #[Z7 (Z2 ⟨sa,0,Z3⟩),Z4 x,Z6 (Z2 ⟨b,off,Z3⟩) d.length c] w (eI w ar v p ps D L G A F (DM D t xs A x d)):=by
 have cs:=i.cell;have f:=QL h x b off c d g k l;clear i h g;go_enter Tryz.func32,Tryz.ntmps32;go_wp2_with fail;refine f.mono ?_;rintro e m a;obtain ⟨r,_,_,_,_,_,_,rfl,_⟩:=id a;have j:=hide a;clear a f;go_wp2;go_ret;exact j.out
theorem Mn (c:ZW w sa 92 (Z7 (Z2 ⟨ar,0,Z3⟩))) (h:bf w ar v p ps D L G t pg ob P xs A F) (x:ByteArray) (f:t+1<=1000000) :
 ZX ZV 21 #[Z7 (Z2 ⟨sa,0,Z3⟩),Z4 x] w (eI w ar v p ps D L G A F (DN t xs x)):=by
 have cs:=c.cell;have b:=Mm h x f;clear c h;go_enter Tryz.func21,Tryz.ntmps21;go_wp2_with fail;refine b.mono ?_;rintro e g a;obtain ⟨r,_,_,_,_,_,_,rfl,_⟩:=id a;have d:=hide a;clear a b;go_wp2;go_ret;exact d.out
end
def KZ (w:Z0) (D L G nb c0:Nat) (e:Ending) (w':Z0):Prop:=
 ∃ wb p r sa ar v sb cache F pg A,e=.returned (.tuple #[Z7 (Z2 ⟨wb,0,Z3⟩),.bool Z1])/\nB w' wb D L G (Z7 (Z2 ⟨p,0,Z3⟩)) (Z7 (Z2 ⟨sa,0,Z3⟩)) (Z7 (Z2 ⟨r,0,Z3⟩)) nb (Z6 Z3 0 0) (Z6 Z3 0 0) cache /\
  oN w' r (r+1) (Z6 Z3 0 0) []/\ZW w' sa 92 (Z7 (Z2 ⟨ar,0,Z3⟩))/\bf w' ar v p (tC sb (c0:Int) 0) D L G 1 pg (Z6 Z3 0 0) [2] [] A F/\A.nb=nb/\w.heap.size<=p/\(∀ k,F.has p A.n k->w.heap.size<=k)/\w.heap.size<=r/\w.heap.size<=wb/\wb<ar/\wb<v/\¬ F.has p A.n wb/\¬ F.has p A.n r/\r<ar/\r<v/\wb≠r/\0<=cache/\cache<=64/\wb<sa/\r<sa/\ZY w.heap.size w w'/\cache=(c0:Int)/\(∀ i,A.lost i=false)/\w.heap.size<=sb
theorem Ha {nb:Nat} (f:yT D L G) (kk:8<=nb) (kf:nb<=1000) (c:Int) (hv:bj w) (ht:aJ w) (hK:3<=w.heap.size) :
 ZX ZV 7 #[.agg #[Z8 Z9 (D:Nat),Z8 Z9 (L:Nat),Z8 Z9 (G:Nat)],Z8 Z9 (nb:Nat),Z8 Z9 c] w λe w'=>∃ c0:Nat,c0<65/\(∀ n:Nat,n<65->c=(n:Int)->c0=n)/\KZ w D L G nb c0 e w':=by
 obtain ⟨m,q0,K⟩:=oM c 65 (by decide) (by decide);have hb:wrap64 ((IntKind.u64.wrap c).tmod 65)=(m:Int):=by simpa using K
 clear K;have hz:∀ n:Nat,n<65->c=(n:Int)->m=n:=λn hn e=>by
  subst e;have:wrap64 ((IntKind.u64.wrap (n:Int)).tmod 65)=(n:Int):=by
   have e1:IntKind.u64.wrap (n:Int)=(n:Int):=(by rw [IntKind.wrap_u64];omega);rw [e1,show (n:Int).tmod 65=(n:Int) from Int.tmod_eq_of_lt (by omega) (by omega)];exact fH (by omega)
  omega
 have ky:=hide hz;clear hz;obtain ⟨w1,kh⟩:=nM (w.alloc (Z5 #[Z8 Z9 (D:Nat),Z8 Z9 (L:Nat),Z8 Z9 (G:Nat)] 25));have Q:aw w1 w.heap.size 25 [Z8 Z9 (D:Nat),Z8 Z9 (L:Nat),Z8 Z9 (G:Nat)]:=by rw [<- kh];exact heap_alloc_last w _
 have x0:=Q.cell (j:=0) (u:=Z8 Z9 (D:Nat)) rfl;have x1:=Q.cell (j:=1) (u:=Z8 Z9 (L:Nat)) rfl;have x2:=Q.cell (j:=2) (u:=Z8 Z9 (G:Nat)) rfl;have kj:ZY w.heap.size w w1:=by rw [<- kh];exact bA w _
 have kp:=wJ (D:Int) (L:Int) (G:Int) w1 ⟨by omega,by have:=f.d;omega⟩ ⟨by omega,by have:=f.l4;omega⟩ ⟨by omega,by have:=f.g;omega⟩;have J:=hide2 Q kj;clear Q kj;go_enter Tryz.func7,Tryz.ntmps7;go_wp2_with fail;refine kp.mono ?_;rintro e w2 ⟨rfl,ks⟩;have W:ZY w1.heap.size w1 w2:=by rw [ks];exact bA w1 _
 clear ks kh x0 x1 x2 kp;have ke:=yY (D+L+G) nb w2 (by have:=f.s;omega) (by omega);rw [show ((D+L+G:Nat):Int)=(D:Int)+(L:Int)+(G:Int) by omega] at ke;go_wp2_with fail;refine ke.mono ?_;rintro e a ⟨rfl,E,hF⟩;obtain ⟨F,y,h⟩:∃ F:bx,aq a w2.heap.size (lP (D+L+G) nb) F/\∀ k,F.has w2.heap.size (D+L+G) k->w2.heap.size<=k:=by
  rcases hF with ⟨h0,_⟩|⟨_,F,z,h2⟩
  . have:=f.d1;omega
  . exact ⟨F,z,h2⟩
 have l:ZY w.heap.size w w2:=J.out.2.trans (W.mono J.out.2.size);have o:ZY w.heap.size w a:=l.trans (E.mono l.size);have T:aw a w.heap.size 25 _:=J.out.1.keep ((E.block _ (Nat.lt_of_lt_of_le J.out.1.lt W.size)).trans (W.block _ J.out.1.lt));have y0:=T.cell (j:=0) (u:=Z8 Z9 (D:Nat)) rfl;have y1:=T.cell (j:=1) (u:=Z8 Z9 (L:Nat)) rfl;have y2:=T.cell (j:=2) (u:=Z8 Z9 (G:Nat)) rfl;obtain ⟨p,I⟩:=nM (w2.heap.size);rw [I] at y h ⊢;have H3:=hide6 y h o E I l;clear y h o E I l T hF ke W;dsimp only;go_wp2_with fail;obtain ⟨b,H⟩:=nM ((a.alloc (Z5 #[Z6 Z3 0 0] 53)).alloc (Z5 #[Z8 Z9 (D:Nat),Z8 Z9 (L:Nat),Z8 Z9 (G:Nat),Z7 (Z2 ⟨p,0,Z3⟩),.pointer Z3,Z7 (Z2 ⟨a.heap.size,0,Z3⟩),Z8 Z9 (nb:Nat),Z6 Z3 0 0,Z6 Z3 0 0,Z8 Z9 (m:Nat)] 36));have X:b.heap[a.heap.size]?=Z2 (Z5 #[Z6 Z3 0 0] 53 (0,0)):=by rw [<- H];exact (blk_alloc_lt _ _ _ (by simp)).trans (heap_alloc_last a _)
 have U:nB b (a.heap.size+1) D L G (Z7 (Z2 ⟨p,0,Z3⟩)) (.pointer Z3) (Z7 (Z2 ⟨a.heap.size,0,Z3⟩)) nb (Z6 Z3 0 0) (Z6 Z3 0 0) (m:Int):=by
  rw [<- H];have:=heap_alloc_last (a.alloc (Z5 #[Z6 Z3 0 0] 53)) (Z5 #[Z8 Z9 (D:Nat),Z8 Z9 (L:Nat),Z8 Z9 (G:Nat),Z7 (Z2 ⟨p,0,Z3⟩),.pointer Z3,Z7 (Z2 ⟨a.heap.size,0,Z3⟩),Z8 Z9 (nb:Nat),Z6 Z3 0 0,Z6 Z3 0 0,Z8 Z9 (m:Nat)] 36);rw [World.size_alloc] at this;exact this
 have he:ZY a.heap.size a b:=by rw [<- H];exact (bA a _).alloc (by simp) _
 have ki:b.heap.size=a.heap.size+2:=by rw [<- H];simp
 obtain ⟨y,h,o,E,I,l⟩:=H3.out;have x:ZY w.heap.size w b:=o.trans (he.mono o.size);have hf:ZY b.heap.size b b.drew:=(Below.refl _ b).drew;have M:aq b.drew p (lP (D+L+G) nb) F:=(y.below he lR).below hf lR;have k1:2<3:=by decide
 have k2:1<3:=by decide
 have k5:=l.size;have C:∀ k,F.has p (D+L+G) k->k<a.heap.size:=λk S=>y.has_lt S;have O:¬ F.has p (D+L+G) 2:=λe=>by have:=h _ e;omega
 have P:¬ F.has p (D+L+G) 1:=λe=>by have:=h _ e;omega
 have R:ZY w.heap.size w b.drew:=x.trans (hf.mono x.size);have kr:=GD (cache:=(m:Int)) (A:=lP (D+L+G) nb) M (nA (by have:=f.s;omega) (by omega)) rfl f.r f.d1 f.d f.l1 f.l4 f.g f.div f.s (by omega) (by omega) kk (by show (-1:Int)<0;omega) (λ_=>rfl) (λ_=>rfl) (λ_ _=>rfl) (hv.below R hv.lt) (ht.keep (R.block _ ht.lt)) (Nat.le_trans hK R.size) O P;have km:=GG U ⟨_,rfl⟩ (λsa w2=>∃ ar v ps u,b.heap.size<=sa/\ZW w2 sa 92 (Z7 (Z2 ⟨ar,0,Z3⟩))/\yV b.drew w2 p D L G ar v ps u (lP (D+L+G) nb) F m)
  (λsa w2 hR=>by
   obtain ⟨ar,v,ps,u,_,_,i⟩:=hR;exact i.out.block _ (by show a.heap.size+1<b.heap.size;omega) (λe=>by have:=C _ e;omega))
  (kr.mono (by
   rintro e w2 ⟨sa,ar,v,ps,u,rfl,z,h2,h3⟩;exact ⟨sa,rfl,ar,v,ps,u,z,h2,h3⟩))
 have H5:=hide8 X U x ki M C O P;clear X U he ki y h o E I l x hf M k1 k2 k5 C O P R kr;rw [H];refine km.mono ?_;rintro e w6 ⟨rfl,sa,w7,Z,⟨ar,v,ps,u,kg,N,i⟩,t,V,kv⟩;have H6:=hide6 kg N i t V kv;clear kg N i t V kv km H;dsimp only;go_wp2;go_ret2;obtain ⟨X,U,x,ki,M,C,O,P⟩:=H5.out;obtain ⟨kg,N,i,t,V,rfl⟩:=H6.out;obtain ⟨_,h,o,_,I,l⟩:=H3.out;have q4:=o.size;have k5:=l.size;have kz:b.heap.size<=ar:=i.arGe;have q5:b.heap.size<=v:=i.vGe;have hg:∀ j,j≠a.heap.size+1->(Z.setCell ⟨a.heap.size+1,4,Z3⟩ (Z7 (Z2 ⟨sa,0,Z3⟩))).heap[j]?=Z.heap[j]?:=λj hj=>blk_setCell_other _ _ _ _ hj;have q6:b.heap.size<=w7.heap.size:=i.out.size;have q7:=t.size;have ko:¬ F.has p (D+L+G) a.heap.size:=λe=>by have:=C _ e;omega
 have kx:¬ F.has p (D+L+G) (a.heap.size+1):=λe=>by have:=C _ e;omega
 obtain ⟨Y,q1,k0⟩:=Kt i M rfl f kk kf (by show (-1:Int)<0;omega) (λ_=>rfl) (λ_ _=>rfl) (Nat.le_trans hK x.size) O P (DH ((nA (by have:=f.s;omega) (by omega)).readTo _) f.d f.l4 f.g rfl);have q2:=q1.below t;have q3:=q2.other (w':=Z.setCell ⟨a.heap.size+1,4,Z3⟩ (Z7 (Z2 ⟨sa,0,Z3⟩))) (by simp [World.setCell]) (λj hj _=>hg j hj) (by omega) (by omega) kx (by omega) (λq=>by have q':Y<=a.heap.size+1/\_:=q;have:b.heap.size<=Y:=k0;omega);have hO:aa (F.has p (D+L+G)) b w7:=(aa.drew b).trans i.out;have kb:ZY w.heap.size w (Z.setCell ⟨a.heap.size+1,4,Z3⟩ (Z7 (Z2 ⟨sa,0,Z3⟩))):=by
  have z:ZY w.heap.size w w7:=x.trans (hO.below (B:=w.heap.size) λk S=>⟨by omega,λe=>by have:=h _ e;omega⟩);exact Below.setCell (p:=⟨a.heap.size+1,4,Z3⟩) (z.trans (t.mono z.size)) (by show w.heap.size<=a.heap.size+1;omega) _
 refine ⟨m,q0,ky.out,a.heap.size+1,p,a.heap.size,sa,ar,v,Y,m,F,u,_,rfl,V,⟨?_,World.ownsRow_nil _ _ _ _⟩,?_,q3,rfl,by omega,λk S=>by have:=h k S;omega,by omega,by omega,by omega,by omega,kx,ko,by omega,by omega,by omega,by omega,by omega,by omega,by omega,kb,rfl,λ_=>rfl,by have:b.heap.size<=Y:=k0;omega⟩
 . exact (hg _ (by omega)).trans ((t.block _ (by omega)).trans ((hO.block _ (by omega) ko).trans X))
 . exact (hg _ (by omega)).trans ((t.block _ N.lt).trans N)
section
open Go.ChangeShapes Go.WideShapes Go.Joins
theorem Tryz.laidOutM:laidOutB ZV=Z1:=by kernel_rfl
theorem Tryz.cellsOp:ZV.cellsOf 40=4:=by kernel_rfl
theorem Tryz.cellsIntM:ZV.cellsOf 3=1:=by kernel_rfl
theorem Tryz.cellsStrM:ZV.cellsOf 9=1:=by kernel_rfl
theorem Tryz.cellsBytesM:ZV.cellsOf 34=1:=by kernel_rfl
theorem Tryz.cellsByteM:ZV.cellsOf 5=1:=by kernel_rfl
theorem Tryz.bytesByteM:ZV.bytesOf 5=1:=by kernel_rfl
instance:Inhabited oS:=⟨⟨0,0,ByteArray.empty,[]⟩⟩
theorem wK:reachBytes=140737488351232:=rfl
theorem OU {l:List ZZ} (h:l.length=4):∃ a b c d,l=[a,b,c,d]:=by
 match l,h with
 | [a,b,c,d],_=>exact ⟨a,b,c,d,rfl⟩
theorem kY {P:Program} {e:TypeId}:∀ {ds:List (DataW H)} {d:DataW H},d∈ds->∀ n∈d.weights P e,n∈DataW.weightsAll P e ds
 | c::ds,d,a,n,b=>by
  simp only [DataW.weightsAll,Tm];rcases Tn.1 a with rfl|a
  . exact .inl b
  . exact .inr (kY a n b)
theorem DZ {enc:TypeId×ZZ->H} {v:ZZ} {x:DataW H×List MemPlace} (h:DataW.trod enc ZV W 0 (λ_=>Z1) Z1 n 34 [v]=Z2 x) (u:∀ k∈x.1.weights ZV 34,k<=reachBytes):∃ l:List Nat,Bs W v l:=by
 rcases open_ints Tryz.underlying34 Tryz.underlying5 Tryz.cellsByteM h with ⟨c,_⟩|⟨a,len,cap,f,c,_,B,J,E,C,i,p⟩
 . simp at c;exact ⟨[],Z3,0,c,by simp,by simp,by simp,λh=>absurd rfl h⟩
 . simp at c;simp only [if_true] at E;subst C;have w:=u (f.length*1) (by
    simp only [DataW.weights,Tryz.underlying34,lits,Tryz.bytesByteM];refine Tn.2 (.inl ?_);simp only [List.length_map,List.length_take,List.length_drop];omega)
   rw [wK] at w;have d:((f.take len).map Int.toNat).length=len:=(by simp;omega);refine ⟨(f.take len).map Int.toNat,Z2 a,cap,by rw [d];exact c,by rw [d];exact B,by rw [d];omega,λy D=>?_,λs=>?_⟩
   . obtain ⟨z,A,rfl⟩:=To.1 D;have:=bounds_u8 (p z (List.mem_of_mem_take A));omega
   . have G:0<len:=by
      rcases Tp len with e|e
      . subst e;exact absurd rfl s
      . exact e
     obtain ⟨b,o,F⟩:=a;have q:=i 0 (by omega);have t:F=Z3:=(by simpa [Addr.add] using World.cell?_spot q);subst t;refine ⟨b,o,rfl,λk m=>?_⟩;have r:k<len:=(by rw [d] at m;exact m);have g:k<f.length:=(by omega);have j:=i k g;rw [add_plain] at j;rw [j];have I:=bounds_u8 (p _ (List.getElem_mem g));simp [g,r];omega
theorem D0 {enc:TypeId×ZZ->H} {cs:List ZZ} {x:DataW H×List MemPlace} (h:DataW.trod enc ZV W 0 (λ_=>Z1) Z1 n 40 cs=Z2 x) (i:∀ k∈x.1.weights ZV 40,k<=reachBytes) :
 ∃ o:oS×ZZ,cs=[Z8 Z9 o.1.kind,Z8 Z9 o.1.a,Z4 o.1.s,o.2]/\Bs W o.2 o.1.d/\o.1.s.size<=140737488355328:=by
 obtain ⟨p,q,r,t,m,rfl,l,u,w,y,j⟩:=trod_struct4 Tryz.underlying40 h;rw [Tryz.cellsOp] at l;obtain ⟨a,b,c,d,rfl⟩:=OU l;obtain ⟨C,e,_,E⟩:=DataW.trod_int Tryz.underlying3 u;obtain ⟨D,f,_,w1⟩:=DataW.trod_int Tryz.underlying3 w;obtain ⟨s,g,z,_⟩:=DataW.trod_string Tryz.underlying9 y;rw [show ZV.cellsOf 3=1 from Tryz.cellsIntM] at e f;rw [show ZV.cellsOf 9=1 from Tryz.cellsStrM] at g;rw [show ZV.cellsOf 34=1 from Tryz.cellsBytesM] at j;simp at e f g;subst e f g;simp only [DataW.weights,Tryz.underlying40] at i;obtain ⟨dl,A⟩:=DZ (v:=d) (by simpa using j) (λk B=>i k (by
  show k∈p.1.weights ZV _++(q.1.weights ZV _++(r.1.weights ZV _++(t.1.weights ZV 34++[])));simp only [Tm];exact .inr (.inr (.inr (.inl B)))))
 refine ⟨(⟨C,D,s,dl⟩,d),rfl,A,?_⟩;have:=i s.size (by
  show s.size∈p.1.weights ZV _++(q.1.weights ZV _++(r.1.weights ZV 9++(t.1.weights ZV _++[])));simp only [Tm];refine .inr (.inr (.inl ?_));rw [z];simp only [DataW.weights,Tn];exact .inl (show s.data.size=s.data.toList.length from Array.length_toList.symm))
 rw [wK] at this;show s.size<=_;omega
theorem ud {enc:TypeId×ZZ->H} {ao:Option Addr} {len0 cap0:Nat} {d:DataW H} {ps:List MemPlace} (h:DataW.Trod enc ZV W 0 (λ_=>Z1) Z1 22 (.slice ao len0 cap0) d ps) (C:∀ n∈d.weights ZV 22,n<=reachBytes) :
 ∃ l:List oS,QI W (.slice ao len0 cap0) l/\∀ x∈l,x.s.size<=140737488355328/\x.d.length<=140737488355328:=by
 obtain ⟨fuel,g⟩:=h;rcases open_slice Tryz.underlying22 g with ⟨r,_⟩|⟨a,len,cap,m,X,D,T,r,_,U,V,B,q,A⟩
 . simp [Value.cells] at r;obtain ⟨rfl,rfl,rfl⟩:=r;exact ⟨[],⟨Z3,0,rfl,λh=>absurd rfl h⟩,λx q=>(by cases q)⟩
 . simp [Value.cells] at r;obtain ⟨rfl,rfl,rfl⟩:=r;simp only [Prod.mk.injEq] at q;obtain ⟨rfl,_⟩:=q;simp only [DataW.weights,Tryz.underlying22] at C;simp only [if_true] at B;have M:=B.symm;subst M;rw [Tryz.cellsOp] at A;obtain ⟨f,g⟩:=choose_lt (α:=oS×ZZ) (n:=len0) (p:=λi s=>(∀ j,j<4->W.cell? ((a.add (i*4)).add j)=([Z8 Z9 s.1.kind,Z8 Z9 s.1.a,Z4 s.1.s,s.2]:List ZZ)[j]?)/\Bs W s.2 s.1.d/\s.1.s.size<=140737488355328) (λi t=>by
    obtain ⟨J,K,L⟩:=A i (by omega);obtain ⟨s,rfl,v⟩:=D0 L (λk S=>C k (List.mem_cons_of_mem _ (List.mem_append_left _ (kY (d:=D i) (To.2 ⟨i,List.mem_range.2 t,rfl⟩) k S))));obtain ⟨_,_,c⟩:=World.cells?_some K;exact ⟨s,c,v⟩)
   obtain ⟨b,o,w⟩:=a;refine ⟨(List.range len0).map λi=>(f i).1,⟨Z2 ⟨b,o,w⟩,cap0,by simp,λQ=>?_⟩,λx q=>?_⟩
   . have y:0<len0:=by
      rcases Tp len0 with e|e
      . subst e;exact absurd rfl Q
      . exact e
     have N:=(g 0 y).1 0 (by decide);have R:w=Z3:=by
      have:W.cell? (((⟨b,o,w⟩:Addr).add (0*4)).add 0)=Z2 (Z8 Z9 (f 0).1.kind):=N;simpa [Addr.add] using World.cell?_spot this
     subst R;have z:=(g 0 y).1 0 (by decide);rw [add_plain,add_plain] at z;refine ⟨b,o,rfl,block_lt_of_cell (show W.cell? _=Z2 _ from z),λi t=>?_⟩;have O:i<len0:=(by simpa using t);obtain ⟨c,u,_⟩:=g i O;have E:=c 0 (by decide);have F:=c 1 (by decide);have G:=c 2 (by decide);have I:=c 3 (by decide);rw [add_plain,add_plain] at E F G I;simp only [List.getElem_map,List.getElem_range];exact ⟨(f i).2,E,F,G,I,u⟩
   . obtain ⟨i,t,rfl⟩:=To.1 q;obtain ⟨_,u,v⟩:=g i (by simpa using t);obtain ⟨_,_,_,_,P,_⟩:=u;exact ⟨v,P⟩
end
end Go.Proofs.YtfbmmcnpjhmjaaaGreatDoor
