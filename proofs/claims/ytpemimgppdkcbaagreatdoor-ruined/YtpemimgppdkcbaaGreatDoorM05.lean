import Derived.Test.YtpemimgppdkcbaaGreatDoorM04
import Derived.Sort.QuietIn
import Derived.Sort.QuietTacIn
import Derived.Laws.EntriesVeiled
set_option maxRecDepth 100000
set_option linter.all false
set_option maxHeartbeats 8000000
open Go.IntKind renaming i64 -> Z9, u64 -> Z8
open Go.Value renaming int -> Z7, pointer -> Z6, slice -> Z5, bool -> Z2, tuple -> Z0
open Go.Obj renaming cells -> Z4
open Go.Ending renaming returned -> Z3
open Go.Operand renaming tmp -> Z1
open Go renaming undef -> ZZ, World -> ZU, Value -> ZT, Calls -> ZR, Ending -> ZQ, Boxed -> ZP
open Option renaming none -> ZY, some -> ZX
open Bool renaming true -> ZW, false -> ZV
open Go.RowKit renaming Below -> ZS
open List renaming range -> YD, map_congr_left -> YE, length -> YH, map_singleton -> YK, nodup_range -> YL
open Nat renaming reduceAdd -> YF, reduceSub -> YG, pos_of_ne_zero -> YN
open Bool renaming eq_false_iff -> YI, and_eq_true -> YM
open Array renaming getElem_modify_self -> YJ
open Go.Proofs.Tryz renaming prog -> ZO
open Go.Proofs.Tryz
namespace Go.Proofs.YtpemimgppdkcbaaGreatDoor
def XX:=@Go.Proofs.Tryz.underlying111
def abc:=@Nat.not_lt_zero
def Ve:=@List.getElem_map
def Yx:=@List.take_take
def UM:=@List.nodup_cons
def Vm:=@Go.Obj.cells.injEq
def WH:=@Nat.succ_mul
def Yy:=@List.mem_flatten
def Xo:=@Nat.mul_le_mul
def abd:=@Go.World.grownBy_alloc
end Go.Proofs.YtpemimgppdkcbaaGreatDoor
namespace Go.Proofs.YtpemimgppdkcbaaGreatDoor
open Go.RowKit Go.Shelf Go.Deep Gf
variable {a:Act} {ad:Addr} {ops:Array Oper} {off:Bool} {C:Ck} {Q:Exit->Act->ZU->Prop} {F:aR} {z regs:Int} {M:List a8} {T:List (Nat×Nat×a8)} {dl l ds:a8} {rest:List Oper} {pre:List Sh} {P:List St} {b0 b c ar p D L G ps ho D' L' G' t f nn q count B k r n i m lost base size S x nb kept s n0 Bg g' cap' gone R g d N sp B0:Nat} {Dn:Nat->Bool} {f0:Nat->ZT} {o:Oper} {e:TypeId} {v pg ob u y:ZT} {W W' w w' w'' X w2 Y Z:ZU}
section
attribute [local go_sem] Oper.semAt_some
def aX (T:Nat->Bool) (k:Nat):a8:=(YD k).filter (λj=>decide (2<=j) && !T j)
def pT (T:Nat->Bool):aX T 2=[]:=by simp [aX,Vs]
theorem ny (T:Nat->Bool) (k:Nat):aX T (k+1)=aX T k++(if 2<=k/\T k=ZV then [k] else []):=by
 unfold aX;rw [Vs,Wd];congr 1;by_cases h:2<=k/\T k=ZV
 . rw [if_pos h];simp [h.1,h.2]
 . rw [if_neg h];by_cases a:2<=k
   . have:T k=ZW:=by cases q:T k<;>simp_all
     simp [this]
   . simp [a]
def kH (T:Nat->Bool) {k m:Nat} (h:k<=m):aX T k<+:aX T m:=by
 induction m with
 | zero=>rw [show k=0 by omega];exact Yf _
 | succ m ih=>
  by_cases e:k=m+1
  . rw [e];exact Yf _
  . rw [ny];exact (ih (by omega)).trans (Xw _ _)
theorem BK (ar:Nat) (w:ZU) :
 ZR ZO 118 #[Z6 (ZX ⟨ar,0,ZY⟩)] w λe w'=>e=Z3 (.func (.func 150) #[] #[Z6 (ZX ⟨w.heap.size,0,ZY⟩)])/\w'=w.alloc (Z4 #[Z6 (ZX ⟨ar,0,ZY⟩)] 86):=by
 go_enter func118,ntmps118;go_wp2;go_ret;exact ⟨rfl,rfl⟩
def OP (b0:Nat) (W W':ZU):Prop:=W.heap.size<=W'.heap.size/\∀ k o,b0<=k->W.heap[k]?=ZX o->o.isCells=ZW->W'.heap[k]?=ZX o
def OP.trans {a b c:ZU} (h:OP b0 a b) (k:OP b0 b c):OP b0 a c:=⟨TW h.1 k.1,λi o d f e=>k.2 i o d (h.2 i o d f e) e⟩
def OP.row (h:OP b0 W W') {g n:Nat} {t:TypeId} {f:Nat->ZT} (b:b0<=g) (hr:W.rowIs g t n f):W'.rowIs g t n f:=by
 obtain ⟨c,a,_⟩:=id hr;exact hr.of_block ((h.2 g _ b a rfl).trans a.symm)
theorem KS {v:Nat} {A:aH} (N:bh W ar v D' L' G' t f nn pg ob off) (S:bk W v p D L G ps ho) (h:aB W p A F) (hn:0<A.n) (P:a8) (os:List Ob) (Q:br (λk=>k<W.heap.size) W pg P) (O:eY (λk=>k<W.heap.size) W ob os)
 (n l b1 b0:Nat) (hp:b0<=W.heap.size) (J y:a8->ZU->Prop) (Y:∀ pre A B,J pre A->bW A B->J pre B)
 (r:∀ pre x W,J pre W->pre.length<(aX (tk A.nb (P++ak os)).1 A.nb).length->YieldAt Fence.wide (n-1) ZO l (pB x) W λe W'=>(e=Z3 (Z2 ZW)/\J (pre++[x]) W'/\OP b0 W W')\/(e=Z3 (Z2 ZV)/\y (pre++[x]) W'))
 (X:W.cell? ⟨b1,0,ZY⟩=ZX (Z6 (ZX ⟨ar,0,ZY⟩))) (z:J [] W) :
 CallsIn Fence.wide n ZO 150 #[.func (.yield l) #[] #[],Z6 (ZX ⟨b1,0,ZY⟩)] W λe W'=>(∃ v,e=Z3 v) /\
  ((∃ V,V=aX (tk A.nb (P++ak os)).1 A.nb/\J V W')\/(∃ pre,pre<+:aX (tk A.nb (P++ak os)).1 A.nb/\y pre W')):=by
 have o:=wL N S h hn P os Q O;have hi:=h.SC.2;obtain ⟨nb,E⟩:=nM (A.nb);rw [E] at o hi r ⊢;obtain ⟨T,R⟩:=nM (tk nb (P++ak os));rw [R] at o r ⊢;obtain ⟨a,tr⟩:=T;simp only at o r ⊢;clear E R N S h hn Q O;refine WX func150 rfl trivial ?_ rfl;simp only [ntmps150,UF,Uv,UQ,YF,YG,Va,Vb,Vc,Vd,Uk,UL];gi_wp2;refine cV o ?_;rintro e w1 ⟨g,rfl,hg,b,M⟩;have H:=Y _ _ _ z M;have w:=au b H;clear b M H o z X;gi_wp2;gi_loopw [5] (λp wr=>∃ k:Nat,p=Z7 Z9 (k:Nat)/\2<=k/\(k<=nb\/k=2)/\J (aX a k) wr/\wr.rowIs g 4 nb (λj=>Z2 (a j)))
  (λp _=>nb-(intOf p).toNat)
 case atStart=>
  exact ⟨2,rfl,TV _,.inr rfl,by rw [pT];exact w.out.2,w.out.1⟩
 case round=>
  obtain ⟨k,rfl,Z,s,d,b⟩:=hrel;by_cases hh:k<nb
  . have c1:=b.cell (i:=k) hh;cases hm:a k with
    | true=>
     rw [hm] at c1;have c:aX a (k+1)=aX a k:=(by rw [ny,if_neg (by rw [hm];simp),Wg]);rw [<- c] at d;have m:=au d b;clear d b c hm;gi_wp2;refine ⟨λ_ h=>(by cases h),?_⟩;gi_wp2;go_roundw
     case rel=>exact ⟨k+1,by go_num,by omega,.inl (by omega),m.out.1,m.out.2⟩
     case measure=>simp only [intOf];omega
    | false=>
     rw [hm] at c1;have c:aX a k++[k]=aX a (k+1):=(by rw [ny,if_pos ⟨Z,hm⟩]);have U:(aX a k).length<(aX a nb).length:=by
      have:=(kH a (show k+1<=nb by omega)).length_le;rw [<- c,T8] at this;simp at this;omega
     obtain ⟨fn,tmps,assign,body,hj,u⟩:=r _ k _ d U;unfold pB at hj;rw [c] at u;have m:=au b u;clear d b u c hm U;gi_wp2;refine ⟨λh=>(by cases h),m.out.2.mono ?_⟩;rintro e W3 (⟨rfl,I,K⟩|⟨rfl,C⟩)
     . have q:=au I (K.row (by omega) m.out.1);clear I K;gi_wp2;go_roundw
       case rel=>exact ⟨k+1,by go_num,by omega,.inl (by omega),q.out.1,q.out.2⟩
       case measure=>simp only [intOf];omega
     . have q:=al C;clear C;gi_wp2;refine Um (Xj rfl _ _ _) rfl ?_;exact ⟨⟨_,rfl⟩,.inr ⟨_,kH a (show k+1<=nb by omega),q.out⟩⟩
  . have c:aX a k=aX a nb:=by
     rcases s with s|s
     . rw [show k=nb by omega]
     . subst s;rw [pT];exact (List.prefix_nil.1 (by have:=kH a (show nb<=2 by omega);rwa [pT] at this)).symm
    rw [c] at d;have m:=al d;clear d c b;gi_wp2;go_end0
    exact ⟨⟨_,rfl⟩,.inl ⟨_,rfl,m.out⟩⟩
def D7 {v:Nat} {A:aH} (x:bh w ar v D' L' G' t f nn pg ob off) (y:bk w v p D L G ps ho) (h:aB w p A F) (hn:0<A.n) (P:a8) (os:List Ob) (M:br (λk=>k<w.heap.size) w pg P) (I:eY (λk=>k<w.heap.size) w ob os)
 (n b1:Nat) (d:b1<w.heap.size) (E:w.cell? ⟨b1,0,ZY⟩=ZX (Z6 (ZX ⟨ar,0,ZY⟩))) :
 SeqStopsK Fence.wide n ZO 150 #[Z6 (ZX ⟨b1,0,ZY⟩)] pB (OP w.heap.size) (λY=>Y=aX (tk A.nb (P++ak os)).1 A.nb) (λpre=>pre<+:aX (tk A.nb (P++ak os)).1 A.nb) (aX (tk A.nb (P++ak os)).1 A.nb).length w:=λl J z W a K _ N C=>by
 have u:∀ {v:ZT} {l:a8},br (λk=>k<w.heap.size) W v l->br (λk=>k<W.heap.size) W v l:=λ⟨ao,c,g,j,m⟩=>⟨ao,c,g,j,λhl=>by obtain ⟨b,off,o,q,s⟩:=m hl;exact ⟨b,off,o,TZ q a.size,s⟩⟩;have H:eY (λk=>k<W.heap.size) W ob os:=by
  obtain ⟨ao,c,g,j,m⟩:=I.keep (eB.RT a);refine ⟨ao,c,g,j,λhl=>?_⟩;obtain ⟨b,off,o,q,s,R⟩:=m hl;refine ⟨b,off,o,TZ q a.size,s,λi O=>?_⟩;obtain ⟨X,S,T,U,V⟩:=R i O;exact ⟨X,S,T,U,u V⟩
 exact KS (x.keep (a.block _ x.lt)) (y.keep (a.block _ y.lt)) (h.below a lR) hn P os (u (M.keep (eB.RT a))) H n l b1 w.heap.size a.size J z (λpre A B h d=>K pre A B ZY h ⟨d.os,d.tape,d.output,d.size,λk Q _=>d.block k Q⟩ (λr e=>by cases e)) N ((a.cell (p:=⟨b1,0,ZY⟩) d).trans E) C
end
section
attribute [local go_sem] Oper.semAt_some
def jL (l:a8):List ZT:=l.map λ(x:Nat)=>Value.int .i64 (x:Int)
def Tryz.Sq:(ZO.info? 3).map (λi=>(i.zero,i.size,i.bytes))=ZX (ZX (Z7 Z9 0),1,8):=by kernel_rfl
structure PX (w:ZU) (q count B:Nat) (pre:a8) (X:ZU):Prop where
 cnt:ZP X w.heap.size 3 (Z7 Z9 (count:Nat))
 box:ZP X q 111 (Z5 (ZX ⟨w.heap.size+1,0,ZY⟩) pre.length count)
 own:X.ownsRow (w.heap.size+1) 3 1 (Z5 (ZX ⟨w.heap.size+1,0,ZY⟩) pre.length count) pre.length (jL pre)
 below:bW w X
 size:B<=X.heap.size
 le:pre.length<=count
def PX.Ti (j:w.heap.size+3<=B) (l:q<B):OwnFrom B (PX w q count B):=by
 rintro pre X Y row ⟨d,f,g,c,h,i⟩ a hr;have b:∀ k,k<B->Y.heap[k]?=X.heap[k]?:=λk b=>a.block k (by omega) (λe=>by have:=(hr k e.symm).1;omega);exact ⟨(b _ (by omega)).trans d,(b _ (by omega)).trans f,lG g a λr e=>(hr r e).2,c.grown a c.size (λk e=>by have:=(hr k e).1;omega),TW h a.size,i⟩
def TaX (w:ZU) (q count B id:Nat) (c:Code) (pre':a8) (X:ZU):Prop:=c=.exit id/\∃ pre x,pre'=pre++[x]/\pre.length=count/\PX w q count B pre X
def TaX.Ti {id:Nat} (g:w.heap.size+3<=B) (i:q<B) (c:Code):OwnFrom B (TaX w q count B id c):=by
 rintro a X Y row ⟨b,pre,x,d,e,f⟩ h hr;exact ⟨b,pre,x,d,e,PX.Ti g i pre X Y row f h hr⟩
theorem lL {v:Nat} {A:aH} (K:bh w ar v D' L' G' t f nn pg ob off) (M:bk w v p D L G ps ho) (h:aB w p A F) (hn:0<A.n) (P:a8) (os:List Ob) (Q:br (λk=>k<w.heap.size) w pg P) (O:eY (λk=>k<w.heap.size) w ob os) (count:Nat) (k6:count<=1000000) :
 ZR ZO 83 #[Z6 (ZX ⟨ar,0,ZY⟩),Z7 Z9 (count:Nat)] w λe w'=>∃ u,e=Z3 (Z0 #[u,Z2 (decide (count<=(aX (tk A.nb (P++ak os)).1 A.nb).length))]) /\
  w'.ownsRow w.heap.size 3 1 u ((aX (tk A.nb (P++ak os)).1 A.nb).take count).length (jL ((aX (tk A.nb (P++ak os)).1 A.nb).take count))/\bW w w':=by
 obtain ⟨n,HN⟩:∃ n:Nat,Hid (9<=n):=⟨9,TV _⟩;have H0:=a6 K M h Q O;clear K M h Q O;refine (Vk (n:=n)).1 ?_;refine V6 func83 rfl trivial ?_ rfl;simp only [ntmps83,UF,Uv,UQ,YF,YG,Va,Vb,Vc,Vd,Uk,UL];obtain ⟨i0,kv,qg,q5,qh⟩:=Us Tryz.Sq;have hq:(w.alloc (Z4 #[Z7 Z9 (count:Int)] 3)).heap.size=w.heap.size+1:=by simp
 have kp:bW w (w.alloc (Z4 #[Z7 Z9 (count:Int)] 3)):=bA w _;have kk:ZP (w.alloc (Z4 #[Z7 Z9 (count:Int)] 3)) w.heap.size 3 (Z7 Z9 (count:Nat)):=UA w _ _;have z:=aE hq kp kk;clear hq kp kk;gi_wp2_with (gi_at_make;refine wpListIn_make_own _ rfl (.const (Z7 Z9 0)) (Z1 8) 111 rfl (w.heap.size+1) 3 i0 (Z7 Z9 0) 1 XX kv qg q5 .i64 .i64 _ count (by rfl) (by rfl) rfl (by rw [qh];omega) (by unfold maxLen;omega) (by rw [z.out.1];exact TV _) ?_;intro w2 V Z)
 rw [z.out.1] at V;have ki:=Z.size;rw [z.out.1] at ki;have qi:w.heap.size+1<w2.heap.size:=(V.lt (w.heap.size+1) rfl).2;have hh:bW w w2:=z.out.2.1.grown Z (by rw [z.out.1];omega) (λk e=>by cases e);have h8:ZP w2 w.heap.size 3 (Z7 Z9 (count:Nat)):=(Z.block _ (by rw [z.out.1];omega) (by simp)).trans z.out.2.2;have h2:ZP (w2.alloc (Z4 #[Z5 (ZX ⟨w.heap.size+1,0,ZY⟩) 0 count] 111)) w2.heap.size 111 (Z5 (ZX ⟨w.heap.size+1,0,ZY⟩) 0 count):=UA w2 _ _;have hr:bW w2 (w2.alloc (Z4 #[Z5 (ZX ⟨w.heap.size+1,0,ZY⟩) 0 count] 111)):=bA w2 _;have hx:(w2.alloc (Z4 #[Z5 (ZX ⟨w.heap.size+1,0,ZY⟩) 0 count] 111)).heap.size=w2.heap.size+1:=by simp
 obtain ⟨d,q0⟩:=nM (w2.alloc (Z4 #[Z5 (ZX ⟨w.heap.size+1,0,ZY⟩) 0 count] 111));rw [q0] at h2 hr hx ⊢;refine cV (BK ar d) ?_;rintro e w' ⟨rfl,rfl⟩;have h5:(d.alloc (Z4 #[Z6 (ZX ⟨ar,0,ZY⟩)] 86)).cell? ⟨d.heap.size,0,ZY⟩=ZX (Z6 (ZX ⟨ar,0,ZY⟩)):=(UA d _ _).cell;have q6:(d.alloc (Z4 #[Z6 (ZX ⟨ar,0,ZY⟩)] 86)).heap.size=d.heap.size+1:=by simp
 have k0:bW d (d.alloc (Z4 #[Z6 (ZX ⟨ar,0,ZY⟩)] 86)):=bA d _;obtain ⟨g,S⟩:=nM (d.alloc (Z4 #[Z6 (ZX ⟨ar,0,ZY⟩)] 86));have U:bW w2 g:=by rw [<- S];exact hr.trans (k0.mono hr.size)
 have ha:bW w g:=hh.trans (U.mono (by omega));have kx:PX w w2.heap.size count g.heap.size [] g:=⟨(U.block _ (by omega)).trans h8,by rw [<- S];exact (k0.block _ (by omega)).trans h2,ay V U,ha,TV _,T9 _⟩;have kz:g.heap.size=w2.heap.size+2:=by rw [<- S,q6,hx]
 have R:=a6 h5 kx ha hx kz;clear h5 kx q6 k0 U ha kz h2 hr hx V Z hh h8;gi_wp2;rw [S] at R;clear S q0;obtain ⟨qj,qk,qm,qn⟩:d.heap.size<=w2.heap.size+1/\w2.heap.size+1<=d.heap.size/\g.heap.size<=w2.heap.size+2/\w2.heap.size+2<=g.heap.size:=by have:=R.out.2.2.2;omega
 have C:=R.out.2.2.1;obtain ⟨K,M,h,Q,O⟩:=H0.out;have hz:∀ {v:ZT} {l:a8},br (λk=>k<w.heap.size) g v l->br (λk=>k<g.heap.size) g v l:=λ⟨ao,c,q1,q2,q3⟩=>⟨ao,c,q1,q2,λhl=>by obtain ⟨b,off,r1,r2,r3⟩:=q3 hl;exact ⟨b,off,r1,TZ r2 C.size,r3⟩⟩;have ko:=hz (Q.keep (eB.RT C));have km:eY (λk=>k<g.heap.size) g ob os:=by
  obtain ⟨ao,c,q1,q2,q3⟩:=O.keep (eB.RT C);refine ⟨ao,c,q1,q2,λhl=>?_⟩;obtain ⟨b,off,r1,r2,r3,r4⟩:=q3 hl;refine ⟨b,off,r1,TZ r2 C.size,r3,λi a=>?_⟩;obtain ⟨sv,s1,s2,s3,s4⟩:=r4 i a;exact ⟨sv,s1,s2,s3,hz s4⟩
 have ke:=D7 (K.keep (C.block _ K.lt)) (M.keep (C.block _ M.lt)) (h.below C lR) hn P os ko km (n-1) d.heap.size (by omega) R.out.1;obtain ⟨fr,k7⟩:=nM (aX (tk A.nb (P++ak os)).1 A.nb);rw [k7] at ke;have kj:=al k7;have q9:=al ke;clear k7 ke ko km hz K M h Q O;refine V7 rfl (by have:=HN.out;omega) (gf:=150) (lb:=#[Z6 (ZX ⟨d.heap.size,0,ZY⟩)]) rfl trivial (Vl func150 (by kernel_rfl) rfl)
  q9.out (λh k=>h.trans k) (λW l o o' hl ho hc _=>⟨by simp [World.putObj],λk o2 _ m ks=>(UV (λe=>by subst e;rw [m] at ho;cases ho;rw [hc] at ks;cases ks)).trans m⟩) (TY _ _) (λ_=>rfl)
  (PX w w2.heap.size count g.heap.size) (TaX w w2.heap.size count g.heap.size 0) (PX.Ti (by omega) (by omega)) (TaX.Ti (by omega) (by omega)) R.out.2.1
  (λx=>{ tmps:=#[Z6 (ZX ⟨ar,0,ZY⟩),Z7 Z9 (count:Nat),ZZ,Z6 (ZX ⟨w.heap.size,0,ZY⟩),Z5 ZY 0 0,Z2 ZV,Z6 (ZX ⟨w2.heap.size,0,ZY⟩),Z7 Z9 (x:Nat),Z7 Z9 (count:Nat),Z5 (ZX ⟨w.heap.size+1,0,ZY⟩) 0 count,Z6 (ZX ⟨ar,0,ZY⟩),.func (.func 150) #[] #[Z6 (ZX ⟨d.heap.size,0,ZY⟩)],Z7 Z9 (x:Nat),ZZ,ZZ,ZZ,ZZ,ZZ,ZZ,ZZ,ZZ,ZZ,ZZ,ZZ,ZZ,ZZ],defers:=[] }) ?assign ?body ?done ?stop
 case assign=>
  intro l2 x X Kk hK;unfold pB;gi_wp2;exact hK
 case body=>
  rintro l2 pre x X a qd;have c1:=a.cnt.cell;have I:=a.box.cell;have ka:=a.le;by_cases h3:pre.length=count
  . have e1:((pre.length:Nat):Int)=((count:Nat):Int):=(by omega);have B:=al a;clear a;rw [h3] at I;gi_wp2;exact ⟨XW _ _,rfl,pre,x,rfl,h3,B.out⟩
  . have e1:¬ ((pre.length:Nat):Int)=((count:Nat):Int):=(by omega);obtain ⟨pl,H⟩:=nM (pre.length);have HO:Hid ((X.alloc (Z4 #[Z7 Z9 (x:Nat)] 3)).ownsRow (w.heap.size+1) 3 1 (Z5 (ZX ⟨w.heap.size+1,0,ZY⟩) pl count) pl (jL pre)):=al (by have:=ay a.own ((TY _ X).alloc lR (Z4 #[Z7 Z9 (x:Nat)] 3));rwa [H] at this);have hj:∀ j u,[Value.int .i64 ((x:Nat):Int)][j]?=ZX u->(X.alloc (Z4 #[Z7 Z9 (x:Nat)] 3)).cell? ((⟨X.heap.size,0,ZY⟩:Addr).add j)=ZX u:=ly X (Z7 Z9 (x:Nat)) 3;have q8:=al hj;have qf:w2.heap.size<X.heap.size:=(by have:=a.size;omega);have B:=au a H;rw [H] at I e1 ka;have kr:ZP X w2.heap.size 111 (Z5 (ZX ⟨w.heap.size+1,0,ZY⟩) pl count):=(by have:=a.box;rwa [H] at this);have q7:=al kr;clear a hj kr h3 H;gi_wp2_with (
     gi_at_builtin;
     refine wpListIn_append_fits _ rfl (Z1 17) (Z1 19) 111 rfl (w.heap.size+1) 3 i0 1 XX kv q5 (w.heap.size+1) pl count (jL pre) (by rfl) (by exact HO.out) ⟨X.heap.size,0,ZY⟩ 1 1 [Z7 Z9 (x:Nat)] (by rfl) rfl (by exact q8.out) (λu hu=>by simp at hu;subst hu;rfl) (by omega) ?_;
     intro T hm J;
     have hy:ZP T w2.heap.size 111 (Z5 (ZX ⟨w.heap.size+1,0,ZY⟩) pl count):=(J.block _ (by simp;omega) (λe=>by have:=UI e;omega)).trans ((Ux _ _ _ qf).trans q7.out);
     have d0:=hy.cell;
     have f0:=hy.frozen)
    obtain ⟨a,H⟩:=B.out;have Y:∀ k,k<X.heap.size->k≠w.heap.size+1->T.heap[k]?=X.heap[k]?:=λk m qe=>(J.block k (by simp;omega) (λe=>qe (UI e))).trans (Ux _ _ _ m);have kf:=J.size;simp only [Uq] at kf;have k8:∀ k,k≠w2.heap.size->(T.setCell ⟨w2.heap.size,0,ZY⟩ (Z5 (ZX ⟨w.heap.size+1,0,ZY⟩) (pl+1) count)).heap[k]?=T.heap[k]?:=λk m=>Ud _ _ _ _ m;have h4:(pre++[x]).length=pl+1:=(by rw [T8,H];rfl);have k9:jL (pre++[x])=jL pre++[Z7 Z9 (x:Nat)]:=(by unfold jL;rw [Uw];rfl);refine ⟨⟨by simp [World.setCell];omega,λk o m ho _=>?_⟩,⟨by simp [World.setCell];omega,λk o m ho _=>?_⟩,?_,?_,?_,?_,?_,?_⟩
    . exact ((k8 k (by omega)).trans (Y k (TX.1 ho).1 (by omega))).trans ho
    . exact ((k8 k (by omega)).trans (Y k (TX.1 ho).1 (by omega))).trans ho
    . exact ((k8 _ (by omega)).trans (Y _ (by omega) (by omega))).trans a.cnt
    . rw [h4];exact hy.set _
    . rw [h4,k9];exact hm.kept (te T w2.heap.size 0 _) (.inr λe=>by have q:w.heap.size+1=w2.heap.size:=UI e;omega)
    . refine WU (p:=⟨w2.heap.size,0,ZY⟩) ?_ (by show w.heap.size<=w2.heap.size;omega) _;exact ⟨J.os.trans a.below.os,J.tape.trans a.below.tape,J.output.trans a.below.output,by have:=a.below.size;omega,λk m=>(Y k (by have:=a.below.size;omega) (by omega)).trans (a.below.block k m)⟩
    . have:=a.size;simp [World.setCell];omega
    . rw [h4];omega
 case done=>
  rintro D1 xs X qa q4 a hK;have kh:xs=fr:=q4;subst kh;have c1:=a.cnt.cell;have I:=a.box.cell;have ka:=a.le;have B:=au a hK;clear a hK q4;obtain ⟨xl,N⟩:=nM (xs.length);rw [N] at I ka;have HL:=al N;clear N;gi_wp2;gi_region
  gi_wp2;obtain ⟨a,hK⟩:=B.out;have N:=HL.out;have E:X.drew.heap[D1]?=ZX (.deferred (ZX [])):=hK;have kg:xs.take count=xs:=UD (by omega);have qb:decide (count<=xs.length)=(((xl:Nat):Int)==((count:Nat):Int)):=by
   by_cases e:xl=count
   . rw [decide_eq_true (by omega)];subst e;simp
   . rw [decide_eq_false (by omega)];have:¬ ((xl:Nat):Int)=((count:Nat):Int):=by omega
     simp [this]
  rw [kj.out,kg,qb];refine tg (t:=4) (u:=5) (x:=Z5 (ZX ⟨w.heap.size+1,0,ZY⟩) xl count) (y:=Z2 (((xl:Nat):Int)==((count:Nat):Int))) results83 rfl rfl rfl E ⟨_,rfl,?_,?_⟩
  . have ho:=a.own;rw [N] at ho;have kb:X.drew.ownsRow (w.heap.size+1) 3 1 (Z5 (ZX ⟨w.heap.size+1,0,ZY⟩) xl count) xl (jL xs):=ay ho ((TY _ X).drew);rw [N];exact cP (lG kb (WW X.drew D1 (.deferred ZY)) λr e=>by cases e;exact ⟨_,E,rfl⟩) (by omega)
  . exact Below.RV a.below.drew (by omega) (TX.1 E).1 _
 case stop=>
  rintro D1 cc pre X qa kc ⟨rfl,s,x,rfl,k5,a⟩ hK;have c1:=a.cnt.cell;have I:=a.box.cell;have B:=au a hK;rw [k5] at I;clear a hK;gi_wp2;gi_region
  gi_wp2;obtain ⟨a,hK⟩:=B.out;have E:X.drew.heap[D1]?=ZX (.deferred (ZX [])):=hK;obtain ⟨rr,ky⟩:=kc;have kg:fr.take count=s:=by rw [<- ky,Uz,VN (by omega),UD (by omega)]
  have qc:count<=fr.length:=by rw [<- ky];simp;omega
  rw [kj.out,kg,decide_eq_true qc];refine tg (t:=4) (u:=5) (x:=Z5 (ZX ⟨w.heap.size+1,0,ZY⟩) count count) (y:=Z2 ZW) results83 rfl rfl rfl E ⟨_,rfl,?_,?_⟩
  . have ho:=a.own;rw [k5] at ho;have kb:X.drew.ownsRow (w.heap.size+1) 3 1 (Z5 (ZX ⟨w.heap.size+1,0,ZY⟩) count count) count (jL s):=ay ho ((TY _ X).drew);rw [k5];exact cP (lG kb (WW X.drew D1 (.deferred ZY)) λr e=>by cases e;exact ⟨_,E,rfl⟩) (by omega)
  . exact Below.RV a.below.drew (by omega) (TX.1 E).1 _
end
theorem nz {v:Nat} (h:bk w v p D L G ps ho) (a:yY D L G):ZR ZO 102 #[Z6 (ZX ⟨v,0,ZY⟩)] w λe w'=>e=Z3 (Z7 Z8 ((2^(D+L+G)-1:Nat):Int))/\bW w w':=by
 obtain ⟨_,c1,k,l,_⟩:=h.cells;have hD:=a.d;have hL:=a.l4;have hG:=a.g;have n:=a.s;clear a;obtain ⟨m,i⟩:=nM (D+L+G);obtain ⟨q,b⟩:=nM (((2^m-1:Nat):Int));rw [i,b];have f:=al b;clear b;go_enter func102,ntmps102;go_wp2_with fail;refine (dE (D:Int) (L:Int) (G:Int) w ⟨by omega,by omega⟩ ⟨by omega,by omega⟩ ⟨by omega,by omega⟩).mono ?_;rintro e j ⟨rfl,c⟩;rw [show ((D:Int)+(L:Int)+(G:Int))=(m:Int) by omega];have H:=al c;clear c;go_wp2_with fail;refine (mn m (by omega) j).mono ?_;rw [f.out];rintro e o ⟨rfl,rfl⟩;go_wp2;go_ret;exact ⟨rfl,H.out⟩
def Tryz.SX:(ZO.info? 193).map (λi=>(i.zero,i.size,i.bytes))=ZX (ZX .nilIface,1,16):=by kernel_rfl
def vG (w:ZU) {ops:Array Oper} {rest:List Oper} {o:Oper} {a:Act} {Q:Exit->Act->ZU->Prop}
 (h:o.guard=ZY) (l c:Operand) (e:o.op=Op.makeSlice 140 l c) (C:Int) (n:Nat) (hl:a.eval l=Z7 Z9 C) (g:a.eval c=Z7 Z9 C) (f:C=(n:Int)) (hn:n<=1000000)
 (hK:∀ w',w'.rowIs w.heap.size 193 n (λ_=>.nilIface)->bW w w'->w'.heap.size=w.heap.size+1->wpList ZO ops Q rest (a.put o.dst (Z5 (ZX ⟨w.heap.size,0,ZY⟩) n n)) w') :
 wpList ZO ops Q (o::rest) a w:=by
 refine VO h λK d=>?_;have b:=Xz (P:=ZO) 140 193 .nilIface 16 underlying140 Tryz.SX rfl .i64 .i64 n (by omega) (by omega) w;subst f;unfold Oper.wp;simp [execOp,e,hl,g,b,Result.andThen];exact d _ _ (hK _ (Xc w _ n _) (bA _ _) (Ug _ _))
def kI (r:bC):∃ a x,cj r=.iface a x:=by cases r<;>exact ⟨_,_,rfl⟩
def gC:Option bC->ZT
 | some r=>cj r
 | none=>.nilIface
def KT (A:aH) (b k i:Nat):ZT:=if i<k then gC (A.R7 i b) else .nilIface
def PY {A:aH} {r:bC} (h:A.R7 k b=ZX r) (i:Nat):(if i=k then cj r else KT A b k i)=KT A b (k+1) i:=by
 unfold KT;by_cases e:i=k
 . rw [if_pos e,if_pos (by omega),e,h];rfl
 . rw [if_neg e];by_cases a:i<k
   . rw [if_pos a,if_pos (by omega)]
   . rw [if_neg a,if_neg (by omega)]
def PZ {A:aH} (h:A.R7 k b=ZY) (i:Nat):KT A b k i=KT A b (k+1) i:=by
 unfold KT;by_cases e:i=k
 . rw [if_neg (by omega),if_pos (by omega),e,h];rfl
 . by_cases a:i<k
   . rw [if_pos a,if_pos (by omega)]
   . rw [if_neg a,if_neg (by omega)]
def aaE (w1:ZU) (g p N b:Nat) (A:aH) (F:aR) (i:ZT) (wr:ZU):Prop:=∃ k:Nat,k<=N/\i=Z7 Z9 k/\aB wr p A F/\aa (λj=>j=g\/F.S j) w1 wr/\wr.rowIs g 193 N (KT A b k)
def Nw (w:ZU) (p b:Nat) (A:aH) (F:aR) (e:ZQ) (w':ZU):Prop:=∃ g,e=Z3 (Z5 (ZX ⟨g,0,ZY⟩) A.n A.n)/\w.heap.size<=g/\w'.rowIs g 193 A.n (λi=>gC (A.R7 i b))/\aB w' p A F/\aa (F.S) w w'
theorem lM {v:Nat} {A:aH} (c:pH w v p D L G ps ho A F) (b:Nat) (hb:b<A.nb) :
 ZR ZO 65 #[Z6 (ZX ⟨v,0,ZY⟩),Z7 Z9 b] w λe w'=>Nw w p b A F e w':=by
 obtain ⟨_,c1,Y,Z,_⟩:=c.vol.cells;have hn:=c.n;have hD:=c.par.d;have hL:=c.par.l4;have hG:=c.par.g;have N:((D:Int)+(L:Int)+(G:Int))=((A.n:Nat):Int):=by omega
 have k0:A.n<=1000:=by omega
 go_enter func65,ntmps65;go_wp2_with fail;refine (dE (D:Int) (L:Int) (G:Int) w ⟨by omega,by omega⟩ ⟨by omega,by omega⟩ ⟨by omega,by omega⟩).mono ?_;rintro e f ⟨rfl,R⟩;rw [N];clear N hn;simp only [];go_wp2_with (at_make;refine vG _ rfl (Z1 13) (Z1 13) rfl _ A.n rfl rfl rfl (by omega) ?_;intro E J T k5);have t:bW w f:=R;have U:bW w E:=t.trans (T.mono t.size);have hr:w.heap.size<=f.heap.size:=t.size;have W:¬ F.S f.heap.size:=λq=>by have:=c.arr.RU q;omega
 have h:=c.below U lR;have hs:v≠f.heap.size:=λe=>by have:=c.vol.lt;omega
 have hq:2≠f.heap.size:=λe=>by have:=c.laid.lt;omega
 have K:=h.arr;have P:E.rowIs f.heap.size 193 A.n (KT A b 0):=J.congr λi B=>by unfold KT;rw [if_neg (by omega)]
 clear J R t T c c1 Y Z;go_loopw [17] (λi wr=>aaE E f.heap.size p A.n b A F i wr) (λi _=>A.n-(intOf i).toNat)
 case atStart=>exact ⟨0,T9 _,rfl,K,aa.refl _ _,P⟩
 case round=>
  clear K P;obtain ⟨k,hk,rfl,y,m,z⟩:=hrel;by_cases X:k<A.n
  . have Q:bk wr v p D L G ps ho:=h.vol.keep (m.block _ h.vol.lt (λq=>q.elim hs h.v));have M:bg wr:=h.laid.keep (m.block _ h.laid.lt (λq=>q.elim hq h.g));have I:=qN Q y k b X hb M h.g;have H:=aE m z I;clear Q M I y m z;go_wp2_with fail;refine H.out.2.2.mono ?_;rintro e w7 ⟨u,o,hy⟩;have l:w7.rowIs f.heap.size 193 A.n (KT A b k):=H.out.2.1.of_block (o.block f.heap.size H.out.2.1.lt W);rcases hy with ⟨r,s,rfl⟩|⟨s,q,rfl,-⟩
    . have cS:=l.cell (i:=k) X;have fS:=l.frozen k;obtain ⟨ty,x,C⟩:=kI r;rw [C];have hz:((k:Nat):Int).toNat=k:=(by omega);have a:=a6 u (H.out.1.trans (o.mono λ_ _ q=>.inr q)) l s C;clear u o H l s C;go_wp2;refine ⟨⟨k+1,by omega,by go_num,a.out.1.keep λj V=>Ud _ _ _ _ (λe=>W (by have e':j=f.heap.size:=e;rwa [e'] at V)),a.out.2.1.trans (aa.setCell _ _ _ (.inl rfl)),(a.out.2.2.1.set k _).congr λi B=>?_⟩,by simp [intOf];omega⟩;rw [<- a.out.2.2.2.2];exact PY a.out.2.2.2.1 i
    . unfold rk;have a:=a5 u (H.out.1.trans (o.mono λ_ _ q=>.inr q)) l s;clear u o H l s;go_wp2;exact ⟨⟨k+1,by omega,by go_num,a.out.1,a.out.2.1,a.out.2.2.1.congr λi _=>PZ a.out.2.2.2 i⟩,by simp [intOf];omega⟩
  . have hv:k=A.n:=(by omega);subst hv;have O:aa F.S w wr:=(aa.RS U _).later m λj V q=>q.elim (λe=>by omega) id;have H:=aE y O z;clear y m O z;go_wp2;go_ret;exact ⟨_,rfl,hr,H.out.2.2.congr λi B=>(by unfold KT;rw [if_pos B]),H.out.1,H.out.2.1⟩
def pU (G:Nat->Nat) (i:Nat):a8:=(YD 64).map λj=>G (i*64+j)
def lN (G:Nat->Nat) (n:Nat):List a8:=(YD n).map (pU G)
def iO (G:Nat->Nat) (i j:Nat):mM (pU G i) j=if j<64 then G (i*64+j) else 0:=by
 unfold mM pU;by_cases h:j<64
 . simp [h]
 . simp [h]
def fX (G:Nat->Nat) (n:Nat):(lN G n).length=n:=by simp [lN]
def fY (G:Nat->Nat) (n i:Nat) (h:i<(lN G n).length):(lN G n)[i]=pU G i:=by simp [lN]
def tJ {G:Nat->Nat} (hG:∀ x,G x<256) (n:Nat):∀ l∈lN G n,∀ x∈l,x<256:=by
 intro l hl x a;obtain ⟨i,_,rfl⟩:=T6.1 hl;obtain ⟨j,_,rfl⟩:=T6.1 a;exact hG _
def BL (G:Nat->Nat) (p r x:Nat):Nat:=if x/64=r then G (p*64+x%64) else if x/64=p then G (r*64+x%64) else G x
theorem zn {G:Nat->Nat} (hG:∀ x,G x<256) (p r x:Nat):BL G p r x<256:=by
 unfold BL;split
 . exact hG _
 . split<;>exact hG _
def D8 (G:Nat->Nat) (p r i j:Nat) (c:j<64):BL G p r (i*64+j)=if i=r then G (p*64+j) else if i=p then G (r*64+j) else G (i*64+j):=by
 have a:(i*64+j)/64=i:=by omega
 have b:(i*64+j)%64=j:=by omega
 unfold BL;rw [a,b]
def KU (G:Nat->Nat) (p r c n:Nat):Nat->Nat:=wk (BL G p r) r c (gi (G (p*64+c))) (max n (r+1))
def KV {G:Nat->Nat} (hG:∀ x,G x<256) (p r c n x:Nat):KU G p r c n x<256:=OM (zn hG p r) _ _ _ _
def KW (G:Nat->Nat) (p r c n i j:Nat) (_hc:c<64) (d:j<64) (f:r<i) (e:i<n):KU G p r c n (i*64+j)=if c<=j then BL G p r (i*64+j)^^^gm (gm (BL G p r (i*64+c)) (gi (G (p*64+c)))) (G (p*64+j)) else BL G p r (i*64+j):=by
 have a:(i*64+j)/64=i:=by omega
 have b:(i*64+j)%64=j:=by omega
 unfold KU wk;rw [a,b,D8 G p r r j d,if_pos rfl];by_cases h:c<=j
 . rw [if_pos h,if_pos (by omega)]
 . rw [if_neg h,if_neg (by omega)]
theorem FH {G:Nat->Nat} (hG:∀ x,G x<256) (b:c<64) (m:p<n) (k:r<=p) (g:G (p*64+c)≠0) (o:∀ i,r<=i->i<n->∀ j,j<c->G (i*64+j)=0) (e:r<i) (d:i<n) :
 ∃ f,f<256/\mM (pU (KU G p r c n) i)=cY (mM (pU G (if i=p then r else i))) f (mM (pU G p))/\mM (pU (KU G p r c n) i) c=0:=by
 have l:∀ j,j<64->BL G p r (i*64+j)=G ((if i=p then r else i)*64+j):=by
  intro j a;rw [D8 G p r i j a,if_neg (by omega)];split<;>rfl
 refine ⟨gm (BL G p r (i*64+c)) (gi (G (p*64+c))),bE _ (zn hG _ _ _),?_,?_⟩
 . funext j;show mM (pU (KU G p r c n) i) j=mM (pU G (if i=p then r else i)) j^^^gm _ (mM (pU G p) j);rw [iO,iO,iO];by_cases a:j<64
   . rw [if_pos a,if_pos a,if_pos a,KW G p r c n i j b a e d,l j a];by_cases h:c<=j
     . rw [if_pos h]
     . rw [if_neg h,o p k m j (by omega),de,U8]
   . rw [if_neg a,if_neg a,if_neg a,de];exact (U4 0).symm
 . rw [iO,if_pos b,KW G p r c n i c b b e d,if_pos lR];exact sj (zn hG _ _ _) (hG _) g
theorem D9 {G:Nat->Nat} (hG:∀ x,G x<256) (d:c<64) (h:p<n) (b:r<=p) (a:G (p*64+c)≠0) (t:∀ i,r<=i->i<n->∀ j,j<c->G (i*64+j)=0)
 (s:dL m (vU (lN (KU G p r c n) n) (r+1)) (c+1) k):dL (m+1) (vU (lN G n) r) c (k+1):=by
 refine Az (p:=p) (T':=lN (KU G p r c n) n) (tJ hG n) (tJ (KV hG p r c n) n) (by rw [fX,fX]) b (by rw [fX];exact h) ?_ ?_ s
 . rw [fY,iO,if_pos d];exact a
 . intro i g o;rw [fX] at g;obtain ⟨f,q,e,l⟩:=FH hG d h b a t o g;refine ⟨f,by rw [fX];split<;>omega,q,?_,?_⟩
   . rw [fY,fY,fY];exact e
   . rw [fY];exact l
structure GI (D:List a8) (c r n:Nat) (G:Nat->Nat):Prop where
 byt:∀ x,G x<256
 rle:r<=n
 zer:∀ i,r<=i->i<n->∀ j,j<c->G (i*64+j)=0
 tak:∀ k,dL (64-c) (vU (lN G n) r) c k->sm D (r+k)
def GI.skip {D:List a8} {G:Nat->Nat} (h:GI D c r n G) (d:c<64) (b:∀ i,r<=i->i<n->G (i*64+c)=0):GI D (c+1) r n G:=
 { h with
  zer:=λi hr a j g=>by
   by_cases e:j=c
   . subst e;exact b i hr a
   . exact h.zer i hr a j (by omega)
  tak:=λk f=>by
   refine h.tak k ?_;have e:64-c=64-(c+1)+1:=(by omega);rw [e];refine Da (λi a hr=>?_) f;rw [fY,iO,if_pos d];rw [fX] at a;exact b i hr a }
theorem GI.pivot {D:List a8} {G:Nat->Nat} (h:GI D c r n G) (b:c<64) (a:r<=p) (d:p<n) (o:G (p*64+c)≠0):GI D (c+1) (r+1) n (KU G p r c n) where
 byt:=KV h.byt p r c n
 rle:=by omega
 zer:=λi hr v j x=>by
  obtain ⟨f,_,e,l⟩:=FH h.byt b d a o h.zer (show r<i by omega) v;by_cases s:j=c
  . subst s;rw [iO,if_pos b] at l;exact l
  . have g:=congrFun e j;have t:=h.zer (if i=p then r else i) (by split<;>omega) (by split<;>omega) j (by omega);have u:=h.zer p a d j (by omega);rw [iO,if_pos (by omega)] at g;rw [g];show mM (pU G (if i=p then r else i)) j^^^gm f (mM (pU G p) j)=0;generalize (if i=p then r else i)=q at *;have m:j<64:=(by omega);rw [iO,iO,if_pos m,if_pos m,t,u,de];exact U4 0
 tak:=λk w=>by
  have e:r+1+k=r+(k+1):=by omega
  rw [e];refine h.tak (k+1) ?_;have e:64-c=64-(c+1)+1:=by omega
  rw [e];exact D9 h.byt b d a o h.zer w
def GI.done {D:List a8} {G:Nat->Nat} (h:GI D 64 r n G):sm D r:=
 h.tak 0 rfl
def Ht {D:List a8} (a:∀ l∈D,∀ x∈l,x<256) (x:Nat):fW D x<256:=by
 unfold fW;by_cases h:x/64<D.length
 . have e:D.getD (x/64) []=D[x/64]:=(by simp [h]);rw [e];exact ez (a _ (T4 h)) _
 . have e:D.getD (x/64) []=[]:=(by simp [VM (Xs.1 h)]);rw [e];simp
theorem GI.start {D:List a8} (g:∀ l∈D,∀ x∈l,x<256) (h:vt D):GI D 0 0 D.length (fW D) where
 byt:=Ht g
 rle:=T9 _
 zer:=λ_ _ _ j a=>absurd a (abc _)
 tak:=λk c=>by
  rw [Ue];have e:vU (lN (fW D) D.length) 0=vU D 0:=Gk (by rw [fX]) (λi n b=>by
   rw [fY];funext j;rw [iO];have m:D.getD i []=D[i]:=(by simp [b]);by_cases a:j<64
   . rw [if_pos a];have d:(i*64+j)/64=i:=(by omega);have f:(i*64+j)%64=j:=(by omega);unfold fW mM;rw [d,f,m]
   . rw [if_neg a];have:=h.2 i b;unfold mM;simp [VM (show (D[i]).length<=j by omega)]) 0
  rw [e] at c;exact c
def Ea (w:ZU) {ops:Array Oper} {rest:List Oper} {o:Oper} {a:Act} {Q:Exit->Act->ZU->Prop} (h:o.guard=ZY) (x y:Operand) (ho:o.op=.store 258 x y)
 (g:Nat) (f:Nat->Nat) (cs old:Array ZT) (l:a.eval x=Z6 (ZX ⟨g,0,ZY⟩)) (m:a.eval y=.agg cs) (d:w.heap[g]?=ZX (Z4 old 258 (0,0))) (hold:old.size=4096) (b:cs.size=4096) (c:∀ j,j<4096->cs[j]?=ZX (tv f j))
 (hK:∀ w2,w2.rowIs g 258 4096 (tv f)->w.grownBy w2 (ZX g)->wpList ZO ops Q rest (a.put o.dst ZZ) w2):wpList ZO ops Q (o::rest) a w:=by
 refine Wi h 258 x y ho g cs l m 258 old d (by rw [Tryz.SG,b]) (by omega) (tw b c) (hK _ ?_ ?_)
 . exact ⟨cs,Vf w g old cs _ _ d,b,c⟩
 . refine ⟨rfl,rfl,rfl,by simp,λk n i=>?_⟩;have:g≠k:=λe=>i (by rw [e]);simp [World.setRow,VH,this]
theorem kJ:∀ (a:List ZT) (o:Nat) (w:ZU) (f:Nat->ZT),w.rowIs b t n f->(w.setCells b o a).rowIs b t n (λx=>if o<=x/\x<o+a.length then a.getD (x-o) ZZ else f x)
 | [],o,w,f,h=>h.congr (λi _=>by rw [if_neg (by simp)])
 | v::a,o,w,f,h=>(kJ a (o+1) _ _ (h.set o v)).congr (λi _=>by
  by_cases c:o+1<=i/\i<o+1+a.length
  . have e:i-o=(i-(o+1))+1:=(by omega);rw [if_pos c,if_pos (by simp;omega),e];simp
  . rw [if_neg c];by_cases d:i=o
    . subst d;rw [if_pos rfl,if_pos (by simp)];simp
    . rw [if_neg d,if_neg (by simp;omega)])
def iP:∀ (a:List ZT) (o:Nat) (w w':ZU),w.grownBy w' (ZX b)->w.grownBy (w'.setCells b o a) (ZX b)
 | [],_,_,_,h=>h
 | v::a,o,w,_,h=>iP a (o+1) w _ (eW h o v)
def wV (G:Nat->Nat) (i:Nat):List ZT:=(YD 64).map λj=>tv G (i*64+j)
def oB (G:Nat->Nat) (i:Nat):(wV G i).length=64:=by simp [wV]
def BM (G:Nat->Nat) (i j:Nat) (h:j<64):(wV G i).getD j ZZ=tv G (i*64+j):=by simp [wV,h]
def wW {G:Nat->Nat} (h:w.rowIs b t 4096 (tv G)) {i:Nat} (d:i<64):w.rangeAt b (i*64) (wV G i):=by
 intro j v a;have c:j<64:=by
  obtain ⟨q,_⟩:=U1.1 a;rwa [oB] at q
 simp [wV,c] at a;rw [h.cell (by omega),a]
def wX {f:Nat->ZT} (h:w.rowIs b t 4096 f) {i n:Nat} (a:i<64) (hn:n<=64):w.there b (i*64) n:=λj c=>by
 rw [h.cell (by omega)];exact ⟨rfl,h.frozen _⟩
def FJ (G:Nat->Nat) (i:Nat):(wV G i).toArray.all (λv=>v.oneCell')=ZW:=by
 rw [XK];intro j a;simp [wV,tv];rfl
theorem P0 {G:Nat->Nat} (h:w.rowIs b t 4096 (tv G)) (p r:Nat):((w.setCells b (r*64) (wV G p)).setCells b (p*64) (wV G r)).rowIs b t 4096 (tv (BL G p r)):=by
 refine (kJ (wV G r) (p*64) _ _ (kJ (wV G p) (r*64) _ _ h)).congr (λx _=>?_);rw [oB,oB];by_cases e:p*64<=x/\x<p*64+64
 . have a:x/64=p:=(by omega);have c:x-p*64=x%64:=(by omega);rw [if_pos e,c,BM _ _ _ (by omega)];unfold tv BL;rw [a];by_cases d:p=r
   . rw [if_pos d,d]
   . rw [if_neg d,if_pos rfl]
 . rw [if_neg e];by_cases f:r*64<=x/\x<r*64+64
   . have a:x/64=r:=(by omega);have c:x-r*64=x%64:=(by omega);rw [if_pos f,c,BM _ _ _ (by omega)];unfold tv BL;rw [if_pos a]
   . rw [if_neg f];unfold tv BL;rw [if_neg (by omega),if_neg (by omega)]
def GpR (G:Nat->Nat) (r c n:Nat) (rv iv:ZT):Prop:=∃ k:Nat,r<=k/\k<=n/\rv=Z7 Z9 (r:Nat)/\iv=Z7 Z9 (k:Nat)/\∀ i,r<=i->i<k->G (i*64+c)=0
def GcR (w:ZU) (b:Nat) (D:List a8) (rv cv:ZT) (wr:ZU):Prop:=
 ∃ (r c:Nat) (G:Nat->Nat),c<=64/\rv=Z7 Z9 (r:Nat)/\cv=Z7 Z9 (c:Nat)/\GI D c r D.length G/\wr.rowIs b 258 4096 (tv G)/\bW w wr
theorem KX (vd:ZT) (D:List a8) (w:ZU) (P:Rd w vd D) (hb:∀ l∈D,∀ x∈l,x<256) :
 ZR ZO 99 #[vd] w λe w'=>Pv D w e w':=by
 have y:=al P;have ks:=Bu;obtain ⟨ao,c,rfl,hl,hc⟩:=P;clear hc;by_cases o:vt D
 . have hq:=o.1;have q:=al o;clear o;go_enter func99,ntmps99;go_wp2;go_step3;go_wp2_with (first
    | (go_at_call 139;refine (Br _ D _ y.out).mono ?_;rintro e wv ⟨f,_,rfl⟩;obtain rfl:=f q.out)
    | (go_at_call 140;refine (Nl _ D _ y.out q.out).mono ?_;rintro e L ⟨cs,rfl,k9,N,j⟩)
    | (refine Ea _ rfl (Z1 3) (Z1 11) rfl L.heap.size (fW D) cs _ rfl rfl (UG L _) (by simp) k9 N ?_;intro wb S V))
   have T:bW wv wb:=iZ (j.alloc j.size _) V (by rw [Ug];have:=j.size;omega) j.size;have R:=GI.start hb q.out;have kk:=j.size;have hr:=al R;clear N k9 j V ks R;generalize L.heap.size=d at *;go_step3;go_wp2;go_loopw [4,12] (λrv A wr=>GcR wv d D rv A wr) (λ_ A _=>64-(intOf A).toNat)
   case atStart=>exact ⟨0,0,fW D,by omega,rfl,rfl,hr.out,S,T⟩
   case round=>
    clear S T hr;rename ZU=>wo;obtain ⟨r,a,G,km,rfl,rfl,g,O,J⟩:=hrel;have kp:=g.rle;by_cases t:a<64
    . have F:=al g;have z:=al O;have E:=al J;clear g O J;go_wp2;go_loop [4,6] (λrv K=>GpR G r a D.length rv K) (λ_ K=>D.length-(intOf K).toNat)
      case atStart=>exact ⟨r,TV _,kp,rfl,rfl,λi f s=>absurd f (by omega)⟩
      case round=>
       obtain ⟨p,kr,kv,rfl,rfl,u⟩:=hrel;by_cases ko:p<D.length
       . have h8:wo.cell? ⟨d,p*64+a,ZY⟩=ZX (Z7 .u8 ((G (p*64+a):Nat):Int)):=z.out.cell (by omega);have kh:=al u;clear u;by_cases n:G (p*64+a)=0
         . rw [n] at h8;have HX:=al n;clear n;go_wp2;go_round
           case rel=>
            refine ⟨p+1,by omega,by omega,rfl,by go_num,λi f s=>?_⟩;by_cases e:i=p
            . subst e;exact HX.out
            . exact kh.out i f (by omega)
           case measure=>simp [intOf];omega
         . have t0:(((G (p*64+a):Nat):Int)==0)=ZV:=(by rw [beq_eq_false_iff_ne];omega);have kc:=al (F.out.pivot t kr ko n);clear n;have I:wo.drew.rowIs d 258 4096 (tv G):=z.out;have X:BL G p r (r*64+a)=G (p*64+a):=(by rw [D8 G p r r a t,if_pos rfl]);have hj:=al X;have kb:=al (zn F.out.byt p r);have B:p<64:=(by omega);have C:r<64:=(by omega);clear X;obtain ⟨v,ka,Z,Y⟩:∃ v,(wo.drew.setCells d (r*64) (wV G p)).setCells d (p*64) (wV G r)=v/\v.rowIs d 258 4096 (tv (BL G p r))/\wo.drew.grownBy v (ZX d):=
            ⟨_,rfl,P0 I p r,iP (b:=d) (wV G r) (p*64) wo.drew _ (iP (b:=d) (wV G p) (r*64) wo.drew wo.drew (Wn _ _))⟩
           have kg:=al Z;have ke:=al Y;have Q:=al ka;have m:=al I;clear Z Y ka I;go_wp2;refine Ku d p r (wV G p) (wV G r) (by kernel_rfl) (λ_ _ _ _ _ h=>h) rfl B C rfl rfl rfl (oB _ _) (oB _ _) (FJ _ _) (FJ _ _) (wW m.out B) (wW m.out C) (wX m.out C lR) (wX m.out B lR) ?_;rw [Q.out];clear Q m;unfold Kt;generalize (wV G p).toArray=cp;generalize (wV G r).toArray=cr;go_wp2_with (go_at_call 141;refine (Bt d r a D.length (BL G p r) _ kb.out kg.out (by omega) t hq).mono ?_;rintro e w2 ⟨rfl,H,W⟩);have ki:w2.rowIs d 258 4096 (tv (KU G p r a D.length)):=by
            rw [hj.out] at H;exact H
           have k:=gx ke.out W;have kj:=iZ E.out (w:=wo) ⟨k.os,k.tape,k.output,k.size,k.block⟩ E.out.size kk;clear H W k;go_wp2;go_roundw
           case rel=>exact ⟨r+1,a+1,KU G p r a D.length,by omega,by go_num,by go_num,kc.out,ki,kj⟩
           case measure=>simp [intOf];omega
       . have kf:=al (F.out.skip t (λi f s=>u i f (by omega)));clear u;go_wp2;go_roundw
         case rel=>exact ⟨r,a+1,G,by omega,rfl,by go_num,kf.out,z.out,E.out⟩
         case measure=>simp [intOf];omega
    . have U:a=64:=(by omega);rw [U] at g;have HK:=al g.done;clear g U;go_wp2;try rw [Exit.noGoto_ret]
      go_ret;exact ⟨λ_=>⟨r,by omega,rfl,HK.out⟩,λh=>absurd q.out h,J⟩
 . have M:=al o;clear o;go_enter func99,ntmps99;go_wp2;go_step3;go_wp2_with (go_at_call 139;refine (Br _ D _ y.out).mono ?_;rintro e w' ⟨_,s,rfl⟩;obtain rfl:=s M.out);try rw [Exit.noGoto_ret]
   go_ret;exact ⟨λh=>absurd h M.out,λ_=>rfl,TY _ _⟩
theorem iV.rdH (h:iV w B v T) (c:dh T D M) (hD:∀ r∈M,r.length=D) (hl:M.length<=100000):Rd w v M:=by
 have a:T.length=M.length:=by simpa using congrArg YH c
 obtain ⟨ao,cap,rfl,f⟩:=h.slice;refine ⟨ao,cap,by rw [a],by omega,λk=>?_⟩;obtain ⟨g,rfl⟩:=f (by intro e;rw [e] at a;exact k (UP a.symm));refine ⟨g,0,rfl,λi d=>?_⟩;have b:i<T.length:=by omega
 refine ⟨jX T[i],by rw [Ue];exact h.SE b,?_⟩;have:=h.SR b;have j:T[i].2=(D,M[i]):=by
  have:=congrArg (λl=>l[i]?) c;simpa [b,d] using this
 rw [j] at this;have e:(M[i]).take D=M[i]:=by rw [<- hD _ (T4 d),VC]
 rw [e] at this;exact this
def Rd.byte {D:List a8} (h:Rd w v D):∀ l∈D,∀ x∈l,x<256:=by
 rcases h.cases with ⟨rfl,_⟩|⟨b,off,c,rfl,_,a⟩
 . intro l hl;simp at hl
 . intro l hl;obtain ⟨i,d,rfl⟩:=aaY.1 hl;obtain ⟨u,_,e⟩:=a i d;exact e.lt
def di (D L G:Nat):(aT D L G).length=D+L+G:=by simp [aT];omega
def mz (D L G:Nat):∀ r∈aT D L G,r.length=D:=by
 intro r hr;simp only [aT,Uf,T6,Uy] at hr;rcases hr with (⟨i,_,rfl⟩|⟨i,_,rfl⟩)|⟨i,_,rfl⟩
 . simp [dN]
 . simp [eO]
 . simp [dF]
theorem oC (D L G:Nat) (hD:D<=12) (hG:G<=4):∀ r∈aT D L G,∀ x∈r,x<256:=by
 intro r hr x a;simp only [aT,Uf,T6,Uy] at hr;rcases hr with (⟨i,_,rfl⟩|⟨i,_,rfl⟩)|⟨i,b,rfl⟩
 . rcases XN a with h|h
   . have:=VG h;omega
   . omega
 . simp only [eO,T6] at a;obtain ⟨j,_,rfl⟩:=a;split<;>decide
 . simp only [dF,T6,Uy] at a;obtain ⟨j,c,rfl⟩:=a;exact ln (uY (by omega) (by omega))
def KY (D L G lost:Nat):Prop:=AA (vU (dG (aT D L G) lost (D+L+G)) 0) 0 D
def KZ (hD:D<=12) (hG:G<=4) (h:sm (dG (aT D L G) lost (D+L+G)) k):k=D↔KY D L G lost:=by
 have a:=sN (aT D L G) lost (D+L+G) (by rw [di];omega);exact Gl (λl hl=>oC D L G hD hG l (a l hl)) (λl hl=>by rw [mz D L G l (a l hl)];omega) (by omega) h
def K2 (D L G lost:Nat) (hD:D<=12) (hL:L<=4) (hG:G<=4):vt (dG (aT D L G) lost (D+L+G)):=by
 refine ⟨TW (nV _ _ _) (by omega),λi a=>?_⟩;rw [mz D L G _ (sN (aT D L G) lost (D+L+G) (by rw [di];omega) _ (T4 a))];omega
def P2 (D L G lost:Nat) (w:ZU) (e:ZQ) (w':ZU):Prop:=∃ b:Bool,e=Z3 (Z2 b)/\(b=ZW↔KY D L G lost)/\bW w w'
theorem kZ (D L G lost:Nat) (hr:eF D L G=ZW) (hD:D<=12) (hL:1<=L) (m:L<=4) (hG:G<=4) (s:D%L=0) (hl:lost<18446744073709551616) (w:ZU) :
 ZR ZO 69 #[.agg #[Z7 Z9 D,Z7 Z9 L,Z7 Z9 G],Z7 Z8 lost] w λe w'=>P2 D L G lost w e w':=by
 go_enter func69,ntmps69;go_wp2_with fail;refine (j8 D L G hr hD hL m hG s _).mono ?_;rintro e w1 ⟨v,T,rfl,g,n,b⟩;try change ZS _ _ _ at g
 try change ZS _ _ _ at b
 rw [Ug] at g b;have q:=b.size;try change ZS _ _ _ at q
 rw [Ug] at q;obtain ⟨i,B,C⟩:=fT b;have o:=g.rdH n (mz D L G) (by rw [di];omega);have l:bW w w1:=(bA _ _).trans (b.mono (by omega));have x:=al o;have u:=al l;clear g n b B C o l;go_wp2;go_region_held (λw'=>w'.cell? ⟨w.heap.size,0,ZY⟩=ZX (Z7 Z9 (D:Nat))) (first|assumption|exact i)
  (first
   | (go_at_call 100;refine (J9 _ (aT D L G) lost _ (show Rd w1.drew _ _ from x.out) hl (by rw [di];omega)).mono ?_;rintro e w2 ⟨H,rfl,f⟩;rw [di] at f
      have d:w2.cell? ⟨w.heap.size,0,ZY⟩=ZX (Z7 Z9 (D:Nat)):=(by rw [f.choose_spec.2.2.2.cell (Ub i)];exact i);have h:=al f;clear f)
   | (go_at_call 99;refine (KX _ _ _ (h.out.rd (TW (nV _ _ _) (by omega))) (h.out.rd (TW (nV _ _ _) (by omega))).byte).mono ?_
      rintro e E ⟨j,_,c⟩;obtain ⟨k,F,rfl,p⟩:=j (K2 D L G lost hD m hG);have A:E.cell? ⟨w.heap.size,0,ZY⟩=ZX (Z7 Z9 (D:Nat)):=(by rw [c.cell (Ub d)];exact d);have y:=al p;have t:=al c;clear j p c))
 go_wp2;go_ret;have a:=h.out.choose_spec.2.2.2;have c:=t.out;have z:=a.size;change w1.heap.size<=_ at z;have r:bW w w2:=u.out.trans ((show bW w1 w2 from ⟨a.os,a.tape,a.output,a.size,a.block⟩).mono (by omega));refine ⟨((k:Int)==(D:Int)),rfl,?_,r.trans (c.mono (by omega))⟩;rw [<- KZ hD hG y.out];simp;omega
theorem Nx (lost k:Nat) (hl:lost<18446744073709551616) (b:k<=64) (w:ZU) :
 ZR ZO 28 #[Z7 Z8 lost,Z7 Z9 k] w λe w'=>e=Z3 (Z2 (((lost/2^k%2:Nat):Int)==1))/\w'=w:=by
 have a:=Fx lost k hl;go_enter func28,ntmps28;go_wp2;go_ret;exact ⟨rfl,rfl⟩
def cW (D L G:Nat) (dl:a8):List a8:=eR (aT D L G) (dP D dl) 44
def lO (D L G:Nat) (dl:a8):(cW D L G dl).length=D+L+G:=by unfold cW eR;rw [T7,di]
def Hu (hl:dl.length<=D*44) (d:1<=D):Q9 (dP D dl)/\((dP D dl).getD 0 []).length=44:=by
 have a:((dP D dl).getD 0 []).length=44:=by
  have e:(dP D dl).getD 0 []=(dP D dl)[0]'(by rw [dW];omega):=by simp [dW,show 0<D by omega]
  rw [e,oi];exact mu hl (by omega)
 refine ⟨λi c=>?_,a⟩;have b:=c;rw [dW] at b;unfold AS;rw [a,oi c,mu hl b];exact ⟨rfl,by decide⟩
def K3 (w:ZU) (base:Nat) (M:List a8) (u:ZT):Prop:=∃ T,iV w base u T/\dh T 44 M
def qQ (hD:D<=12) (hG:G<=4) (dl:a8) (i:Nat) (a:i<(cW D L G dl).length):((cW D L G dl)[i]).length=44/\∀ x∈(cW D L G dl)[i],x<256:=by
 have b:i<(aT D L G).length:=by rw [di];rw [lO] at a;exact a
 have e:(cW D L G dl)[i]=cI (aT D L G)[i] (dP D dl) 44 (dP D dl).length:=by simp [cW,eR]
 rw [e];exact ⟨fV _ _ _ _,pL _ _ (oC D L G hD hG _ (T4 b)) _ _⟩
theorem K3.rows (h:K3 w base M u) (v:M≠[]) (r:∀ i (d:i<M.length),M[i].length=44/\∀ x∈M[i],x<256):∃ g c,u=Z5 (ZX ⟨g,0,ZY⟩) M.length c/\MM w base g M:=by
 obtain ⟨T,l,k⟩:=h;have f:T.length=M.length:=by simpa using congrArg YH k
 rcases l.shape with ⟨_,q⟩|⟨g,cap,m,n,D,E,o,p,_,_⟩
 . exact absurd (UP (by rw [<- f,q];rfl)) v
 . refine ⟨g,cap,by rw [m,f],n,o,λi d=>?_⟩;have a:i<T.length:=(by omega);have s:=k.at a d;obtain ⟨A,e,F,G,H⟩:=l.row T[i] (T4 a);have b:=p i a;unfold jX at b;rw [s] at b e;obtain ⟨B,C⟩:=r i d;refine ⟨T[i].1,0,M[i].length,b,A,e.lt,λj u z=>?_,B,C⟩;have y:=e.SK;have t:(aI M[i]).toArray[j]?=ZX u:=(by simpa using z);simp [World.cell?,y,t]
def aH.clean (A:aH):Prop:=∀ i,A.lost i=ZV/\∀ b,A.bad i b=ZV
def aH.here (A:aH):Prop:=∀ i,A.lost i=ZV
def aH.clean.here {A:aH} (h:A.clean):A.here:=λi=>(h i).1
def fJ:ZT:=.iface 58 (Z7 Z9 3)
def LsE (A:aH) (er:ZT):Prop:=er=.nilIface\/(er=fJ/\¬ A.clean)
theorem aH.clean.putAt {A:aH} (h:A.clean) (ds:a8) (b:Nat) (f:Nat->bC):(A.putAt ds b f).clean:=λi=>⟨(h i).1,λm=>by show (if _ then ZV else A.bad i m)=ZV;split;rfl;exact (h i).2 m⟩
def Eb (D L G:Nat) (dl:a8) (i:Nat):a8:=(cW D L G dl).getD i []
def shF (D L G:Nat) (dl:a8) (i:Nat):bC:=.shard (Eb D L G dl i)
def zo (b:yY D L G) (dl:a8) {i:Nat} (c:i<D+L+G):(Eb D L G dl i).length=44/\∀ x∈Eb D L G dl i,x<256:=by
 have a:i<(cW D L G dl).length:=by rw [lO];exact c
 have e:Eb D L G dl i=(cW D L G dl)[i]:=by unfold Eb;simp [a]
 rw [e];exact qQ b.d b.g _ i a
def aH.TT (A:aH) (D L G b:Nat) (dl:a8):aH:=A.putAt (YD A.n) b (shF D L G dl)
def P3 (w:ZU) (p:Nat) (A B:aH) (F:aR) (e:ZQ) (w':ZU):Prop:=(∃ er,e=Z3 er/\LsE A er)/\aB w' p B F/\aa F.S w w'
theorem ld {v:Nat} {A:aH} (f:pH w v p D L G ps ho A F) (b:Nat) (j:b<A.nb) (U:ZT) (dl:a8) (O:Bs w U dl) (k0:dl.length<=D*44) :
 ZR ZO 144 #[Z6 (ZX ⟨v,0,ZY⟩),Z7 Z9 b,U] w (P3 w p A (A.TT D L G b dl) F):=by
 obtain ⟨hr,hj,hD,hL,hm,hG,h4,hg⟩:=f.par;have hn:=f.n;have HD:=al O;have o:=lO D L G dl;have h1:=qQ (L:=L) hD hG dl;obtain ⟨M,J⟩:=nM (cW D L G dl);rw [J] at o h1;have t:=au J o;clear J o;have hy:=PH (f.vol.keep (w':=w.drew) rfl) hD U dl (HD.out.mono (TY _ w).drew) k0;obtain ⟨h5,hh⟩:=Hu k0 hj;have P:=λu X h=>DQ D L G hr hj hD hL hm hG h4 u (dP D dl) X h (dW D dl) h5;rw [hh] at P;obtain ⟨_,c1,c2,c3,_⟩:=f.vol.cells;have Y:=au hy P;clear hy P h5 hh;go_enter func144,ntmps144;go_wp2_with fail;go_region_with (first
  | (go_at_call 168;refine Y.out.1.mono ?_;rintro e w1 ⟨u,rfl,hR,j⟩;obtain ⟨_,d1,d2,d3,_⟩:=(f.vol.keep (j.block _ f.vol.lt)).cells;have a:=au hR j;clear hR j)
  | (go_at_call 167;refine (Y.out.2 _ _ a.out.1).mono ?_;rintro e w2 ⟨x,T,rfl,hT,hH,j⟩;have l:=au (show K3 w2 w.heap.size (cW D L G dl) x from ⟨T,hT.weaken a.out.2.size,hH⟩) (show bW w w2 from ((TY _ w).drew).trans (a.out.2.trans (j.mono a.out.2.size)));clear hT hH j))
 all_goals (
  rename ZU=>w1;obtain ⟨H,N⟩:=l.out;rw [t.out.1] at H;have o:=t.out.2;obtain ⟨g,c,rfl,hq⟩:=H.rows (λe=>by rw [e] at o;simp at o;omega) h1;have hs:=f.below N lR;have a:=aE hs hq N;clear H hq hs N o;go_wp2_with fail;refine (nz a.out.1.vol f.par).mono ?_;rintro e w2 ⟨rfl,q⟩;obtain ⟨S,z⟩:=nM (2^(D+L+G)-1);rw [z];have y:ab S=YD A.n:=by rw [<- z,hn];exact oh hg
  have k7:S<65536:=by
   have:2^(D+L+G)<=2^16:=Vq (by decide) hg;omega
  have K:=a.out.1.below q lR;have hp:MM w2 w.heap.size g M:=a.out.2.1.keep q.size (λk _ R=>q.block k R);have Q:=rp K b S j k7 (λi r=>by rw [y] at r;simpa using r) (m:=M.length) (c:=c) hp (λi r=>by have:=t.out.2;rw [y] at r;simp at r;omega) lR (λk R=>f.arr.RU R);rw [y] at Q;have hll:=sY A.lost (YD A.n) (λd O=>by simp at O;omega);have k5:gW A.lost (YD A.n)≠0->¬ A.clean:=λh c=>h (sZ (λi=>(c i).1) _);generalize gW A.lost (YD A.n)=B at *;have l:=a6 Q q z K k5;clear K hp Q q y z k5;go_wp2_with fail;refine l.out.1.mono ?_;rintro e V ⟨rfl,E,I⟩;have hO:aa F.S w V:=(aa.RS (a.out.2.2.trans (l.out.2.1.mono a.out.2.2.size)) _).trans I;have hv:=l.out.2.2.2.1.vol.keep (I.block _ l.out.2.2.2.1.vol.lt f.v);rw [<- t.out.1] at E;obtain ⟨_,Z,g2,g3,_⟩:=hv.cells;have s:=au (show aB V p (A.TT D L G b dl) F from E) hO;clear E I hO hv;by_cases C:B=0
  . subst C;clear Z g2 g3;go_wp2;go_ret;exact ⟨⟨_,rfl,.inl rfl⟩,s.out.1,s.out.2⟩
  . have k6:¬ (B:Int)=0:=(by omega);have k8:((B:Int) != 0)=ZW:=(by simpa using k6);have hz:=kZ D L G B hr hD hL hm hG h4 (by omega) V;have HC:=al (l.out.2.2.2.2 C);clear C;go_wp2_with fail;refine hz.mono ?_;rintro e w4 ⟨bb,rfl,-,hx⟩;have W:=al hx;clear hx hz Z g2 g3;cases bb<;>(
     go_wp2;go_ret;exact ⟨⟨_,rfl,by first|exact .inl rfl|exact .inr ⟨rfl,HC.out⟩⟩,s.out.1.below W.out lR,s.out.2.trans (aa.RS W.out _)⟩))
def bf {xs:List ZT} (h:w.ownsRow base e size v n xs):∃ d f,v=.slice d n f:=by
 rcases h.2 with ⟨b,c⟩|⟨g,cap,cur,a,_⟩
 . exact ⟨ZY,0,by rw [b,c]⟩
 . exact ⟨_,_,a⟩
def bF {xs:List ZT} (h:w.ownsRow base e size v n xs) {k:Nat} (a:v.ownBlock=ZX k):∃ cur,w.heap[k]?=ZX (Z4 cur e (0,0)):=by
 rcases h.2 with ⟨d,_⟩|⟨g,cap,cur,b,_,c,_⟩
 . rw [d] at a;simp [Value.ownBlock] at a
 . rw [b] at a;simp [Value.ownBlock] at a;subst a;exact ⟨cur,c⟩
def bG {t:TypeId} {xs:List ZT} (h:w.ownsRow base e size v n xs) {k:Nat} {cs:Array ZT} (c:w.heap[k]?=ZX (Z4 cs t (0,0))) (b:e≠t):v.ownBlock≠ZX k:=by
 intro q;obtain ⟨cur,a⟩:=bF h q;rw [c] at a;injection a with a;injection a with h1 h2;exact b h2.symm
def bS {xs:List ZT} {S:Nat->Prop} (h:w.ownsRow base e size v n xs) (f:aa S w w') (i:∀ k,v.ownBlock=ZX k->¬ S k):w'.ownsRow base e size v n xs:=by
 refine ⟨h.1,?_⟩;rcases h.2 with d|⟨g,cap,cur,a,c,b,r⟩
 . exact .inl d
 . exact .inr ⟨g,cap,cur,a,c,(f.block g (TX.1 b).1 (i g (by rw [a];rfl))).trans b,r⟩
def Hv {xs:List ZT} (h:w.ownsRow base e size v n xs) (f:∀ k,v.ownBlock=ZX k->w'.heap[k]?=w.heap[k]?):w'.ownsRow base e size v n xs:=by
 refine ⟨h.1,?_⟩;rcases h.2 with d|⟨g,cap,cur,a,b,c,r⟩
 . exact .inl d
 . exact .inr ⟨g,cap,cur,a,b,(f g (by rw [a];rfl)).trans c,r⟩
def P4 {xs:List ZT} (h:w.ownsRow base e size v n xs) {k:Nat} (b:v.ownBlock=ZX k):k<w.heap.size:=by
 obtain ⟨cur,a⟩:=bF h b;exact (TX.1 a).1
def Ny (a:x<256):gm 1 x=x:=by rw [iW (by decide) a,gI x a]
theorem K4 (D i t:Nat) (a:i<D):(dN D i).getD t 0=if t=i then 1 else 0:=by
 unfold dN;rw [T5,XP];by_cases e:t=i
 . subst e;simp [a]
 . rw [if_neg (λq=>e q.symm),if_neg e,Wq];split<;>rfl
def BN (D i q:Nat) (c:i<D) (Dt:List a8) (b:(Dt.getD i []).getD q 0<256):∀ t,Ni (dN D i) Dt t q=if i<t then (Dt.getD i []).getD q 0 else 0
 | 0=>by rw [if_neg (by omega)];rfl
 | t+1=>by
  show Ni (dN D i) Dt t q^^^gm ((dN D i).getD t 0) ((Dt.getD t []).getD q 0)=_;rw [BN D i q c Dt b t,K4 D i t c];by_cases e:t=i
  . subst e;rw [if_neg (by omega),if_pos rfl,Ny b,if_pos (by omega),VL]
  . rw [if_neg e,cT,U8];by_cases a:i<t
    . rw [if_pos a,if_pos (by omega)]
    . rw [if_neg a,if_neg (by omega)]
def Hw (D L G i:Nat) (b:i<D):∃ h:i<(aT D L G).length,(aT D L G)[i]=dN D i:=by
 have hl:i<(aT D L G).length:=by rw [di];omega
 refine ⟨hl,?_⟩;have a:(aT D L G)[i]?=ZX (dN D i):=by
  unfold aT;rw [Vx (by simp;omega),Vx (by simp;omega)];simp [b]
 rw [Ua hl] at a;exact UI a
def BO (a:∀ x∈dl,x<256):∀ x∈iL D dl,x<256:=by
 intro x h;unfold iL at h;rcases Uf.1 h with q|q
 . exact a x q
 . rw [VG q];decide
theorem BP (a:i<D) (hl:dl.length<=D*44) (j:∀ x∈dl,x<256):(cW D L G dl).getD i []=((iL D dl).drop (i*44)).take 44:=by
 obtain ⟨h,g⟩:=Hw D L G i a;have e:(cW D L G dl).getD i []=cI (aT D L G)[i] (dP D dl) 44 (dP D dl).length:=by simp [cW,eR,h]
 rw [e,g,dW];have hr:(dP D dl).getD i []=((iL D dl).drop (i*44)).take 44:=by simp [dP,a]
 have d:=mu hl a;unfold cI;apply Vh
 . simp [d]
 . intro q k b;have c:((dP D dl).getD i []).getD q 0=(((iL D dl).drop (i*44)).take 44)[q]:=(by rw [hr,T5,Ua b];rfl);have f:((dP D dl).getD i []).getD q 0<256:=(by rw [c];exact BO j _ (US (UN (T4 b))));rw [Ve,List.getElem_range,BN D i q a _ f,if_pos a,c]
def wY:∀ m,((YD m).map λi=>((iL D dl).drop (i*44)).take 44).flatten=(iL D dl).take (44*m)
 | 0=>by simp
 | m+1=>by
  rw [Vs,Uw,abb,wY m,show 44*(m+1)=44*m+44 by omega,List.take_add];simp [Wl]
def K5 (h:size<=dl.length):(iL D dl).take size=dl.take size:=by
 unfold iL;rw [VN h]
theorem Hx (f:m=(size+43)/44) (d:m<=D) (hl:dl.length<=D*44) (c:∀ x∈dl,x<256) (b:size<=dl.length):((YD m).map λi=>(cW D L G dl).getD i []).flatten.take size=dl.take size:=by
 have e:((YD m).map λi=>(cW D L G dl).getD i [])=(YD m).map λi=>((iL D dl).drop (i*44)).take 44:=by
  apply YE;intro i a;exact BP (by have:=Uy.1 a;omega) hl c
 rw [e,wY,Yx,show min size (44*m)=size by omega,K5 b]
def BQ (c:∀ x∈dl,x<256):(dP D dl).length=D/\∀ l∈dP D dl,∀ x∈l,x<256:=by
 refine ⟨dW D dl,λl hl x a=>?_⟩;obtain ⟨i,b,rfl⟩:=U0 hl;rw [oi b] at a;exact BO c x (US (UN a))
def FK (nb:Nat):∀ (l:a8) (s:(Nat->Bool)×Bool),(∀ x∈l,2<=x/\x<nb/\s.1 x=ZV)->l.Nodup->(l.foldl (jr nb) s).2=s.2/\∀ x,(l.foldl (jr nb) s).1 x=(s.1 x || decide (x∈l))
 | [],s,_,_=>⟨rfl,λx=>by simp⟩
 | y::l,s,h,hn=>by
  obtain ⟨o,p,g⟩:=h y (UZ ..);obtain ⟨i,k⟩:=UM.1 hn;have e:jr nb s y=(λj=>if j=y then ZW else s.1 j,s.2):=by
   unfold jr;rw [if_neg (λq=>by rcases q with q|q|q;omega;omega;rw [g] at q;cases q)]
  rw [Wy,e];obtain ⟨m,n⟩:=FK nb l (λj=>if j=y then ZW else s.1 j,s.2) (λx f=>by
   obtain ⟨a,b,c⟩:=h x (UJ _ f);have d:¬ x=y:=λq=>i (by rw [<- q];exact f);exact ⟨a,b,by show (if x=y then ZW else s.1 x)=ZV;rw [if_neg d];exact c⟩) k
  refine ⟨m,λx=>?_⟩;rw [n];show ((if x=y then ZW else s.1 x) || decide (x∈l))=(s.1 x || decide (x∈y::l));by_cases d:x=y
  . subst d;simp
  . rw [if_neg d];simp [d]
def K6 (hn:l.Nodup) (a:∀ x∈l,2<=x/\x<nb):(tk nb l).2=ZW/\∀ x,(tk nb l).1 x=decide (x∈l):=by
 obtain ⟨c,d⟩:=FK nb l (λ_=>ZV,ZW) (λx b=>⟨(a x b).1,(a x b).2,rfl⟩) hn;exact ⟨c,λx=>by rw [show (tk nb l).1 x=_ from d x];rfl⟩
def pV {T:Nat->Bool}:x∈aX T k↔x<k/\2<=x/\T x=ZV:=by
 unfold aX;rw [Vz,Uy];simp
def qR (T:Nat->Bool) (k:Nat):(aX T k).Nodup:=(YL).filter _
def jg (hn:l.Nodup) (d:∀ x∈l,2<=x/\x<nb) {x:Nat} (e:x∈aX (tk nb l).1 nb):(2<=x/\x<nb)/\x∉l:=by
 obtain ⟨b,c,a⟩:=pV.1 e;rw [(K6 hn d).2] at a;exact ⟨⟨c,b⟩,of_decide_eq_false a⟩
def kK (hn:l.Nodup) (a:∀ x∈l,2<=x/\x<nb) (c:Nat):(((aX (tk nb l).1 nb).take c)++l).Nodup/\∀ x∈((aX (tk nb l).1 nb).take c)++l,2<=x/\x<nb:=by
 refine ⟨UU.2 ⟨(qR _ _).sublist (List.take_sublist _ _),hn,λx b y d e=>?_⟩,λx b=>?_⟩
 . subst e;exact (jg hn a (UN b)).2 d
 . rcases Uf.1 b with h|h
   . exact (jg hn a (UN h)).1
   . exact a x h
theorem lP (hn:l.Nodup) (a:∀ x∈l,2<=x/\x<nb):(aX (tk nb l).1 nb).length+l.length+2=max 2 nb:=by
 by_cases k:2<=nb
 . have j:((aX (tk nb l).1 nb)++l++[0,1]).Perm (YD nb):=by
    refine (List.perm_ext_iff_of_nodup ?_ YL).2 λx=>?_
    . refine UU.2 ⟨UU.2 ⟨qR _ _,hn,λx b y c e=>?_⟩,by decide,λx b y c e=>?_⟩
      . subst e;exact (jg hn a b).2 c
      . subst e;have f:2<=x:=by
         rcases Uf.1 b with h|h
         . exact (jg hn a h).1.1
         . exact (a x h).1
        simp at c;omega
    . rw [Uy,Uf,Uf,pV];constructor
      . rintro ((h|h)|h)
        . exact h.1
        . exact (a x h).2
        . simp at h;omega
      . intro h;by_cases f:2<=x
        . by_cases d:x∈l
          . exact .inl (.inr d)
          . exact .inl (.inl ⟨h,f,by rw [(K6 hn a).2];exact decide_eq_false d⟩)
        . exact .inr (by simp;omega)
   have:=j.length_eq;simp at this;omega
 . have g:l=[]:=by
    cases l with
    | nil=>rfl
    | cons x l=>have:=a x (UZ ..);omega
   subst g;have i:aX (tk nb []).1 nb=[]:=by
    rw [abi];intro x b;have:=pV.1 b;omega
   rw [i];simp;omega
section
attribute [local go_sem] Oper.semAt_some
def pW (K:Nat->Prop) (n b1:Nat) (v:ZT) (os:List Ob) (w:ZU) (i:b1<w.heap.size) (b:w.cell? ⟨b1,0,ZY⟩=ZX v) (j:eY K w v os) :
 SeqStopsK Fence.wide n ZO 152 #[Z6 (ZX ⟨b1,0,ZY⟩)] pB (eB K) (λu=>u=ak os) (λpre=>pre<+:ak os) (ak os).length w:=λl J d W c m _ o f=>by
 refine (sL K n l b1 v os J d (λpre A B h a=>m pre A B ZY h ⟨a.os,a.tape,a.output,a.size,λk q _=>a.block k q⟩ (λr e=>by cases e)) (ak os).length o [] (by simp) W ((c.cell (p:=⟨b1,0,ZY⟩) i).trans b) (j.keep (eB.RT c)) f).mono ?_;rintro e W' ⟨b,g⟩;refine ⟨b,?_⟩;rcases g with h|⟨pre,s,t⟩
 . exact .inl ⟨_,rfl,by simpa using h⟩
 . exact .inr ⟨pre,s,by simpa using t⟩
structure Rs (w:ZU) (B:Nat) (pre:a8) (X:ZU):Prop where
 box:ZP X w.heap.size 3 (Z7 Z9 (pre.length:Nat))
 below:bW w X
 size:B<=X.heap.size
def Rs.Ti (g:w.heap.size<B):OwnFrom B (Rs w B):=by
 rintro pre X Y row ⟨d,b,f⟩ a hr;have c:∀ k,k<B->Y.heap[k]?=X.heap[k]?:=λk c=>a.block k (by omega) (λe=>by have:=(hr k e.symm).1;omega);exact ⟨(c _ (by omega)).trans d,b.grown a b.size (λk e=>by have:=(hr k e).1;omega),TW f a.size⟩
theorem BR {v:Nat} {A:aH} (j:bh w ar v D' L' G' t f nn pg ob off) (m:bk w v p D L G ps ho) (h:aB w p A F) (hn:0<A.n) (os:List Ob) (u:eY (λk=>k<w.heap.size) w ob os) (hv:(ak os).length<=1000000) (count pages:Nat) (he:count<=1000000) (hg:pages<=1000000) :
 ZR ZO 105 #[Z6 (ZX ⟨ar,0,ZY⟩),Z7 Z9 (count:Nat),Z7 Z9 (pages:Nat)] w λe w'=>e=Z3 (Z2 (decide ((ak os).length+count+2*pages+2<=A.nb)))/\bW w w':=by
 obtain ⟨n,HN⟩:∃ n:Nat,Hid (9<=n):=⟨9,TV _⟩;obtain ⟨c0,_,_,_,P⟩:=j.cells;obtain ⟨d,c,rfl,hol,_⟩:=id u;have H:=a5 j m h u;clear j m h u;refine (Vk (n:=n)).1 ?_;refine V6 func105 rfl trivial ?_ rfl;simp only [ntmps105,UF,Uv,UQ,YF,YG,Va,Vb,Vc,Vd,Uk,UL];have g:bW w (w.alloc (Z4 #[Z7 Z9 0] 3)):=bA w _;have Q:=(g.cell (p:=⟨ar,8,ZY⟩) H.out.1.lt).trans P;have r:ZP (w.alloc (Z4 #[Z7 Z9 0] 3)) w.heap.size 3 (Z7 Z9 0):=UA w _ _;have y:(w.alloc (Z4 #[Z7 Z9 0] 3)).heap.size=w.heap.size+1:=by simp
 have I:=aE g r y;clear g r y;gi_wp2;refine cV (lF d os.length c (w.alloc (Z4 #[Z7 Z9 0] 3))) ?_;rintro e w' ⟨rfl,rfl⟩;obtain ⟨w1,hy⟩:=nM (w.alloc (Z4 #[Z7 Z9 0] 3));rw [hy] at I Q ⊢;have C:bW w1 (w1.alloc (Z4 #[.slice d os.length c] 113)):=bA w1 _;have z:(w1.alloc (Z4 #[.slice d os.length c] 113)).cell? ⟨w1.heap.size,0,ZY⟩=ZX (.slice d os.length c):=(UA w1 _ _).cell;have N:(w1.alloc (Z4 #[.slice d os.length c] 113)).heap.size=w1.heap.size+1:=by simp
 obtain ⟨w2,hz⟩:=nM (w1.alloc (Z4 #[.slice d os.length c] 113));rw [hz] at C z N ⊢;obtain ⟨g,r,y⟩:=I.out;have B:bW w w2:=g.trans (C.mono g.size);have V:Rs w w2.heap.size [] w2:=⟨(C.block _ (by omega)).trans r,B,TV _⟩;have Z:eY (λk=>k<w.heap.size) w2 (.slice d os.length c) os:=H.out.2.2.2.keep (eB.RT B);have hs:=pW (λk=>k<w.heap.size) (n-1) w1.heap.size _ os w2 (by omega) z Z;have O:=aE V hs B;have T:w1.heap.size=w.heap.size+1:=y;have U:w2.heap.size=w.heap.size+2:=by omega
 have HZ:=au T U;clear V hs B Z g r y C z N hz hy Q T U I P;gi_wp2;obtain ⟨kc,N⟩:=HZ.out;refine V7 rfl (by have:=HN.out;omega) (gf:=152) (lb:=#[Z6 (ZX ⟨w1.heap.size,0,ZY⟩)]) rfl trivial (Vl func152 (by kernel_rfl) rfl)
  O.out.2.1 (λh k=>h.trans k) (λW l o o' hl _ _ _=>⟨by simp [World.putObj],λk _ E=>UV (by omega)⟩) (TY _ _) (λ_=>rfl)
  (Rs w w2.heap.size) (λ_ _ _=>False) (Rs.Ti (by omega)) (λ_ _ _ _ _ h _ _=>h.elim) O.out.1
  (λx=>{ tmps:=#[Z6 (ZX ⟨ar,0,ZY⟩),Z7 Z9 (count:Nat),Z7 Z9 (pages:Nat),ZZ,ZZ,ZZ,Z2 ZV,Z6 (ZX ⟨w.heap.size,0,ZY⟩),Z6 (ZX ⟨ar,0,ZY⟩),Z6 (ZX ⟨ar,0,ZY⟩),Z6 (ZX ⟨ar,8,ZY⟩),.slice d os.length c,.func (.func 152) #[] #[Z6 (ZX ⟨w1.heap.size,0,ZY⟩)],Z7 Z9 (x:Nat),ZZ,ZZ,ZZ,ZZ,ZZ,ZZ,ZZ,ZZ,ZZ,ZZ,ZZ,ZZ,ZZ,ZZ,ZZ],defers:=[] }) ?assign ?body ?done ?stop
 case assign=>
  intro l2 x X Kk hK;unfold pB;gi_wp2;simpa using hK
 case body=>
  rintro l2 pre x X b S;have c1:=b.box.cell;have f1:=b.box.frozen;obtain ⟨pl,s⟩:=nM (pre.length);rw [s] at c1 S;have k9:pl<=1000000:=by omega
  have i:=au b s;clear b s S hv hol;gi_wp2;obtain ⟨b,s⟩:=i.out;have h6:((pre++[x]).length:Nat)=pl+1:=by rw [T8,s];rfl
  have hr:∀ k,k≠w.heap.size->(X.setCell ⟨w.heap.size,0,ZY⟩ (Z7 Z9 ((pl:Int)+1))).heap[k]?=X.heap[k]?:=λk E=>Ud _ _ _ _ E;refine ⟨⟨by simp [World.setCell],λk o E ho _=>?_⟩,⟨by simp [World.setCell],λk E hK=>?_⟩,?_,?_,?_⟩
  . exact (hr k (by omega)).trans ho
  . exact hr k (by omega)
  . rw [h6];exact b.box.set _
  . exact WU (p:=⟨w.heap.size,0,ZY⟩) b.below lR _
  . have:=b.size;simp [World.setCell];omega
 case done=>
  rintro D1 xs X k6 k0 b hK;have hj:xs=ak os:=k0;subst hj;have c1:=b.box.cell;obtain ⟨xl,M⟩:=nM ((ak os).length);rw [M] at c1 hv;have HL:=al M;clear M;have q:=b.below;obtain ⟨j,m,h,u⟩:=H.out;have cX:=(q.cell (p:=⟨ar,0,ZY⟩) j.lt).trans c0;have R:∀ W,bW w W->ZR ZO 142 #[Z6 (ZX ⟨v,0,ZY⟩)] W λe w'=>e=Z3 (Z7 Z9 A.nb)/\w'=W:=λW Y=>jq (m.keep (Y.block _ m.lt)) (h.below Y lR) hn;have i:=a5 b hK R q;obtain ⟨nb,J⟩:=nM (A.nb);have k8:=h.SC.2;rw [J] at i k8;have k5:=al J;clear J;clear b hK k0 R q j m h u c0;gi_wp2;have k1:IntKind.i64.wrap ((xl:Int)+(count:Int))=(xl:Int)+(count:Int):=by rw [Ut];omega
  have k2:IntKind.i64.wrap (2*(pages:Int))=2*(pages:Int):=by rw [Ut];omega
  have k3:IntKind.i64.wrap ((xl:Int)+(count:Int)+2*(pages:Int))=(xl:Int)+(count:Int)+2*(pages:Int):=by rw [Ut];omega
  have k4:IntKind.i64.wrap ((nb:Int)-2)=(nb:Int)-2:=by rw [Ut];omega
  refine wpIn_region_quiet_lit rfl (by kernel_rfl) (by kernel_rfl) ?_;repeat (quiet_step_in (fail))
  refine wpQuietIn_step (by go_simp;intros;trivial) (λK hK=>?_);go_simp;refine ⟨Z7 Z9 (nb:Nat),λa=>⟨λh=>(by cases h),CallsIn.quiet_of_same (Vk.2 (i.out.2.2.1 _ (i.out.2.2.2.trans ⟨rfl,rfl,rfl,TV _,λ_ _=>rfl⟩)))⟩,hK _ ?_⟩;clear hK K;repeat (quiet_step_in (fail))
  refine wpQuietIn_nil ?_;intro _ kb;obtain ⟨nq,rfl⟩:=kb;gi_wp2;obtain ⟨b,hK,_,q⟩:=i.out;have hq:(X.drewN nq).heap[D1]?=ZX (.deferred (ZX [])):=hK;have k7:bW w (X.drewN nq):=q.trans ⟨rfl,rfl,rfl,TV _,λ_ _=>rfl⟩;refine FD (t:=6) (x:=Z2 (decide ((xl:Int)+(count:Int)+2*(pages:Int)<=(nb:Int)-2))) results105 rfl rfl hq ⟨?_,?_⟩
  . rw [HL.out,k5.out];congr 2;exact decide_eq_decide.2 ⟨λh=>by omega,λh=>by omega⟩
  . exact Below.RV k7 (by omega) (TX.1 hq).1 _
 case stop=>
  rintro D1 z pre X k6 ka hx hK;exact hx.elim
end
theorem wZ {B':Nat} (h:aD W B C) (a:Bx W B' v):B≠B':=by
 rintro rfl;obtain ⟨t,a⟩:=a;have e:=h.heap.symm.trans a;simp only [UO,Vm] at e;have:=congrArg Array.size e.1;rw [b8] at this;simp at this
noncomputable def RF1:Array Oper:=((Tryz.f203.body.bind (Jn · 1))).getD #[]
def Ru:List (Op×Option Nat×a8):=[(.load 326 (Z1 2),ZX 11,[]),(.load 131 (Z1 3),ZX 12,[]),(.call { callee:=.value (.func 209),args:=#[Z1 12],argTypes:=#[131] },ZX 13,[1]),
 (.alloc 326,ZX 5,[]),(.alloc 3,ZX 6,[]),(.store 326 (Z1 5) (Z1 11),ZY,[3,0,2,0,3,4]),(.store 3 (Z1 6) (Z1 13),ZY,[4,2,5,0,1,2,3,4,5])]
def Hy:aL RF1 5 14 Ru:=bw (by kernel_rfl) (by kernel_rfl)
def Nz (n t:Nat) (w:ZU) (b:Nat):Prop:=n<=b/\∃ c,w.heap[b]?=ZX (Z4 c t (0,0))
def iy {t':Nat} {c:Array ZT} (h:Nz n t' (w.alloc (Z4 c t)) b):Nz n t' w b\/(b=w.heap.size/\t'=t):=by
 obtain ⟨f,d,a⟩:=h;by_cases e:b<w.heap.size
 . exact .inl ⟨f,d,(Ux _ _ _ e).symm.trans a⟩
 . have hl:=(TX.1 a).1;rw [Uq] at hl;obtain rfl:b=w.heap.size:=(by omega);rw [Uc] at a;cases a;exact .inr ⟨rfl,rfl⟩
def Rv (w:ZU) (D:Nat->Bool) (w':ZU):Prop:=bW w w'/\(∀ t b b',Nz w.heap.size t w' b->Nz w.heap.size t w' b'->b=b')/\(D 3=ZV->∀ b,¬ Nz w.heap.size 326 w' b)/\(D 4=ZV->∀ b,¬ Nz w.heap.size 3 w' b)
def zq {D:Nat->Bool} (h:Rv w D w') (i:Nat) (a:3≠i) (b:4≠i):Rv w (fI D i) w':=⟨h.1,h.2.1,by rw [bZ a];exact h.2.2.1,by rw [bZ b];exact h.2.2.2⟩
def FL {D:Nat->Bool} (h:Rv w D w') (i:Nat) (d:3≠i) (f:4≠i) (g:bW w w'') (a:∀ t b,Nz w.heap.size t w'' b->Nz w.heap.size t w' b):Rv w (fI D i) w'':=
 ⟨g,λt b c q j=>h.2.1 t b c (a t b q) (a t c j),λe b q=>h.2.2.1 (by rwa [bZ d] at e) b (a _ b q),λe b q=>h.2.2.2 (by rwa [bZ f] at e) b (a _ b q)⟩
def NA (w:ZU) (kept:Nat) (C:Ck) (i:Nat) (u:ZT) (w':ZU):Prop:=match i with
 | 0=>u=.agg (aV C)
 | 1=>u=Z7 Z8 (kept:Int)
 | 2=>u=Z7 Z9 ((ab kept).length:Nat)
 | 3=>∃ b,u=Z6 (ZX ⟨b,0,ZY⟩)/\w.heap.size<=b/\∃ Z,aD w' b Z
 | 4=>∃ b,u=Z6 (ZX ⟨b,0,ZY⟩)/\w.heap.size<=b/\∃ z,w'.heap[b]?=ZX (Z4 #[z] 3 (0,0))
 | 5=>∃ b,w.heap.size<=b/\aD w' b C
 | 6=>∃ b,w.heap.size<=b/\w'.heap[b]?=ZX (Z4 #[Z7 Z9 ((ab kept).length:Nat)] 3 (0,0))
 | _=>True
def BS (a:∀ b,w.heap.size<=b->b<w'.heap.size->w''.heap[b]?=w'.heap[b]?):∀ j u,NA w kept C j u w'->NA w kept C j u w'':=λj u h=>by
 match j,h with
 | 0,h|1,h|2,h=>exact h
 | 3,⟨b,h1,h2,Z,h3⟩=>exact ⟨b,h1,h2,Z,h3.keep (a b h2 h3.lt)⟩
 | 4,⟨b,h1,h2,z,h3⟩=>exact ⟨b,h1,h2,z,(a b h2 (TX.1 h3).1).trans h3⟩
 | 5,⟨b,h2,h3⟩=>exact ⟨b,h2,h3.keep (a b h2 h3.lt)⟩
 | 6,⟨b,h2,h3⟩=>exact ⟨b,h2,(a b h2 (TX.1 h3).1).trans h3⟩
 | _+7,_=>trivial
theorem Hz (B2 S kept:Nat) (C:Ck) (hR:RF1=ops) (sz:a.tmps.size=35) (he:kept<65536)
 (i2:a.eval (Z1 2)=Z6 (ZX ⟨B2,0,ZY⟩)) (i3:a.eval (Z1 3)=Z6 (ZX ⟨S,0,ZY⟩)) (hh:aD w B2 C) (ha:Bx w S (Z7 Z8 (kept:Int)))
 (h:∀ g w' T U,DV 5 14 a g->g.eval (Z1 5)=Z6 (ZX ⟨T,0,ZY⟩)->g.eval (Z1 6)=Z6 (ZX ⟨U,0,ZY⟩)->w.heap.size<=T->w.heap.size<=U->aD w' T C->Bx w' U (Z7 Z9 ((ab kept).length:Nat))->bW w w'->Q .normal g w') :
 (Code.region 1 ops ZW).wpIn Fence.wide n ZO Q a w:=by
 subst hR;refine bV (by kernel_rfl) Hy a w (by omega) (NA w kept C) (Rv w) ?_ ?_ ?_
 . have hf:∀ t b,¬ Nz w.heap.size t w.drew b:=λt b ⟨P,c,F⟩=>by
    have:b<w.heap.size:=(TX.1 F).1;omega
   exact ⟨(TY _ w).drew,λt b _ q=>absurd q (hf t b),λ_ b=>hf _ b,λ_ b=>hf _ b⟩
 . intro j y;match j,y with
   | 0,_=>
    intro o g w' D M ho B m x I A d i;exact fA (w':=w') (v:=.agg (aV C)) (by (conv at ho=>rhs;whnf);simp [execOp,ho,(m.slot 2 (by omega)).trans i2,mx (hh.mono d.1 hh.lt),Result.andThen]) (by rw [ho];intro c h;cases h) B ⟨zq d _ (by decide) (by decide),rfl,kq⟩
   | 1,_=>
    intro o g w' D M ho B m x I A d i;have cs:=(ha.keep (d.1.block S ha.lt)).cell;exact fA (v:=Z7 Z8 (kept:Int)) (by (conv at ho=>rhs;whnf);simp only [execOp,ho,(m.slot 3 (by omega)).trans i3];go_simp) (by rw [ho];intro c h;cases h) B ⟨zq d _ (by decide) (by decide),rfl,kq⟩
   | 2,_=>
    intro o g w' D M ho B m x I A d i;have s0:g.eval (Z1 12)=Z7 Z8 (kept:Int):=i 1 (A 1 (by decide));refine BA (f:=209) (args:=#[Z7 Z8 (kept:Int)]) (w1:=w') (by have sf:g.eval (.func 209)=.func (.func 209) #[] #[]:=rfl;generalize g.eval=ev at s0 sf ⊢;(conv at ho=>rhs;whnf);simp [execOp,ho,Ru,resolve,invoke,s0,sf,go_sem]) (by rw [ho];intro c h;cases h) B (AN kept he w') ?_;rintro e w'' ⟨rfl,rfl⟩;exact ⟨_,rfl,zq d _ (by decide) (by decide),rfl,kq⟩
   | 3,_=>
    intro o g w' D M ho B m x I A d i;have E:=zeroCk w';have Y:=(TY _ w').alloc lR (Z4 (aV dJ) 326);refine fA (v:=Z6 (ZX ⟨w'.heap.size,0,ZY⟩)) (w':=w'.alloc (Z4 (aV dJ) 326)) (by (conv at ho=>rhs;whnf);simp only [execOp,ho];go_simp) (by rw [ho];intro c h;cases h) B ⟨⟨d.1.alloc d.1.size _,λt b G q H=>?_,nofun,λe b q=>?_⟩,⟨_,rfl,d.1.size,dJ,aD.new w' dJ⟩,λj u _=>BS (λb _ X=>Y.block b X) j u⟩
    . rcases iy q with q|⟨rfl,rfl⟩<;>rcases iy H with H|⟨rfl,e⟩
      . exact d.2.1 t b G q H
      . subst e;exact absurd q (d.2.2.1 x b)
      . exact absurd H (d.2.2.1 x G)
      . rfl
    . rcases iy q with q|⟨_,e⟩
      . exact d.2.2.2 (by rwa [bZ (by decide)] at e) b q
      . cases e
   | 4,_=>
    intro o g w' D M ho B m x I A d i;have Y:=(TY _ w').alloc lR (Z4 #[Z7 Z9 0] 3);refine fA (v:=Z6 (ZX ⟨w'.heap.size,0,ZY⟩)) (w':=w'.alloc (Z4 #[Z7 Z9 0] 3)) (by (conv at ho=>rhs;whnf);simp only [execOp,ho];go_simp) (by rw [ho];intro c h;cases h) B ⟨⟨d.1.alloc d.1.size _,λt b G q H=>?_,λe b q=>?_,nofun⟩,⟨_,rfl,d.1.size,_,Uc _ _⟩,λj u _=>BS (λb _ X=>Y.block b X) j u⟩
    . rcases iy q with q|⟨rfl,rfl⟩<;>rcases iy H with H|⟨rfl,e⟩
      . exact d.2.1 t b G q H
      . subst e;exact absurd q (d.2.2.2 x b)
      . exact absurd H (d.2.2.2 x G)
      . rfl
    . rcases iy q with q|⟨_,e⟩
      . exact d.2.2.1 (by rwa [bZ (by decide)] at e) b q
      . cases e
   | 5,_=>
    intro o g w' D M ho B m x I A d i;obtain ⟨r,V,N,Z,K⟩:NA w kept C 3 (g.eval (Z1 5)) w':=i 3 (A 3 (by decide));have J:aD (w'.setRow r (aV C)) r C:=K.setRow C;have L:∀ k,k≠r->k<w'.heap.size->(w'.setRow r (aV C)).heap[k]?=w'.heap[k]?:=λk m hl=>(aN w' r (aV C)).block k hl (λe=>m (by cases e;rfl));have hm:(w'.setRow r (aV C)).heap.size=w'.heap.size:=(by simp [World.setRow]);refine Bz (w':=w'.setRow r (aV C)) (by (conv at ho=>rhs;whnf);simp [execOp,ho,V,show g.eval (Z1 11)=.agg (aV C) from i 0 (A 0 (by decide)),nv C K,Result.andThen]) (by rw [ho];intro c h;cases h) ⟨FL d _ (by decide) (by decide) (d.1.grown (aN w' r (aV C)) d.1.size (λk e=>by cases e;exact N)) λt b ⟨P,c,F⟩=>?_,⟨r,N,J⟩,λj u y q=>?_⟩
    . by_cases e:b=r
      . subst e;rw [J.heap] at F;cases F;exact ⟨P,_,K.heap⟩
      . exact ⟨P,c,(L b e (by rw [<- hm];exact (TX.1 F).1)).symm.trans F⟩
    . match j,y,q with
      | 0,_,q|1,_,q|2,_,q=>exact q
      | 3,_,⟨b,h1,h2,Z',h3⟩=>
       obtain rfl:b=r:=d.2.1 _ b r ⟨h2,_,h3.heap⟩ ⟨N,_,K.heap⟩;exact ⟨b,h1,h2,C,J⟩
      | 4,_,⟨b,h1,h2,z,h3⟩=>exact ⟨b,h1,h2,z,(L b (λe=>by subst e;rw [K.heap] at h3;cases h3) (TX.1 h3).1).trans h3⟩
      | 5,y,_=>rw [x] at y;cases y
      | 6,y,_=>exact nomatch x.symm.trans ((I 6 y).2 5 (by decide))
      | _+7,_,_=>trivial
   | 6,_=>
    intro o g w' D M ho B m x I A d i;obtain ⟨s,W,O,z,E⟩:NA w kept C 4 (g.eval (Z1 6)) w':=i 4 (A 4 (by decide));have cc:w'.cell? ⟨s,0,ZY⟩=ZX z:=(by simp [World.cell?,E]);have ff:w'.frozen? ⟨s,0,ZY⟩=ZV:=(by simp [World.frozen?,E]);have J:(w'.setCell ⟨s,0,ZY⟩ (Z7 Z9 ((ab kept).length:Nat))).heap[s]?=ZX (Z4 #[Z7 Z9 ((ab kept).length:Nat)] 3 (0,0)):=(by simp [World.setCell,VH,E]);have L:∀ k,k≠s->(w'.setCell ⟨s,0,ZY⟩ (Z7 Z9 ((ab kept).length:Nat))).heap[k]?=w'.heap[k]?:=λk m=>Ud _ _ _ _ m;refine Bz (w':=w'.setCell ⟨s,0,ZY⟩ (Z7 Z9 ((ab kept).length:Nat))) (by (conv at ho=>rhs;whnf);simp only [execOp,ho,W,show g.eval (Z1 13)=Z7 Z9 ((ab kept).length:Nat) from i 2 (A 2 (by decide))];go_simp) (by rw [ho];intro c h;cases h) ⟨FL d _ (by decide) (by decide) (d.1.setCell (p:=⟨s,0,ZY⟩) O _) λt b ⟨P,c,F⟩=>?_,⟨s,O,J⟩,λj u y q=>?_⟩
    . by_cases e:b=s
      . subst e;rw [J] at F;cases F;exact ⟨P,_,E⟩
      . exact ⟨P,c,(L b e).symm.trans F⟩
    . match j,y,q with
      | 0,_,q|1,_,q|2,_,q=>exact q
      | 3,_,⟨b,h1,h2,Z',h3⟩=>exact ⟨b,h1,h2,Z',h3.keep (L b (λe=>by subst e;have R:=h3.heap;rw [E] at R;cases R))⟩
      | 4,_,⟨b,h1,h2,z',h3⟩=>
       obtain rfl:b=s:=d.2.1 _ b s ⟨h2,_,h3⟩ ⟨O,_,E⟩;exact ⟨b,h1,h2,_,J⟩
      | 5,_,⟨b,h2,h3⟩=>exact ⟨b,h2,h3.keep (L b (λe=>by subst e;have R:=h3.heap;rw [E] at R;cases R))⟩
      | 6,y,_=>rw [x] at y;cases y
      | _+7,_,_=>trivial
 . rintro g w' m _ ⟨D,hi,d⟩ i;obtain ⟨r,V,N,Z,K⟩:NA w kept C 3 (g.eval (Z1 5)) w':=i 3 (by decide);obtain ⟨s,W,O,z,E⟩:NA w kept C 4 (g.eval (Z1 6)) w':=i 4 (by decide);obtain ⟨b,l,hC⟩:NA w kept C 5 ZZ w':=i 5 (by decide);obtain ⟨G,l',hM⟩:NA w kept C 6 ZZ w':=i 6 (by decide);obtain rfl:b=r:=d.2.1 _ b r ⟨l,_,hC.heap⟩ ⟨N,_,K.heap⟩;obtain rfl:G=s:=d.2.1 _ G s ⟨l',_,hM⟩ ⟨O,_,E⟩;exact h g w' b G ⟨m.size,m.defers,m.slot⟩ V W N O hC ⟨_,hM⟩ d.1
noncomputable def Rw:Array Oper:=((Tryz.f203.body.bind (Jn · 11))).getD #[]
def Rx:List (Op×Option Nat×a8):=[(.load 326 (Z1 8),ZX 32,[]),(.load 3 (Z1 9),ZX 33,[]),(.store 326 (Z1 5) (Z1 32),ZY,[0,0]),(.store 3 (Z1 6) (Z1 33),ZY,[1,2,0,1,2])]
def Ec:aL Rw 32 34 Rx:=bw (by kernel_rfl) (by kernel_rfl)
theorem Ed {l:Nat} (p q A y n:Nat) (C H:Ck) (v:ZT) (R:Rw=ops) (sz:a.tmps.size=35)
 (V:a.eval (Z1 5)=Z6 (ZX ⟨p,0,ZY⟩)) (X:a.eval (Z1 6)=Z6 (ZX ⟨q,0,ZY⟩)) (Y:a.eval (Z1 8)=Z6 (ZX ⟨A,0,ZY⟩)) (Z:a.eval (Z1 9)=Z6 (ZX ⟨y,0,ZY⟩))
 (P:aD w A C) (z:Bx w y (Z7 Z9 (n:Int))) (E:aD w p H) (F:Bx w q v)
 (h:∀ g,DV 32 34 a g->Q .normal g ((w.drew.setRow p (aV C)).setCell ⟨q,0,ZY⟩ (Z7 Z9 (n:Int)))) :
 (Code.region 11 ops ZW).wpIn (Fence.wide.inRound l) m ZO Q a w:=by
 subst R;obtain ⟨W,K⟩:=nM (w.drew.setRow p (aV C));have J:∀ k,k≠p->k<w.heap.size->W.heap[k]?=w.heap[k]?:=λk f S=>by rw [<- K];exact (aN w.drew p (aV C)).block k S (λe=>f (by cases e;rfl))
 have L:=F.keep (J q (wZ E F).symm F.lt);have cc:=L.cell;have ff:=L.frozen;have N:∀ b:Bool,(if b=ZW then W else w.drew).cell? ⟨y,0,ZY⟩=ZX (Z7 Z9 (n:Int)):=λb=>by
  cases b
  . exact z.cell
  . exact (z.keep (J y (wZ E z).symm z.lt)).cell
 have M:=nv C (show aD w.drew p H from E);rw [K] at h M;refine bV (by kernel_rfl) Ec a w (by omega) (λj u _=>u=([.agg (aV C),Z7 Z9 (n:Int),ZZ,ZZ]:List ZT).getD j ZZ) (C6 2 3 w W (W.setCell ⟨q,0,ZY⟩ (Z7 Z9 (n:Int)))) rfl ?_ ?_
 . intro j T;match j,T with
   | 0,_=>
    intro o g w' D G ho t f i s r d x;have O:D 2=ZV:=YI.2 λe=>nomatch i.symm.trans ((s 2 e).2 0 (by decide));obtain rfl:=iN d O;exact av (w':=w.drew) (by (conv at ho=>rhs;whnf);simp [execOp,ho,(f.slot 8 (by omega)).trans Y,mx (show aD w.drew A C from P),Result.andThen]) (by rw [ho];intro c h;cases h) t ⟨dw d _ (by decide) (by decide),rfl,kq⟩
   | 1,_=>
    intro o g w' D G ho t f i s r d x;have B:D 3=ZV:=YI.2 λe=>nomatch i.symm.trans ((s 3 e).2 1 (by decide));have cs:=N (D 2);have U:w'=if D 2=ZW then W else w.drew:=(by unfold C6 at d;rw [B] at d;exact d);rw [<- U] at cs;exact av (v:=Z7 Z9 (n:Int)) (by (conv at ho=>rhs;whnf);simp only [execOp,ho,(f.slot 9 (by omega)).trans Z];go_simp) (by rw [ho];intro c h;cases h) t ⟨dw d _ (by decide) (by decide),rfl,kq⟩
   | 2,_=>
    intro o g w' D G ho t f i s r d x;have B:D 3=ZV:=YI.2 λe=>nomatch i.symm.trans ((s 3 e).2 2 (by decide));obtain rfl:=iN d i;exact lD (w':=W) (by (conv at ho=>rhs;whnf);simp [execOp,ho,(f.slot 5 (by omega)).trans V,show g.eval (Z1 32)=.agg (aV C) from x 0 (r 0 (by decide)),M,Result.andThen]) (by rw [ho];intro c h;cases h) ⟨by unfold C6;rw [bZ (j:=3) (by decide),B];rfl,rfl,kq⟩
   | 3,_=>
    intro o g w' D G ho t f i s r d x;unfold C6 at d;rw [i,r 2 (by decide)] at d;obtain rfl:w'=W:=d;exact lD (w':=w'.setCell ⟨q,0,ZY⟩ (Z7 Z9 (n:Int))) (by (conv at ho=>rhs;whnf);simp only [execOp,ho,(f.slot 6 (by omega)).trans X,show g.eval (Z1 33)=Z7 Z9 (n:Int) from x 1 (r 1 (by decide))];go_simp) (by rw [ho];intro c h;cases h) ⟨by unfold C6;rw [bZ (j:=2) (by decide),r 2 (by decide)];rfl,rfl,kq⟩
 . rintro g w' f _ ⟨D,I,d⟩ _;unfold C6 at d;rw [I 2 (by decide),I 3 (by decide)] at d;obtain rfl:w'=W.setCell ⟨q,0,ZY⟩ (Z7 Z9 (n:Int)):=d;exact h g ⟨f.size,f.defers,f.slot⟩
section
attribute [local go_sem] Oper.semAt_some
theorem zt (C:Ck) (kept a:Nat) (w:ZU) :
 ZR ZO 212 #[.agg (aV C),Z7 Z8 kept,eZ a] w λe w'=>e=Z3 (.func (.func 214) #[] #[Z6 (ZX ⟨w.heap.size,0,ZY⟩),Z6 (ZX ⟨w.heap.size+1,0,ZY⟩),Z6 (ZX ⟨w.heap.size+1+1,0,ZY⟩)]) /\
  aD w' w.heap.size C/\Bx w' (w.heap.size+1) (Z7 Z8 (kept:Int))/\Bx w' (w.heap.size+1+1) (eZ a)/\bW w w'/\w'.heap.size=w.heap.size+3:=by
 unfold eZ;go_enter func212,ntmps212;go_wp2;go_ret;refine ⟨rfl,?_,?_,?_,?_,by simp⟩
 . exact (aD.new w C).keep (by rw [VY _ _ _ (by simp;omega),VY _ _ _ (by simp)])
 . have h:=Bx.new (w.alloc (Z4 (aV C) 326)) 131 (Z7 Z8 (kept:Int));rw [Uq] at h;exact h.alloc _
 . have h:=Bx.new ((w.alloc (Z4 (aV C) 326)).alloc (Z4 #[Z7 Z8 (kept:Int)] 131)) 223 (.func (.func 211) #[] #[Z6 (ZX ⟨a,0,ZY⟩)]);simp only [Uq] at h;exact h
 . exact ((bA w _).alloc (by simp) _).alloc (by simp;omega) _
theorem zu (K:a8) (n0 b l:Nat) (J:cd->ZU->Prop) (k:∀ s A B,J s A->ZS n0 A B->J s B)
 (o:∀ s A,J s A->A.cell? ⟨b,0,ZY⟩=ZX (Z7 Z9 (s.2:Int))/\n0<=A.heap.size/\aG A) (q:2<=n0)
 (t:∀ m s C c,J s c->ep C->YieldAt Fence.wide m ZO l #[.agg (aV C)] c λe W'=>e=Z3 (Z2 ZW)/\J (eS K s C) W'/\bj n0 c W')
 (n a Bs d:Nat) (C:Ck) (kept:Nat) (s:cd) (W:ZU) (u:aD W a C) (x:Bx W Bs (Z7 Z8 (kept:Int))) (p:Bx W d (eZ b)) (f:ep C) (w:kept<65536) (r:J s W) :
 CallsIn Fence.wide n ZO 214 #[.func (.yield l) #[] #[],Z6 (ZX ⟨a,0,ZY⟩),Z6 (ZX ⟨Bs,0,ZY⟩),Z6 (ZX ⟨d,0,ZY⟩)] W λe W'=>(∃ v,e=Z3 v)/\J (iF K 8 C kept 0 s) W':=by
 have g:=λm=>KO K n0 b l J k o q t 8 m C kept 0 s W f (by have:=f.Sg;omega) w (by decide) r;have c1:=x.cell;have i:=p.cell;unfold eZ at i g;refine WX func214 rfl trivial ?_ rfl;simp only [ntmps214,UF,Uv,UQ,YF,YG,Va,Vb,Vc,Vd,Uk,UL];gi_wp2_with (refine kD rfl (Z1 1) rfl a C rfl u ?_)
 refine ⟨trivial,λh=>(by cases h),(g _).mono ?_⟩;rintro e W' ⟨rfl,j,_⟩;gi_wp2;go_end0
 exact ⟨⟨_,rfl⟩,j⟩
structure FI (w:ZU) (kept B5 B6 B7:Nat) (s:cd) (W:ZU):Prop where
 SL:aD W B5 s.1
 least:Bx W B6 (Z7 Z9 (s.2:Int))
 Sa:Bx W B7 (eZ B6)
 set:Bx W (w.heap.size+1) (Z7 Z8 (kept:Int))
 res:aD W (w.heap.size+1+1) dJ
 below:bW w W
def FI.mono {B5 B6 B7:Nat} {s:cd} (h:FI w kept B5 B6 B7 s W) (a:ZS B W W') (b:W.heap.size<=B\/(B5<B/\B6<B/\B7<B/\w.heap.size+3<=B)):FI w kept B5 B6 B7 s W':=by
 have:=h.SL.lt;have:=h.least.lt;have:=h.Sa.lt;have:=h.res.lt;exact ⟨h.SL.keep (a.block _ (by omega)),h.least.keep (a.block _ (by omega)),h.Sa.keep (a.block _ (by omega)),h.set.keep (a.block _ (by omega)),h.res.keep (a.block _ (by omega)),h.below.trans (a.mono (by omega))⟩
def K7 (p least a:Nat) (w:ZU) (c:z=(p:Int)) (b:w.cell? ⟨a,0,ZY⟩=ZX (Z7 Z9 (least:Int))) :
 ZR ZO 211 #[Z7 Z9 z,Z6 (ZX ⟨a,0,ZY⟩)] w λe w'=>e=Z3 (Z2 (decide (p<least)))/\w'=w:=by
 subst c;exact wT p least a w b
def cR (x:Ck) (pre:List Sh):Nat:=((pre.map (·.1)).filter (cF x)).length
theorem NC (x:Ck) (pre:List Sh) (i:Sh):cR x (pre++[i])=cR x pre+(if cF x i.1=ZW then 1 else 0):=by
 unfold cR;rw [Uw,Wd,T8];congr 1;by_cases h:cF x i.1=ZW
 . simp [h]
 . simp [h]
def P6 {x:Ck} (h:pre.map (·.1)=ab kept):cR x pre=iD (ab kept) x:=by unfold cR iD;rw [h]
def ND {x:Ck} (h:pre.map (·.1)<+:ab kept):cR x pre<=iD (ab kept) x:=by
 unfold cR iD;obtain ⟨R,a⟩:=h;rw [<- a,Wd,T8];omega
def Ry (x:Ck) (pre:List Sh):cR x pre<=pre.length:=by
 unfold cR;exact TW (Wz _ _) (by rw [T7];exact TV _)
def InI (X:ZU) (s:cd) (x:Ck) (pre:List Sh) (Y:ZU):Prop:=bW X Y/\Bx Y X.heap.size (Z7 Z9 (cR x pre:Int))/\(cR x pre=0\/cR x pre<s.2)
def InI.own {s:cd} {x:Ck} (i:X.heap.size+1<=B):OwnFrom B (λpre Y=>InI X s x pre Y):=by
 rintro pre A h row ⟨c,d,g⟩ b a;have f:=d.lt;exact ⟨c.grown b (by have:=c.size;omega) (λk e=>by have:=(a k e).1;omega),d.keep (b.block _ f (λe=>by have:=(a _ e.symm).1;omega)),g⟩
theorem Ee (C:Ck) (kept:Nat) (w:ZU) (hf:ep C) (U:kept<65536) (hT:aG w) (h2:3<=w.heap.size) :
 ZR ZO 203 #[.agg (aV C),Z7 Z8 kept] w λe w'=>e=Z3 (.agg (aV (aP 8 C kept).1))/\bW w w':=by
 have Z:=b8 C;have h9:=b8 dJ;have hz:=zeroCk;obtain ⟨n,HN⟩:∃ n:Nat,Hid (9<=n):=⟨9,TV _⟩;refine (Vk (n:=n)).1 ?_;refine V6 func203 rfl trivial ?_ rfl;simp only [ntmps203,UF,Uv,UQ,YF,YG,Va,Vb,Vc,Vd,Uk,UL];have b0:bW w (((w.alloc (Z4 (aV C) 326)).alloc (Z4 #[Z7 Z8 (kept:Int)] 131)).alloc (Z4 (aV dJ) 326)):=((bA w _).alloc (by simp) _).alloc (by simp;omega) _;have c0:aD (((w.alloc (Z4 (aV C) 326)).alloc (Z4 #[Z7 Z8 (kept:Int)] 131)).alloc (Z4 (aV dJ) 326)) w.heap.size C:=(aD.new w C).keep (by rw [VY _ _ _ (by simp;omega),VY _ _ _ (by simp)]);have s0:Bx (((w.alloc (Z4 (aV C) 326)).alloc (Z4 #[Z7 Z8 (kept:Int)] 131)).alloc (Z4 (aV dJ) 326)) (w.heap.size+1) (Z7 Z8 (kept:Int)):=by
  have h:=Bx.new (w.alloc (Z4 (aV C) 326)) 131 (Z7 Z8 (kept:Int));rw [Uq] at h;exact h.alloc _
 have r0:aD (((w.alloc (Z4 (aV C) 326)).alloc (Z4 #[Z7 Z8 (kept:Int)] 131)).alloc (Z4 (aV dJ) 326)) (w.heap.size+1+1) dJ:=by
  have h:=aD.new ((w.alloc (Z4 (aV C) 326)).alloc (Z4 #[Z7 Z8 (kept:Int)] 131)) dJ;simp only [Uq] at h;exact h
 have z0:(((w.alloc (Z4 (aV C) 326)).alloc (Z4 #[Z7 Z8 (kept:Int)] 131)).alloc (Z4 (aV dJ) 326)).heap.size=w.heap.size+3:=by simp
 obtain ⟨w3,qf⟩:=nM (((w.alloc (Z4 (aV C) 326)).alloc (Z4 #[Z7 Z8 (kept:Int)] 131)).alloc (Z4 (aV dJ) 326));rw [qf] at b0 c0 s0 r0 z0;have HB:=al b0;have HC:=al c0;have HS:=al s0;have N:=al r0;have HZ:=al z0;clear b0 c0 s0 r0 z0;gi_wp2;refine JS ?_;gi_wp2;refine Hz w.heap.size (w.heap.size+1) kept C (by kernel_rfl) rfl U rfl rfl HC.out HS.out ?_;rintro O d f a q8 e5 e6 l5 l6 c5 F u;obtain ⟨ls,V,rfl⟩:=q8.split (by decide) (by simp);clear q8;obtain ⟨u0,u1,u2,u3,u4,u5,u6,u7,u8,rfl⟩:=Rm V;clear V;simp only [XB,VR,Xx,WL,UL,Uk] at e5 e6 ⊢;obtain rfl:u0=Z6 (ZX ⟨f,0,ZY⟩):=e5;obtain rfl:u1=Z6 (ZX ⟨a,0,ZY⟩):=e6;clear qf;have qh:=HZ.out;have cN:=(Bx.new d 223 .nilFunc).cell;have fN:=(Bx.new d 223 .nilFunc).frozen;have t:bW d ((d.alloc (Z4 #[.nilFunc] 223)).setCell ⟨d.heap.size,0,ZY⟩ (eZ a)):=(bA _ _).setCell (p:=⟨d.heap.size,0,ZY⟩) lR _;have L:FI w kept f a d.heap.size (C,(ab kept).length) ((d.alloc (Z4 #[.nilFunc] 223)).setCell ⟨d.heap.size,0,ZY⟩ (eZ a)):=
  ⟨c5.keep (t.block _ c5.lt),F.keep (t.block _ F.lt),(Bx.new d 223 .nilFunc).set _,HS.out.keep ((t.block _ (by have:=u.size;omega)).trans (u.block _ (by omega))),N.out.keep ((t.block _ (by have:=u.size;omega)).trans (u.block _ (by omega))),(HB.out.trans (u.mono (by omega))).trans (t.mono (by have:=u.size;omega))⟩
 have k9:aD ((d.alloc (Z4 #[.nilFunc] 223)).setCell ⟨d.heap.size,0,ZY⟩ (eZ a)) w.heap.size C:=HC.out.keep ((t.block _ (by have:=u.size;omega)).trans (u.block _ (by omega)));have qi:((d.alloc (Z4 #[.nilFunc] 223)).setCell ⟨d.heap.size,0,ZY⟩ (eZ a)).heap.size=d.heap.size+1:=by simp [World.setCell]
 have xa:=u.size;have xv:=F.lt;obtain ⟨j,kk⟩:=nM ((d.alloc (Z4 #[.nilFunc] 223)).setCell ⟨d.heap.size,0,ZY⟩ (eZ a));rw [kk] at L k9 qi;unfold eZ at kk;have Q:=L.Sa.cell;unfold eZ at Q;have c3:=L.set.cell;have G:=al L;have qk:=al k9;have T:=al qh;clear L k9 qi t c5 F u HB HC HS N HZ xa qh hz Z h9;have kb:=zt C kept a j;unfold eZ at kb;gi_wp2;refine wpIn_label ?_;gi_wp2_with (refine kD rfl (Z1 2) rfl w.heap.size C rfl qk.out ?_)
 refine cV kb ?_;clear kb;rintro e w6 ⟨rfl,k1,k2,k3,k4,k5⟩;have qm:=al k1;have qn:=al k2;have qo:Hid (Bx w6 (j.heap.size+1+1) (eZ a)):=al k3;have qp:=al k4;have kr:=al k5;clear k1 k2 k3 k4 k5 kk cN fN Q c3;gi_wp2;have qx:FI w kept f a d.heap.size (C,(ab kept).length) w6:=G.out.mono qp.out (.inl lR);have xo:=G.out.SL.lt;have xq:=G.out.least.lt;have xy:=G.out.Sa.lt;have xn:=G.out.res.lt;have q9:=kr.out;obtain ⟨m,HM⟩:∃ m:Nat,Hid (9<=m):=⟨9,TV _⟩;refine JT (P:=ZO) (n:=n) m (w:=w6) (gf:=214) (lb:=#[Z6 (ZX ⟨j.heap.size,0,ZY⟩),Z6 (ZX ⟨j.heap.size+1,0,ZY⟩),Z6 (ZX ⟨j.heap.size+1+1,0,ZY⟩)]) rfl (Vl func214 (by kernel_rfl) rfl)
  (encs:=λC:Ck=>#[.agg (aV C)]) (λ_=>rfl) (eS (ab kept)) ep (FI w kept f a d.heap.size) (λs A B h hb=>h.mono hb (.inr ⟨by omega,by omega,by omega,by omega⟩)) (λs=>s=aP 8 C kept) (C,(ab kept).length)
  ?call qx (λB x O A=>∃ o,B<=o/\aD A o x/\O={ tmps:=#[.agg (aV C),Z7 Z8 (kept:Int),Z6 (ZX ⟨w.heap.size,0,ZY⟩),Z6 (ZX ⟨w.heap.size+1,0,ZY⟩),Z6 (ZX ⟨w.heap.size+1+1,0,ZY⟩),Z6 (ZX ⟨f,0,ZY⟩),Z6 (ZX ⟨a,0,ZY⟩),Z6 (ZX ⟨d.heap.size,0,ZY⟩),Z6 (ZX ⟨o,0,ZY⟩),u4,u5,u6,u7,u8,.func (.func 211) #[] #[Z6 (ZX ⟨a,0,ZY⟩)],.agg (aV C),Z7 Z8 (kept:Int),.func (.func 211) #[] #[Z6 (ZX ⟨a,0,ZY⟩)],.func (.func 214) #[] #[Z6 (ZX ⟨j.heap.size,0,ZY⟩),Z6 (ZX ⟨j.heap.size+1,0,ZY⟩),Z6 (ZX ⟨j.heap.size+1+1,0,ZY⟩)],.agg (aV x),ZZ,ZZ,ZZ,ZZ,ZZ,ZZ,ZZ,ZZ,ZZ,ZZ,ZZ,ZZ,ZZ,ZZ,ZZ],defers:=[] }) ?ax ?assign ?body ?done
 case call=>
  intro l J W k8 xj x1 x0 hY qz;refine (zu (ab kept) (w6.heap.size+2) a l J x1 (λs A hj=>?_) (by omega) hY (n-1) j.heap.size (j.heap.size+1) (j.heap.size+1+1) C kept _ W (qm.out.keep (k8.block _ (by omega))) (qn.out.keep (k8.block _ (by omega))) (qo.out.keep (k8.block _ (by omega))) hf U qz).mono ?_
  . obtain ⟨fi,hs⟩:=x0 s A hj;exact ⟨fi.least.cell,hs,hT.mono (by omega) fi.below⟩
  . rintro e W' ⟨hv,qy⟩;exact ⟨hv,_,rfl,qy⟩
 case ax=>
  rintro B x O A A' ⟨o,h1,kz,h3⟩ x4;exact ⟨o,h1,kz.keep (x4.block o h1 kz.lt),h3⟩
 case assign=>
  intro l s x W K y q5 hK;have hz:=zeroCk;have h9:=b8 dJ;gi_wp2_with (refine jJ rfl (Z1 8) (Z1 19) rfl W.heap.size x dJ rfl rfl (aD.new W dJ) ?_)
  exact hK _ _ ((bA _ _).grown (aN _ _ _) (by simp) (λk e=>by cases e;exact TV _)) ⟨W.heap.size,TV _,(aD.new W dJ).setRow x,rfl⟩
 case body=>
  rintro l B s x O X hl xh xd ⟨r,hr⟩ y q5 ⟨o,xc,qg,rfl⟩;have V:=y.below.size;have x7:l<X.heap.size:=(TX.1 hr).1;have k7:bW X (X.alloc (Z4 #[Z7 Z9 0] 3)):=bA _ _;have c3:=(y.mono k7 (.inl lR)).set.cell;have hc:bW X ((X.alloc (Z4 #[Z7 Z9 0] 3)).alloc (Z4 #[Z7 Z8 (kept:Int)] 131)):=k7.alloc (by simp) _;have q0:=(Bx.new X 3 (Z7 Z9 0)).alloc (Z4 #[Z7 Z8 (kept:Int)] 131);have kg:=(Bx.new (X.alloc (Z4 #[Z7 Z9 0] 3)) 131 (Z7 Z8 (kept:Int))).cell;have km:((X.alloc (Z4 #[Z7 Z9 0] 3)).alloc (Z4 #[Z7 Z8 (kept:Int)] 131)).heap.size=X.heap.size+1+1:=by simp
  rw [Uq] at kg;have hy:=dC kept (X.alloc (Z4 #[Z7 Z9 0] 3));rw [Uq] at hy;have v:=al y;have S:=al qg;have R:=al hc;have ko:=al q0;have kv:=al kg;have ky:=al km;have N:=al hr;have kp:=al hy;clear y qg k7 q0 kg km hc hr V hy q9;gi_wp2;refine ef kp.out ?_;rintro e w' ⟨rfl,qe⟩;rw [<- qe] at R ko kv ky;clear kp c3 qe;gi_wp2;have x2:aG w':=hT.mono (by omega) ((v.out.mono R.out (.inl lR)).below);have km:=ky.out;have x9:w'.heap[l]?=ZX (.loop r):=(R.out.block l x7).trans N.out;have xe:=v.out.least;refine wpIn_rangeFunc_ownN (l₀:=l) (r₀:=r) rfl x9 (by have:=HM.out;omega) (gf:=155) (lb:=#[Z6 (ZX ⟨X.heap.size+1,0,ZY⟩)]) rfl trivial (Vl func155 (by kernel_rfl) rfl)
   ((eI (m-1) (X.heap.size+1) kept U w' (by omega) kv.out (by omega) x2).inRound l) (λh k=>qG h k) (qH (by omega)) (TY _ _) (λ_=>rfl)
   (λpre Y=>InI X s x pre Y) (λc pre Y=>c=.exit 1/\bW X Y/\1<=cR x pre/\s.2<=cR x pre)
   (InI.own (by omega)) (λc=>by
    rintro pre A Bw row ⟨g,q,z⟩ hg kf;exact ⟨g,q.grown hg (by have:=q.size;omega) (λk e=>by have:=(kf k e).1;omega),z⟩)
   ⟨R.out,ko.out,.inl rfl⟩
   (λi H _=>H={ tmps:=#[.agg (aV C),Z7 Z8 (kept:Int),Z6 (ZX ⟨w.heap.size,0,ZY⟩),Z6 (ZX ⟨w.heap.size+1,0,ZY⟩),Z6 (ZX ⟨w.heap.size+1+1,0,ZY⟩),Z6 (ZX ⟨f,0,ZY⟩),Z6 (ZX ⟨a,0,ZY⟩),Z6 (ZX ⟨d.heap.size,0,ZY⟩),Z6 (ZX ⟨o,0,ZY⟩),Z6 (ZX ⟨X.heap.size,0,ZY⟩),Z7 Z9 (i.1:Int),u6,u7,u8,.func (.func 211) #[] #[Z6 (ZX ⟨a,0,ZY⟩)],.agg (aV C),Z7 Z8 (kept:Int),.func (.func 211) #[] #[Z6 (ZX ⟨a,0,ZY⟩)],.func (.func 214) #[] #[Z6 (ZX ⟨j.heap.size,0,ZY⟩),Z6 (ZX ⟨j.heap.size+1,0,ZY⟩),Z6 (ZX ⟨j.heap.size+1+1,0,ZY⟩)],.agg (aV x),Z7 Z8 (kept:Int),.func (.func 155) #[] #[Z6 (ZX ⟨X.heap.size+1,0,ZY⟩)],Z7 Z9 (i.1:Int),ZZ,ZZ,ZZ,ZZ,ZZ,ZZ,ZZ,ZZ,ZZ,ZZ,ZZ,ZZ],defers:=[] })
   (λ_ _ _ _ _ _ hs _ _=>hs)
   ?assign2 ?body2 ?done2 ?stop2
  case assign2=>
   rintro l2 pre i Y K hi hK;unfold qF;gi_wp2;exact hK _ _ (XW _ _) (Fv.refl _) hi rfl
  case body2=>
   rintro l2 pre i H Y _ _ ⟨g,q,z⟩ rfl x8;have h8:=S.out.lt;have q6:=S.out.keep (g.block o h8);have q7:=Ry x pre;have x6:(ab kept).length<=16:=(by rw [<- kF kept];exact pQ kept);have qq:=al g;have qs:=al q;have qv:=al z;have c9:=q.cell;have f9:=q.frozen;have qb:=wP o i.1 x Y q6 q5 i.2;have qd:=NC x pre i;have kx:=al qd;have t:bW X (Y.setCell ⟨X.heap.size,0,ZY⟩ (Z7 Z9 ((cR x pre:Int)+1))):=g.setCell (p:=⟨X.heap.size,0,ZY⟩) lR _;have k6:=v.out.mono t (.inl lR);have Q:=k6.Sa.cell;have F:=k6.least.cell;have k0:=q.set (Z7 Z9 ((cR x pre:Int)+1));have xm:=k0.cell;unfold eZ at Q;have hx:=al t;have qj:=al k0;clear g q z qd t k6 k0 q6;gi_wp2;refine ef qb ?_;clear qb;rintro e w'' ⟨rfl,ki⟩;subst ki;cases hp:cF x i.1 with
   | false=>
    have E:Hid (cR x (pre++[i])=cR x pre):=al (by rw [kx.out,hp];simp);clear hp;gi_wp2;refine ⟨XW _ _,Fv.refl _,qq.out,?_,?_⟩
    . rw [E.out];exact qs.out
    . rw [E.out];exact qv.out
   | true=>
    have E:Hid (cR x (pre++[i])=cR x pre+1):=al (by rw [kx.out,hp];simp);clear hp;gi_wp2;refine ef (K7 (cR x pre+1) s.2 a _ (by omega) F) ?_;rintro e xz ⟨rfl,kj⟩;have qa:KeepsFrom w'.heap.size w'' (w''.setCell ⟨X.heap.size,0,ZY⟩ (Z7 Z9 ((cR x pre:Int)+1))):=(VS _ _ _).from _;have ks:=al qa;clear qa;subst kj;by_cases ka:cR x pre+1<s.2
    . rw [decide_eq_true ka];gi_wp2;refine ⟨ks.out,λ_=>hT.mono (by omega) (v.out.mono hx.out (.inl lR)).below,hx.out,?_,?_⟩
      . rw [E.out];exact qj.out
      . rw [E.out];exact .inr ka
    . rw [decide_eq_false ka];gi_wp2;refine ⟨ks.out,rfl,hx.out,?_,?_⟩
      . rw [E.out];omega
      . rw [E.out];omega
  case done2=>
   rintro ys Y xb ⟨g,q,z⟩;have q7:=P6 (x:=x) xb;rw [q7] at q z;have b:=v.out.mono g (.inl lR);have h8:=S.out.lt;have x3:=S.out.keep (g.block o h8);have q9:=kr.out;gi_wp2;refine Ed f a o X.heap.size (iD (ab kept) x) x s.1 _ (by kernel_rfl) rfl rfl rfl rfl rfl x3 q b.SL b.least ?_;intro a3 xg;have kh:eS (ab kept) s x=(x,iD (ab kept) x):=(by unfold eS;rw [if_pos z]);rw [kh];have M:=wZ b.SL b.least;have qr:=wZ b.SL b.Sa;have xk:=wZ b.SL b.set;have hd:=wZ b.res b.least;have I:∀ k,k≠f->k≠a->k<Y.heap.size->((Y.drew.setRow f (aV x)).setCell ⟨a,0,ZY⟩ (Z7 Z9 (iD (ab kept) x:Int))).heap[k]?=Y.heap[k]?:=λk k1 k2 k3=>
    (V3 _ _ _ _ k2).trans ((aN Y.drew f (aV x)).block k k3 (λe=>k1 (by cases e;rfl)))
   have Z:Y.heap.size<=((Y.drew.setRow f (aV x)).setCell ⟨a,0,ZY⟩ (Z7 Z9 (iD (ab kept) x:Int))).heap.size:=(by simp [World.setCell,World.setRow]);have xf:=g.size;have xp:w.heap.size<=f:=(by have:=T.out;omega);have xx:w.heap.size<=a:=(by have:=T.out;omega);refine ⟨⟨?_,?_,?_,?_,?_,?_⟩,?_⟩
   . exact (((show aD Y.drew f s.1 from b.SL).setRow x)).keep (V3 _ _ _ _ M)
   . exact ((show Bx Y.drew a _ from b.least).keep ((aN Y.drew f (aV x)).block a b.least.lt (λe=>M (by cases e;rfl)))).set _
   . exact b.Sa.keep (I _ (V1 qr) (by omega) b.Sa.lt)
   . exact b.set.keep (I _ (V1 xk) (by have:=T.out;omega) b.set.lt)
   . exact b.res.keep (I _ (by have:=T.out;omega) hd b.res.lt)
   . exact b.below.trans ⟨rfl,rfl,rfl,Z,λk U=>I k (by omega) (by omega) (by have:=b.below.size;omega)⟩
   . exact (bj.RT g).trans ⟨rfl,rfl,rfl,Z,λk k1 k2=>I k (by omega) (by omega) k2⟩
  case stop2=>
   rintro c pre Y kc ⟨rfl,g,q,z⟩;have xi:=ND (x:=x) kc;have kh:eS (ab kept) s x=s:=(by unfold eS;rw [if_neg (by omega)]);rw [kh];gi_wp2;exact ⟨v.out.mono g (.inl lR),bj.RT g⟩
 case done=>
  rintro D s X hD rfl y hK;have hb:=y.SL;have qc:=y.res;have v:=al y;have h9:=b8 dJ;gi_wp2_with (first
   | (refine kD rfl (Z1 5) rfl f (aP 8 C kept).1 rfl hb ?_)
   | (refine jJ rfl (Z1 4) (Z1 34) rfl (w.heap.size+1+1) (aP 8 C kept).1 dJ rfl rfl qc ?_))
  have q4:(X.setRow (w.heap.size+1+1) (aV (aP 8 C kept).1)).heap[D]?=ZX (.deferred (ZX [])):=((aN X (w.heap.size+1+1) _).block D (TX.1 hK).1 (λe=>by cases e;omega)).trans hK;refine ⟨by simp,.inl ⟨_,_,rfl,Wt q4,?_⟩⟩;have ke:aD ((X.setRow (w.heap.size+1+1) (aV (aP 8 C kept).1)).putObj D (.deferred ZY)) (w.heap.size+1+1) (aP 8 C kept).1:=(qc.setRow (aP 8 C kept).1).keep (UV (by omega));have x5:bW w ((X.setRow (w.heap.size+1+1) (aV (aP 8 C kept).1)).putObj D (.deferred ZY)):=
   Below.RV (v.out.below.grown (aN _ _ _) v.out.below.size (λk e=>by cases e;omega)) (by omega) (TX.1 q4).1 _
  exact ⟨.agg (aV (aP 8 C kept).1),VQ results203 _ _ (w.heap.size+1+1) 326 (aV (aP 8 C kept).1) (0,0) _ rfl ke.heap Xn rfl (dQ _),rfl,x5⟩
end
def NF (m:Nat->Nat->Nat) (q:Nat) (src:a8):Nat->Nat->Nat:=λr j=>if r=q/\j<src.length then src.getD j 0 else m r j
theorem BV (z:o.guard=ZY) (d s:Operand)
 (ho:o.op=.call { callee:=.builtin .copy,args:=#[d,s],argTypes:=#[31,31] }) (b q:Nat) (v:ZT) (hd:a.eval d=Z5 (ZX ⟨b,q*16,ZY⟩) 16 16) (hs:a.eval s=v)
 (C:Ck) (src:a8) (hC:aD w b C) (hq:q<8) (hS:Bs w v src) (h8:src.length<=16)
 (h:∀ w',aD w' b ⟨NF C.m q src,C.told,C.count⟩->ZS b w w'->wpList ZO ops Q rest (a.put o.dst (goInt src.length)) w'):wpList ZO ops Q (o::rest) a w:=by
 obtain ⟨ao,c,rfl,I,J,K,t⟩:=hS;refine aaZ z d s 31 31 ho 5 Uh (by kernel_rfl) (ZX ⟨b,q*16,ZY⟩) ao 16 16 src.length c hd hs b (q*16) _ 326 hC.heap (src.map (λx=>Value.int .u8 ((x:Nat):Int))) ?_ ?_ ?_ ?_ b w (TY _ _) lR ?_
 . rw [T7];show src.length=min src.length 16;omega
 . intro l;rw [T7] at l;obtain ⟨H,off,rfl,B⟩:=t (by intro e;rw [e] at l;simp at l);refine ⟨rfl,_,rfl,λj u k=>?_⟩;have g:j<src.length:=by
    obtain ⟨q,_⟩:=U1.1 k;simpa using q
   rw [U9,B j g];simp [g] at k;simp [g,k]
 . simp;omega
 . intro u D;obtain ⟨x,_,rfl⟩:=T6.1 D;rfl
 . intro w' A y;have E:=A.out;rw [T7];refine h w' ⟨_,E,?_,λi r=>?_⟩ y
   . rw [UF,length_splice _ _ _ (by simp;omega)];simp
   . unfold splice;rw [WY];have p:∀ x,x<130->((YD 130).map (nI C))[x]?=ZX (nI C x):=λx F=>by rw [Un,Vw F];rfl
     have hL:((YD 130).map (nI C)).length=130:=(by rw [T7,UC]);by_cases G:i<q*16
     . rw [Vx (by simp;omega),XQ,if_pos G,p i r];congr 1;unfold nI;rw [if_pos (by omega),if_pos (by omega)];show _=Value.int .u8 ((NF C.m q src (i/16) (i%16):Nat):Int);unfold NF;rw [if_neg (by omega)]
     . have n:(((YD 130).map (nI C)).take (q*16)).length=q*16:=(by rw [Ui,hL];omega);rw [U3 (by rw [n];omega),n];by_cases L:i<q*16+src.length
       . rw [Vx (by simp;omega)];have f:i-q*16<src.length:=(by omega);rw [Un,Ua f];simp only [WD];congr 1;unfold nI;rw [if_pos (by omega)];show _=Value.int .u8 ((NF C.m q src (i/16) (i%16):Nat):Int);unfold NF;rw [if_pos (by omega),show i%16=i-q*16 by omega,T5,Ua f];rfl
       . rw [U3 (by simp;omega)];simp only [T7];rw [VZ,show q*16+src.length+(i-q*16-src.length)=i by omega,p i r];congr 1;unfold nI;by_cases f:i<128
         . rw [if_pos f,if_pos f];show _=Value.int .u8 ((NF C.m q src (i/16) (i%16):Nat):Int);unfold NF;rw [if_neg (by omega)]
         . rw [if_neg f,if_neg f]
theorem Ef (h:aD w b C) (q i v:Nat) (d:q<8) (c:i<16):aD (w.setCell ⟨b,q*16+i,ZY⟩ (Z7 .u8 (v:Int))) b ⟨λr j=>if r=q/\j=i then v else C.m r j,C.told,C.count⟩:=
 (h.set (q*16+i) (Z7 .u8 (v:Int))).congr (λx f=>by
  unfold nI;by_cases e:x=q*16+i
  . rw [if_pos e,if_pos (by omega)];show _=Value.int .u8 ((if x/16=q/\x%16=i then v else _:Nat):Int);rw [if_pos (by omega)]
  . rw [if_neg e];by_cases a:x<128
    . rw [if_pos a,if_pos a];show _=Value.int .u8 ((if x/16=q/\x%16=i then v else C.m (x/16) (x%16):Nat):Int);rw [if_neg (by omega)]
    . rw [if_neg a,if_neg a])
def mf (M:List a8) (i j:Nat):Nat:=(M.getD i []).getD j 0
theorem K8 (M:Nat->Nat->Nat) (D:Nat):mR M D 0=dJ:=by
 unfold mR dJ;congr 1
theorem K9 (M:List a8) (D k:Nat) (hl:(M.getD (D+k) []).length=D) :
 (⟨λr j=>if r=k/\j=D+k then 1 else NF (mR (mf M) D k).m k (M.getD (D+k) []) r j,0,k+1⟩:Ck)=mR (mf M) D (k+1):=by
 unfold mR;congr 1;funext r j;show (if r=k/\j=D+k then 1 else (if r=k/\j<(M.getD (D+k) []).length then (M.getD (D+k) []).getD j 0 else (if r<k then (if j<D then mf M (D+r) j else if j=D+r then 1 else 0) else 0)))=(if r<k+1 then (if j<D then mf M (D+r) j else if j=D+r then 1 else 0) else 0);rw [hl];by_cases e:r=k
 . subst e;by_cases a:j=D+r
   . simp [a];intro h;omega
   . by_cases b:j<D
     . simp [a,b,mf]
     . simp [a,b]
 . by_cases a:r<k
   . simp [e,a,show r<k+1 by omega]
   . simp [e,a,show ¬ r<k+1 by omega]
def CoR (w:ZU) (M:List a8) (D:Nat) (i:ZT) (wr:ZU):Prop:=
 ∃ k:Nat,D+k<=M.length/\i=Z7 Z9 (k:Int)/\aD wr (w.heap.size+1) (mR (mf M) D k)/\aD wr w.heap.size dJ/\bW w wr
theorem zv (b off c:Nat) (M:List a8) (D:Nat) (w:ZU) (k5:M.length<=c) (K:∀ i (hi:i<M.length),∃ u,w.cell? ⟨b,off+i,ZY⟩=ZX u/\Bs w u M[i]) (hD:1<=D) (ka:D<M.length) (k9:M.length<=16) (hP:M.length<=D+8) (E:∀ i,i<M.length->(M.getD i []).length=D) :
 ZR ZO 205 #[Z5 (ZX ⟨b,off,ZY⟩) M.length c,Z7 Z9 D] w λe w'=>e=Z3 (.agg (aV (mR (mf M) D (M.length-D))))/\bW w w':=by
 have hz:=zeroCk;have kb:(D:Int)<=(M.length:Int):=by omega
 have k0:¬ c<=D:=by omega
 have L:=al K;have C:=al E;clear K E;have J:CoR w M D (Z7 Z9 (0:Nat)) ((w.alloc (Z4 (aV dJ) 326)).alloc (Z4 (aV dJ) 326)):=by
  refine ⟨0,by omega,rfl,?_,(aD.new w dJ).keep (VY _ _ _ (by simp)),(bA _ _).alloc (by simp) _⟩;rw [K8];have h:=aD.new (w.alloc (Z4 (aV dJ) 326)) dJ;rw [Uq] at h;exact h
 have F:=al J;clear J;go_enter func205,ntmps205;go_wp2;clear hz;go_loopw [12] (λi wr=>CoR w M D i wr) (λi _=>(M.length-D)-(intOf i).toNat)
 case atStart=>exact F.out
 case round=>
  clear F;rename ZU=>wo;obtain ⟨k,hk,rfl,z,A,f⟩:=hrel;by_cases x:D+k<M.length
  . have k6:(k:Int)<((M.length-D:Nat):Int):=(by omega);obtain ⟨u,B,I⟩:=L.out (D+k) x;have kg:wo.cell? ⟨b,off+D+k,ZY⟩=ZX u:=(by rw [Vu,f.cell (Ub B)];exact B);have G:=I.mono f;have n:=C.out (D+k) x;have o:M.getD (D+k) []=M[D+k]:=(by simp [x]);rw [o] at n;have y:=K9 M D k (by rw [o];exact n);rw [o] at y;have kf:=λw'=>pO w' (w.heap.size+1) (k*16);have ke:(k:Int)<8:=(by omega);have kc:(D:Int)+(k:Int)<16:=(by omega);have ki:wrap64 ((D:Int)+(k:Int))=((D+k:Nat):Int):=(by unfold wrap64;omega);have k8:IntKind.i64.wrap ((D:Int)+(k:Int))=((D+k:Nat):Int):=(by rw [Ut];omega);have kh:wrap64 ((k:Int)+1)=((k+1:Nat):Int):=(by unfold wrap64;omega);have k7:IntKind.i64.wrap ((k:Int)+1)=((k+1:Nat):Int):=(by rw [Ut];omega);have U:=al y;have g:=al G;have t:=al z;have l:=al A;have R:=al f;have V:=al n;clear y G z A f I B C o n;generalize M[D+k]=row at *;go_wp2_with (refine BV rfl (Z1 20) (Z1 21) rfl (w.heap.size+1) k _ rfl rfl _ row t.out (by omega) g.out (by have:=V.out;omega) ?_;intro w2 a d;have c1:=a.at k (D+k) (by omega) (by omega);have f1:=a.frozen (k*16+(D+k));have N:(w2.setCell ⟨w.heap.size+1,k*16+(D+k),ZY⟩ (Z7 .u8 1)).cell? ⟨w.heap.size+1,129,ZY⟩=ZX (Z7 Z9 (k:Int)):=(Ef a k (D+k) 1 (by omega) (by omega)).Sr;have P:(w2.setCell ⟨w.heap.size+1,k*16+(D+k),ZY⟩ (Z7 .u8 1)).frozen? ⟨w.heap.size+1,129,ZY⟩=ZV:=(Ef a k (D+k) 1 (by omega) (by omega)).frozen 129;have S:=al a;have Q:=al d;clear a d);have a:=S.out;have d:=Q.out;have hr:=Ef a k (D+k) 1 (by omega) (by omega);have X:=wS hr (k+1);have Z:=l.out.keep (d.block w.heap.size (by omega));have O:(⟨(⟨λr j=>if r=k/\j=D+k then 1 else NF (mR (mf M) D k).m k row r j,(mR (mf M) D k).told,(mR (mf M) D k).count⟩:Ck).m,(mR (mf M) D k).told,k+1⟩:Ck)=mR (mf M) D (k+1):=U.out;have Y:aD ((w2.setCell ⟨w.heap.size+1,k*16+(D+k),ZY⟩ (Z7 .u8 1)).setCell ⟨w.heap.size+1,129,ZY⟩ (Z7 Z9 ((k+1:Nat):Int))) (w.heap.size+1) (mR (mf M) D (k+1)):=(by rw [<- O];exact X);have hy:aD ((w2.setCell ⟨w.heap.size+1,k*16+(D+k),ZY⟩ (Z7 .u8 1)).setCell ⟨w.heap.size+1,129,ZY⟩ (Z7 Z9 ((k+1:Nat):Int))) w.heap.size dJ:=
     Z.keep ((V3 _ _ _ _ (by show w.heap.size≠w.heap.size+1;omega)).trans (V3 _ _ _ _ (by show w.heap.size≠w.heap.size+1;omega)))
    have W:bW w ((w2.setCell ⟨w.heap.size+1,k*16+(D+k),ZY⟩ (Z7 .u8 1)).setCell ⟨w.heap.size+1,129,ZY⟩ (Z7 Z9 ((k+1:Nat):Int))):=
     ((R.out.trans (d.mono (by omega))).setCell (p:=⟨w.heap.size+1,k*16+(D+k),ZY⟩) (by show w.heap.size<=w.heap.size+1;omega) _).setCell (p:=⟨w.heap.size+1,129,ZY⟩) (by show w.heap.size<=w.heap.size+1;omega) _
    have s:=aE Y hy W;go_roundw
    case rel=>exact ⟨k+1,by omega,by go_num,s.out.1,s.out.2.1,s.out.2.2⟩
    case measure=>simp [intOf];omega
  . have k6:¬ (k:Int)<((M.length-D:Nat):Int):=(by omega);have H:M.length-D=k:=(by omega);have T:=al H;have g:=al f;have t:=al z;have l:=al A;clear H;go_wp2_with (first
     | refine Yg rfl 326 (Z1 5) rfl (w.heap.size+1) rfl 326 (aV (mR (mf M) D k)) (0,0) _ t.out.heap Xn rfl (dQ _) ?_
     | refine Wi rfl 326 (Z1 4) (Z1 35) rfl w.heap.size (aV (mR (mf M) D k)) rfl rfl 326 (aV dJ) l.out.heap (dQ _) (by rw [b8,b8]) (mw _) ?_)
    refine Um (v:=.agg (aV (mR (mf M) D k))) (VQ results205 _ _ w.heap.size 326 (aV (mR (mf M) D k)) (0,0) _ rfl (l.out.setRow (mR (mf M) D k)).heap Xn rfl (dQ _)) rfl ?_;rw [T.out];exact ⟨rfl,g.out.grown (aN _ _ _) g.out.size (λq e=>by cases e;exact TV _)⟩
def aC (n lost:Nat):Nat:=lost &&& (2^n-1)
def bz (n lost:Nat):Nat:=(2^n-1) &&& (18446744073709551615-aC n lost)
def mZ (h:n<=16):2^n<=65536:=Vq (n:=2) (i:=n) (j:=16) (by decide) h
def xt (n lost i:Nat):(aC n lost).testBit i=(lost.testBit i&&decide (i<n)):=by unfold aC;rw [Xg,We]
def oD (lost:Nat) (h:n<=16):aC n lost<65536:=by
 have:=mZ h;have:aC n lost<=2^n-1:=Nat.and_le_right;have:0<2^n:=VP n;omega
def BW (lost:Nat) (h:n<=16):bz n lost<65536:=by
 have:=mZ h;have:bz n lost<=2^n-1:=Xi;have:0<2^n:=VP n;omega
def pX (lost i:Nat) (h:n<=16):(bz n lost).testBit i=(decide (i<n) && !lost.testBit i):=by
 have:=oD lost h;unfold bz;rw [Xg,We,show 18446744073709551615-aC n lost=2^64-(aC n lost+1) by omega,XD (by omega),xt];by_cases a:i<n
 . simp [a,show i<64 by omega]
 . simp [a]
theorem dS (h:n<=16):i∈ab (aC n lost)↔i<n/\lost.testBit i=ZW:=by
 rw [cO,xt];simp only [YM,decide_eq_true_eq];constructor
 . rintro ⟨_,a,b⟩;exact ⟨b,a⟩
 . rintro ⟨a,b⟩;exact ⟨by omega,b,a⟩
theorem oE (h:n<=16):i∈ab (bz n lost)↔i<n/\lost.testBit i=ZV:=by
 rw [cO,pX lost i h];simp only [YM,decide_eq_true_eq,Bool.not_eq_true'];constructor
 . rintro ⟨_,a,b⟩;exact ⟨a,b⟩
 . rintro ⟨a,b⟩;exact ⟨by omega,a,b⟩
theorem La (h:iV w B v T) (d:dh T D M) (hD:∀ r∈M,r.length=D) (k:M≠[]) :
 ∃ g c,v=Z5 (ZX ⟨g,0,ZY⟩) M.length c/\M.length<=c/\∀ i (b:i<M.length),∃ u,w.cell? ⟨g,0+i,ZY⟩=ZX u/\Bs w u M[i]:=by
 have f:T.length=M.length:=by simpa using congrArg YH d
 rcases h.own.2 with ⟨_,m⟩|⟨g,c,cur,rfl,_,_,n,_⟩
 . exact absurd (UP (by omega)) k
 . refine ⟨g,c,by rw [f],by omega,λi b=>?_⟩;have a:i<T.length:=(by omega);refine ⟨jX T[i],by rw [Ue];exact h.SE a,?_⟩;have:=h.SR a;have j:T[i].2=(D,M[i]):=by
    have:=congrArg (λl=>l[i]?) d;simpa [a,b] using this
   rw [j] at this;have e:(M[i]).take D=M[i]:=(by rw [<- hD _ (T4 b),VC]);rw [e] at this;exact this
def FM (D L G i:Nat) (a:i<D):(aT D L G).getD i []=dN D i:=by
 unfold aT;rw [Uz,T5,Vx (by simpa using a)];simp [a]
def oF (D L G:Nat) (hD:D<=12) (hG:G<=4):Gf.Code (mf (aT D L G)) D (L+G):=by
 refine ⟨λi j=>?_,λi a j=>?_,λi j b=>?_⟩
 . unfold mf;by_cases a:i<(aT D L G).length
   . have e:(aT D L G).getD i []=(aT D L G)[i]:=(by simp [a]);rw [e];exact ez (oC D L G hD hG _ (T4 a)) j
   . have e:(aT D L G).getD i []=[]:=(by simp [a]);rw [e];simp
 . unfold mf;rw [FM D L G i a];unfold dN;rw [T5,XP];by_cases e:i=j
   . subst e;simp [a]
   . simp only [e,if_false];rw [if_neg (λh=>e h.symm)];by_cases b:j<D
     . simp [b]
     . simp [b]
 . unfold mf;by_cases a:i<(aT D L G).length
   . have e:(aT D L G).getD i []=(aT D L G)[i]:=(by simp [a]);have:=mz D L G _ (T4 a);rw [e,T5,VM (by omega)];rfl
   . have e:(aT D L G).getD i []=[]:=(by simp [a]);rw [e];simp
def ll (D L G:Nat):Ck:=mR (mf (aT D L G)) D (L+G)
def zw (hD:D<=12) (hL:L<=4) (hG:G<=4) {pre:a8} {C:Ck} (h:tells (ll D L G) pre=ZX C):ep C:=by
 rcases (oF D L G hD hG).told pre with ⟨c,a,b⟩|⟨a,_⟩
 . have e:tells (ll D L G) pre=ZX c:=a;rw [h] at e;obtain rfl:=UI e;exact ⟨b.byt,b.le,by have:C.count=L+G:=b.count;omega⟩
 . have e:tells (ll D L G) pre=ZY:=a;rw [h] at e;cases e
def PB (W:ZU) (n0 Bg:Nat) (regs:Int) (L:List St):Prop:=
 Bg<n0/\n0<=W.heap.size/\∃ v,W.heap[Bg]?=ZX (Z4 #[Z7 Z9 regs,v] 187 (0,0))/\W.ownsRow n0 292 4 v L.length (eh .u8 L)
def Tryz.Tc:(ZO.info? 292).map (λi=>(i.zero,i.size,i.bytes))=ZX (ZX (.agg #[Z7 .u8 0,Z7 Z9 0,Z7 Z9 0,Z7 .u8 0]),4,32):=by kernel_rfl
def zx {F:Fence} (p:o.guard=ZY) (x y:Operand) (ho:o.op=.call { callee:=.builtin .append,args:=#[x,y],argTypes:=#[185,185] })
 (n0 q:Nat) (L:List St) (s:St) (v:ZT) (hx:a.eval x=v) (hy:a.eval y=Z5 (ZX ⟨q,0,ZY⟩) 1 1) (h3:w.ownsRow n0 292 4 v L.length (eh .u8 L)) (hc:∀ j u,(GL .u8 s)[j]?=ZX u->w.cell? ((⟨q,0,ZY⟩:Addr).add j)=ZX u) (h6:n0<=w.heap.size) (hL:L.length<=100000)
 (hK:∀ g' cap' w2,n0<=g'->w2.ownsRow n0 292 4 (Z5 (ZX ⟨g',0,ZY⟩) (L.length+1) cap') (L.length+1) (eh .u8 (L++[s]))->w.grownBy w2 v.ownBlock->wpListIn F n ZO ops Q rest (a.put o.dst (Z5 (ZX ⟨g',0,ZY⟩) (L.length+1) cap')) w2):wpListIn F n ZO ops Q (o::rest) a w:=by
 obtain ⟨t,h,i,k,l⟩:=Us Tryz.Tc;refine wpListIn_append_own w p x y 185 ho n0 292 t (.agg #[Z7 .u8 0,Z7 Z9 0,Z7 Z9 0,Z7 .u8 0]) 4 32 underlying185 h i k l rfl (by decide) v L.length (eh .u8 L) hx h3 ⟨q,0,ZY⟩ 1 1 (GL .u8 s) hy (by simp [GL]) hc (λu c=>by simp [GL] at c;rcases c with rfl|rfl|rfl|rfl<;>rfl) (by unfold maxLen;omega) (by omega) h6 ?_;intro z w2 b d _;obtain ⟨g',cap',rfl,f⟩:∃ g' cap',z=Z5 (ZX ⟨g',0,ZY⟩) (L.length+1) cap'/\n0<=g':=by
  rcases b.2 with ⟨_,A⟩|⟨g,cap,cur,r,m,_⟩
  . omega
  . exact ⟨g,cap,r,m⟩
 have e:eh .u8 L++GL .u8 s=eh .u8 (L++[s]):=by rw [qK];simp [eh]
 rw [e] at b;exact hK g' cap' w2 f b d
def jM {xs:List ZT} {t:TypeId} (h:w.ownsRow n0 t 4 v k xs) {q:Nat} (e:v.ownBlock=ZX q):n0<=q:=(h.lt q e).1
def PB.next {L:List St} {s:St} {ob:Obj} (h:Bg<n0) (hn:n0<=W.heap.size) (n:W.heap[Bg]?=ZX (Z4 #[Z7 Z9 regs,v] 187 (0,0))) (f:W.ownsRow n0 292 4 v L.length (eh .u8 L))
 (a:(W.alloc ob).grownBy w2 v.ownBlock) (u:n0<=g') (m:w2.ownsRow n0 292 4 (Z5 (ZX ⟨g',0,ZY⟩) (L.length+1) cap') (L.length+1) (eh .u8 (L++[s]))) :
 PB (w2.setCell ⟨Bg,1,ZY⟩ (Z5 (ZX ⟨g',0,ZY⟩) (L.length+1) cap')) n0 Bg regs (L++[s])/\w2.cell? ⟨Bg,1,ZY⟩=ZX v/\w2.frozen? ⟨Bg,1,ZY⟩=ZV /\
  (∀ k,k<n0->k≠Bg->(w2.setCell ⟨Bg,1,ZY⟩ (Z5 (ZX ⟨g',0,ZY⟩) (L.length+1) cap')).heap[k]?=W.heap[k]?)/\KeepsOthers W (w2.setCell ⟨Bg,1,ZY⟩ (Z5 (ZX ⟨g',0,ZY⟩) (L.length+1) cap')) /\
  (w2.setCell ⟨Bg,1,ZY⟩ (Z5 (ZX ⟨g',0,ZY⟩) (L.length+1) cap')).os=W.os/\(w2.setCell ⟨Bg,1,ZY⟩ (Z5 (ZX ⟨g',0,ZY⟩) (L.length+1) cap')).tape=W.tape/\(w2.setCell ⟨Bg,1,ZY⟩ (Z5 (ZX ⟨g',0,ZY⟩) (L.length+1) cap')).output=W.output:=by
 have hold:∀ k,k<n0->w2.heap[k]?=W.heap[k]?:=λk b=>(a.block k (by simp;omega) (λe=>by have:=jM f e.symm;omega)).trans (nW W _ k (by omega));have d:=(hold Bg h).trans n;obtain ⟨_,c1,l,_⟩:=aw d;have w:W.heap.size<=w2.heap.size:=by have:=a.size;simp at this;omega
 have p:(w2.setCell ⟨Bg,1,ZY⟩ (Z5 (ZX ⟨g',0,ZY⟩) (L.length+1) cap')).heap[Bg]?=ZX (Z4 #[Z7 Z9 regs,Z5 (ZX ⟨g',0,ZY⟩) (L.length+1) cap'] 187 (0,0)):=by
  obtain ⟨r,b⟩:=TX.1 d;show (w2.heap.modify Bg _)[Bg]?=_;rw [VD (by rw [Yw];exact r),YJ,b];rfl
 refine ⟨⟨h,by simp [World.setCell];omega,_,p,?_⟩,c1,l,λk b t=>(V3 _ _ _ _ t).trans (hold k b),?_,a.os,a.tape,a.output⟩
 . have:=m.kept (dk w2 Bg 1 (Z5 (ZX ⟨g',0,ZY⟩) (L.length+1) cap')) (.inr (by simp [Value.ownBlock];omega));simpa using this
 . refine ((KeepsOthers.alloc W ob).trans (aa9 a λj o c i=>?_)).trans (VS _ _ _);rcases (f.alloc ob).2 with ⟨rfl,_⟩|⟨g,cap,cur,rfl,_,q,_⟩
   . simp [Value.ownBlock] at c
   . obtain rfl:g=j:=(by simpa [Value.ownBlock] using c);rw [q] at i;cases i;rfl
theorem PB.own {row:Option Nat} {L:List St} (h:PB X n0 Bg regs L) (hn:n0<=B) (a:X.grownBy Y row) (hr:∀ r,row=ZX r->B<=r/\∃ o:Obj,X.heap[r]?=ZX o/\o.isCells=ZV):PB Y n0 Bg regs L:=by
 obtain ⟨f,i,v,j,b⟩:=h;refine ⟨f,TW i a.size,v,(a.block Bg (by omega) (λe=>by have:=(hr Bg e.symm).1;omega)).trans j,b.kept a ?_⟩;rcases b.2 with ⟨rfl,_⟩|⟨g,cap,cur,rfl,_,d,_⟩
 . exact .inl rfl
 . refine .inr λc=>?_;obtain ⟨_,o,ho,k⟩:=hr g (by simpa [Value.ownBlock] using c.symm);rw [d] at ho;cases ho;cases k
def lQ (C:Ck) (i:Nat):List St:=if cF C i=ZW then ⟨0,0,i,0⟩::((YD C.told).filter (λr=>decide (C.m r i≠0))).map (λr:Nat=>(⟨1,1+(r:Int),0,C.m r i⟩:St)) else []
def wrTo (C:Ck) (pre:a8):List St:=(pre.map (lQ C)).flatten
def xu (C:Ck) (pre:a8) (i:Nat):wrTo C (pre++[i])=wrTo C pre++lQ C i:=by unfold wrTo;simp
def gD (C:Ck) (i k:Nat):List St:=((YD k).filter (λr=>decide (C.m r i≠0))).map (λr:Nat=>(⟨1,1+(r:Int),0,C.m r i⟩:St))
def tK (C:Ck) (i:Nat):gD C i 0=[]:=rfl
def BX (C:Ck) (i k:Nat) (h:C.m k i≠0):gD C i (k+1)=gD C i k++[⟨1,1+(k:Int),0,C.m k i⟩]:=by unfold gD;rw [Vs];simp [h]
def xw (C:Ck) (i k:Nat) (h:C.m k i=0):gD C i (k+1)=gD C i k:=by unfold gD;rw [Vs];simp [h]
def BY (C:Ck) (i k:Nat):(gD C i k).length<=k:=by
 unfold gD;rw [T7];exact TW (Wz _ _) (by simp)
def iz (h:cF C i=ZW):lQ C i=⟨0,0,i,0⟩::gD C i C.told:=by unfold lQ gD;rw [if_pos h]
def lS (h:cF C i=ZV):lQ C i=[]:=by unfold lQ;simp [h]
def Lb (C:Ck) (i:Nat):(lQ C i).length<=C.told+1:=by
 cases h:cF C i
 . rw [lS h];simp
 . rw [iz h];have:=BY C i C.told;simp;omega
theorem rW (C:Ck):∀ pre:a8,(wrTo C pre).length<=pre.length*(C.told+1)
 | []=>by simp [wrTo]
 | i::pre=>by
  have:=rW C pre;have:=Lb C i;have e:wrTo C (i::pre)=lQ C i++wrTo C pre:=by unfold wrTo;simp
  rw [e,T8,Uv,WH];omega
def fC (pre:a8):List St:=(YD pre.length).map (λk:Nat=>(⟨2,(k:Int)+1,((pre.getD k 0:Nat):Int),0⟩:St))
theorem Eg (pre:a8) (i:Nat):fC (pre++[i])=fC pre++[⟨2,(pre.length:Int)+1,i,0⟩]:=by
 unfold fC;rw [T8,aa4,Vs,Uw];congr 1
 . apply YE;intro k a;have:=Uy.1 a;simp [this,Vx]
 . simp
def fM (C:Ck) (gone kept:Nat):List St:=wrTo C (ab kept)++fC (ab gone)
def Eh {B:Ck} {s:St} (h:s∈fM B gone kept):(∃ i∈ab kept,s=⟨0,0,(i:Int),0⟩)\/(∃ i∈ab kept,∃ r,r<B.told/\s=⟨1,1+(r:Int),0,B.m r i⟩)\/(∃ k,∃ d:k<(ab gone).length,s=⟨2,(k:Int)+1,((ab gone)[k]:Int),0⟩):=by
 unfold fM wrTo at h;rcases Uf.1 h with h|h
 . obtain ⟨l,hl,a⟩:=Yy.1 h;obtain ⟨i,c,rfl⟩:=T6.1 hl;cases hr:cF B i
   . rw [lS hr] at a;cases a
   . rw [iz hr] at a;rcases Ur.1 a with rfl|a
     . exact .inl ⟨i,c,rfl⟩
     . unfold gD at a;obtain ⟨r,e,rfl⟩:=T6.1 a;exact .inr (.inl ⟨i,c,r,Uy.1 (Vz.1 e).1,rfl⟩)
 . unfold fC at h;obtain ⟨k,d,rfl⟩:=T6.1 h;have b:=Uy.1 d;exact .inr (.inr ⟨k,b,by simp [b]⟩)
def P7 {B:Ck} (gone kept:Nat) (e:B.told<=8):(fM B gone kept).length<=160:=by
 have:=rW B (ab kept);have a:∀ s,(ab s).length<=16:=λs=>TW (Wz _ _) (by simp);have:(ab kept).length*(B.told+1)<=16*9:=Xo (a kept) (by omega);have:=a gone;unfold fM fC;simp only [T8,T7,UC];omega
def Rz {B:Ck} (h:B.told=(ab gone).length) (b:B.told<=8) (g:∀ i∈ab kept,i<n) (d:∀ i∈ab gone,i<n):iJ (1+((ab gone).length:Int)) (fM B gone kept) (n:Int):=by
 have:=P7 gone kept b;refine ⟨⟨by omega,by omega,by omega⟩,λi f=>?_⟩;rcases Eh (T4 f) with ⟨j,a,e⟩|⟨j,a,r,hr,e⟩|⟨k,c,e⟩
 . have:=g j a;rw [e];exact .inl ⟨.inl rfl,by show (0:Int)<=0;omega,by show (0:Int)<_;omega,by show (0:Int)<=(j:Int);omega,by show (j:Int)<_;omega⟩
 . rw [e];exact .inr ⟨rfl,by show (0:Int)<=1+(r:Int);omega,by show (1+(r:Int))<_;omega,by show (0:Int)<=0;omega,by show (0:Int)<_;omega,by show (1+(r:Int))≠0;omega⟩
 . have:=d _ (T4 c);rw [e];exact .inl ⟨.inr rfl,by show (0:Int)<=(k:Int)+1;omega,by show ((k:Int)+1)<_;omega,by show (0:Int)<=((ab gone)[k]:Int);omega,by show ((ab gone)[k]:Int)<_;omega⟩
def oG (hD:D<=12) (hG:G<=4) {C:Ck} (d:tells (ll D L G) (ab (aC (D+L+G) lost))=ZX C) :
 Gr (mf (aT D L G)) D (L+G) (ab (aC (D+L+G) lost)) (aP 8 C (bz (D+L+G) lost)).1/\fj (mR (mf (aT D L G)) D (L+G)) (Di (mf (aT D L G)) D (D+(L+G))) (ab (aC (D+L+G) lost)) C:=by
 have e:=oF D L G hD hG;rcases e.told (ab (aC (D+L+G) lost)) with ⟨f,b,c⟩|⟨b,_⟩
 . have a:tells (ll D L G) (ab (aC (D+L+G) lost))=ZX f:=b;rw [d] at a;obtain rfl:=UI a;exact ⟨e.Tb c (yC 8 C _).1,c⟩
 . have a:tells (ll D L G) (ab (aC (D+L+G) lost))=ZY:=b;rw [d] at a;cases a
def b9 (D L G lost:Nat) (C:Ck):List St:=fM (aP 8 C (bz (D+L+G) lost)).1 (aC (D+L+G) lost) (bz (D+L+G) lost)
section
def lj (D:List a8) (R:List a8) (P:List St):List a8:=P.foldl (λR s=>dH D s R) R
def tL (D R:List a8):lj D R []=R:=rfl
def HU (D R:List a8) (s:St) (P:List St):lj D R (s::P)=lj D (dH D s R) P:=rfl
def lT (D R:List a8) (P Q:List St):lj D R (P++Q)=lj D (lj D R P) Q:=by unfold lj;rw [V9]
def tM (P:List St) (D a:List a8):∀ k,k<=P.length->bP P D a k=lj D a (P.take k)
 | 0,_=>by simp [bP,lj]
 | k+1,h=>by
  have b:k<P.length:=by omega
  show dH D (bI P k) (bP P D a k)=_;rw [tM P D a k (by omega),dO P k b,aba b,lT];rfl
def tN (P:List St) (D a:List a8):∀ k,k<=P.length->(∀ i (h:i<P.length),i<k->P[i].k≠2)->dq P D a k=[]
 | 0,_,_=>rfl
 | k+1,h,hn=>by
  have b:k<P.length:=by omega
  show ik (bI P k) _ _=[];rw [tN P D a k (by omega) (λi c d=>hn i c (by omega)),dO P k b];unfold ik;rw [if_neg (hn k b (by omega))]
def BZ (D R:List a8) {s:St} (h:s.k=2):dH D s R=R:=by
 unfold dH;rw [if_neg (by omega),if_neg (by omega)]
def tP (A Q:List St) (D c:List a8) (g:∀ s∈A,s.k≠2) (j:∀ s∈Q,s.k=2):∀ k,k<=Q.length ->
 bP (A++Q) D c (A.length+k)=lj D c A/\dq (A++Q) D c (A.length+k)=(Q.take k).map (λs=>(s.b,(lj D c A).getD s.a.toNat []))
 | 0,_=>by
  refine ⟨?_,?_⟩
  . rw [VJ,tM _ _ _ _ (by simp)];simp
  . rw [VJ,tN _ _ _ _ (by simp) (λi l d=>by rw [Xu d];exact g _ (T4 d))];simp
 | k+1,h=>by
  obtain ⟨e,o⟩:=tP A Q D c g j k (by omega);have m:k<Q.length:=by omega
  have l:A.length+k<(A++Q).length:=by simp;omega
  have n:bI (A++Q) (A.length+k)=Q[k]:=by rw [dO _ _ l,Xt (by omega)];simp
  have f:=j _ (T4 m);refine ⟨?_,?_⟩
  . show dH D (bI (A++Q) (A.length+k)) (bP (A++Q) D c (A.length+k))=_;rw [n,e,BZ D _ f]
  . show ik (bI (A++Q) (A.length+k)) (bP (A++Q) D c (A.length+k)) (dq (A++Q) D c (A.length+k))=_;rw [n,e,o];unfold ik;rw [if_pos f,aba m,Uw];rfl
def xl (f:Nat->Nat) (K:a8):Nat:=K.foldr (λi a=>f i^^^a) 0
def Lc (f:Nat->Nat):xl f []=0:=rfl
def zy (f:Nat->Nat) (i:Nat) (K:a8):xl f (i::K)=f i^^^xl f K:=rfl
theorem B1 (f:Nat->Nat) (p:Nat->Bool):∀ n,xl f ((YD n).filter p)=xs (λi=>if p i=ZW then f i else 0) n
 | 0=>rfl
 | n+1=>by
  have b:∀ A B:a8,xl f (A++B)=xl f A^^^xl f B:=by
   intro A B;induction A with
   | nil=>rw [Uk,Lc,VL]
   | cons a A ih=>rw [UL,zy,zy,ih,Vo]
  rw [Vs,Wd,b,B1 f p n];show _=xs _ n^^^(if p n=ZW then f n else 0);congr 1;by_cases h:p n=ZW
  . rw [if_pos h];simp [h,xl]
  . rw [if_neg h];simp [h,xl]
structure Rg (R:List a8) (T m:Nat) (v:Nat->Nat->Nat):Prop where
 len:R.length=1+T
 row:∀ r,r<T->R.getD (1+r) []=(YD m).map (v r)
def oH {R:List a8} {a:Nat} {x:a8} (c:a<R.length):(R.set a x).getD b []=if a=b then x else R.getD b []:=by
 rw [T5,XP];by_cases e:a=b
 . subst e;simp [c]
 . simp [e]
theorem Ei (m:Nat) (v:Nat->Nat) (y:a8) (c:Nat):iK ((YD m).map v) y c=(YD m).map (λq=>v q^^^gm c (y.getD q 0)):=by
 unfold iK;rw [T7,UC];apply YE;intro q a;have:=Uy.1 a;simp [this]
theorem B4 (B:Ck) (D:List a8) (i T m:Nat) (y:a8) (v:Nat->Nat->Nat) {R:List a8} (g:Rg R T m v) (h:R.getD 0 []=y):∀ k,k<=T ->
 (lj D R (gD B i k)).getD 0 []=y/\Rg (lj D R (gD B i k)) T m (λr q=>if r<k then v r q^^^gm (B.m r i) (y.getD q 0) else v r q)
 | 0,_=>by rw [tK,tL];exact ⟨h,g.len,λr hr=>by rw [g.row r hr];simp⟩
 | k+1,hk=>by
  obtain ⟨d,a⟩:=B4 B D i T m y v g h k (by omega);by_cases f:B.m k i=0
  . rw [xw B i k f];refine ⟨d,a.len,λr hr=>?_⟩;rw [a.row r hr];apply YE;intro q _;by_cases c:r<k
    . rw [if_pos c,if_pos (by omega)]
    . by_cases e:r=k
      . subst e;rw [if_neg c,if_pos (by omega),f,cT,U8]
      . rw [if_neg c,if_neg (by omega)]
  . rw [BX B i k f,lT];generalize h5:lj D R (gD B i k)=b at d a;have j:lj D b [⟨1,1+(k:Int),0,B.m k i⟩]=b.set (1+k) (iK (b.getD (1+k) []) (b.getD 0 []) (B.m k i)):=by
     show dH D ⟨1,1+(k:Int),0,B.m k i⟩ b=_;unfold dH;have e:(1+(k:Int)).toNat=1+k:=(by omega);simp only [e];rw [if_neg (by decide),if_pos trivial];rfl
    have hl:1+k<b.length:=(by rw [a.len];omega);rw [j];refine ⟨by rw [oH hl,if_neg (by omega)];exact d,by rw [Wm];exact a.len,λr hr=>?_⟩;rw [oH hl,d];by_cases e:r=k
    . subst e;rw [if_pos rfl,a.row r hr,Ei];apply YE;intro q _;rw [if_neg (by omega),if_pos (by omega)]
    . rw [if_neg (by omega),a.row r hr];apply YE;intro q _;by_cases c:r<k
      . rw [if_pos c,if_pos (by omega)]
      . rw [if_neg c,if_neg (by omega)]
theorem NG (B:Ck) (D:List a8) (i m:Nat) (v:Nat->Nat->Nat) {R:List a8} (a:Rg R B.told m v):Rg (lj D R (lQ B i)) B.told m (λr q=>v r q^^^gm (B.m r i) ((D.getD i []).getD q 0)):=by
 cases hr:cF B i
 . rw [lS hr,tL];refine ⟨a.len,λr h=>?_⟩;rw [a.row r h];apply YE;intro q _;rw [gZ.1 hr r h,cT,U8]
 . rw [iz hr,HU];have b:0<R.length:=(by rw [a.len];omega);have e:dH D ⟨0,0,(i:Int),0⟩ R=R.set 0 (D.getD i []):=by
    unfold dH;rw [if_pos rfl];rfl
   rw [e];have d:Rg (R.set 0 (D.getD i [])) B.told m v:=⟨by rw [Wm];exact a.len,λr h=>by rw [oH b,if_neg (by omega)];exact a.row r h⟩;obtain ⟨_,c⟩:=B4 B D i B.told m (D.getD i []) v d (by rw [oH b,if_pos rfl]) B.told lR;refine ⟨c.len,λr h=>?_⟩;rw [c.row r h];apply YE;intro q _;rw [if_pos h]
theorem Ld (B:Ck) (D:List a8) (m:Nat):∀ (K:a8) (v:Nat->Nat->Nat) (R:List a8),Rg R B.told m v->Rg (lj D R (wrTo B K)) B.told m (λr q=>v r q^^^xl (λi=>gm (B.m r i) ((D.getD i []).getD q 0)) K)
 | [],v,R,h=>by
  rw [show wrTo B []=[] from rfl,tL];exact ⟨h.len,λr hr=>by rw [h.row r hr];simp [Lc]⟩
 | i::K,v,R,h=>by
  have e:wrTo B (i::K)=lQ B i++wrTo B K:=by unfold wrTo;simp
  rw [e,lT];have:=Ld B D m K _ _ (NG B D i m v h);refine ⟨this.len,λr hr=>?_⟩;rw [this.row r hr];apply YE;intro q _;rw [zy,Vo]
def Le (T m:Nat):Rg (eJ (1+T) m) T m (λ_ _=>0):=by
 refine ⟨by simp [eJ],λr hr=>?_⟩;unfold eJ;have:1+r<1+T:=by omega
 rw [T5,Wq,if_pos this];simp [List.map_const']
def Lf {D:List a8} (h:∀ s∈P,s.k=0->(D.getD s.b.toNat []).length=m):∀ k,k<=P.length->fl P D k=ZY\/fl P D k=ZX m
 | 0,_=>.inl rfl
 | k+1,hk=>by
  rcases Lf h k (by omega) with e|e
  . by_cases a:(bI P k).k=0
    . rw [yR P D k e a];rw [dO P k (by omega)] at a ⊢;exact .inr (by rw [h _ (T4 _) a])
    . rw [sP P D k a];exact .inl e
  . exact .inr (nY P D k m e)
def Ca {D:List a8} (h:∀ s∈P,s.k=0->(D.getD s.b.toNat []).length=m) {k:Nat} (a:k<P.length) (c:P[k].k=0):fl P D (k+1)=ZX m:=by
 rcases Lf h k (by omega) with e|e
 . rw [yR P D k e (by rw [dO P k a];exact c),dO P k a,h _ (T4 a) c]
 . exact nY P D k m e
def Jo (S:List a8) (lost:Nat):List a8:=(YD S.length).map (λi=>if lost.testBit i=ZW then [] else S.getD i [])
def zA (S:List a8) (lost i:Nat) (a:i<S.length):(Jo S lost).getD i []=if lost.testBit i=ZW then [] else S.getD i []:=by simp [Jo,a]
def Lg (row:a8) (Dt:List a8) (q:Nat):∀ t,Ni row Dt t q=xs (λj=>gm (row.getD j 0) ((Dt.getD j []).getD q 0)) t
 | 0=>rfl
 | t+1=>by
  show Ni row Dt t q^^^gm (row.getD t 0) ((Dt.getD t []).getD q 0)=xs (λj=>gm (row.getD j 0) ((Dt.getD j []).getD q 0)) t^^^gm (row.getD t 0) ((Dt.getD t []).getD q 0);rw [Lg row Dt q t]
def P8 (a:i<M.length) (j:Nat):mf M i j=(M[i]).getD j 0:=by unfold mf;simp [a]
theorem zB (M Dt:List a8) (m i:Nat) (a:i<M.length):(eR M Dt m).getD i []=(YD m).map (λq=>xs (λj=>gm (mf M i j) ((Dt.getD j []).getD q 0)) Dt.length):=by
 have e:(eR M Dt m).getD i []=cI M[i] Dt m Dt.length:=by simp [eR,a]
 rw [e];unfold cI;apply YE;intro q _;rw [Lg];exact iG _ (λj _=>by rw [P8 a])
def zC (M Dt:List a8) (m:Nat):(eR M Dt m).length=M.length:=by simp [eR]
def oI:nX lost i↔lost.testBit i=ZW:=by
 unfold nX;rw [XG];simp
section
variable {D L G lost m:Nat} {C:Ck} {Dt:List a8}
def lU (c:D+L+G<=16) {s:St} (e:s∈b9 D L G lost C) (a:s.k=0):∃ i:Nat,s.b=(i:Int)/\i<D+L+G/\lost.testBit i=ZV:=by
 rcases Eh e with ⟨i,d,rfl⟩|⟨_,_,_,_,rfl⟩|⟨_,_,rfl⟩
 . exact ⟨i,rfl,(oE c).1 d⟩
 . exact absurd a (Nat.one_ne_zero)
 . exact absurd a (Nat.succ_ne_zero 1)
def zD (c:D+L+G<=16):∀ s∈b9 D L G lost C,s.k=0->((Jo (eR (aT D L G) Dt m) lost).getD s.b.toNat []).length=m:=by
 intro s f a;obtain ⟨i,d,e,hl⟩:=lU c f a;have:(eR (aT D L G) Dt m).length=D+L+G:=by rw [zC,di]
 rw [d,Vy,zA _ _ _ (by omega),if_neg (by rw [hl];decide),zB _ _ _ _ (by rw [di];exact e)];simp
def NH (c:D+L+G<=16) (h:m<=4096):gz (b9 D L G lost C) (Jo (eR (aT D L G) Dt m) lost) lost:=by
 intro i b a;rw [dO _ _ b] at a ⊢;have e:=zD (m:=m) (Dt:=Dt) c _ (T4 b) a;obtain ⟨j,f,g,hl⟩:=lU c (T4 b) a;refine ⟨λd=>?_,by rw [e];exact Ca (zD c) b a,by omega⟩;rw [f,Vy] at d;have:=oI.1 d;rw [hl] at this;cases this
theorem Ej (b:D+L+G<=16) (a:0<iD (ab (bz (D+L+G) lost)) (aP 8 C (bz (D+L+G) lost)).1):eo (b9 D L G lost C) (Jo (eR (aT D L G) Dt m) lost)=m:=by
 unfold iD at a;obtain ⟨i,g⟩:=List.exists_mem_of_length_pos a;obtain ⟨c,d⟩:=Vz.1 g;have j:(⟨0,0,(i:Int),0⟩:St)∈b9 D L G lost C:=by
  unfold b9 fM wrTo;refine UB _ (Yy.2 ⟨lQ _ i,T6.2 ⟨i,c,rfl⟩,?_⟩);rw [iz d];exact UZ
 obtain ⟨k,h,e⟩:=U0 j;have f:=Ca (zD (m:=m) (Dt:=Dt) b) h (by rw [e]);have:=Fz _ _ _ _ f (b9 D L G lost C).length (by omega);unfold eo;rw [this];rfl
theorem NI (hD:D<=12) (hG:G<=4) (b:D+L+G<=16) (F:tells (ll D L G) (ab (aC (D+L+G) lost))=ZX C) (p:Dt.length=D) (S:∀ l∈Dt,∀ x∈l,x<256) :
 ∃ O,dq (b9 D L G lost C) (Jo (eR (aT D L G) Dt m) lost) (eJ (1+(ab (aC (D+L+G) lost)).length) (eo (b9 D L G lost C) (Jo (eR (aT D L G) Dt m) lost))) (b9 D L G lost C).length=O /\
  O.length=(ab (aC (D+L+G) lost)).length/\∀ k (Q:k<O.length) (f:k<(ab (aC (D+L+G) lost)).length),O[k].1=(((ab (aC (D+L+G) lost))[k]:Nat):Int)/\(0<iD (ab (bz (D+L+G) lost)) (aP 8 C (bz (D+L+G) lost)).1->O[k].2=(eR (aT D L G) Dt m).getD (ab (aC (D+L+G) lost))[k] []):=by
 obtain ⟨o,_⟩:=oG hD hG F;have I:=oF D L G hD hG;have e:D+(L+G)=D+L+G:=by omega
 have H:(b9 D L G lost C).length=(wrTo (aP 8 C (bz (D+L+G) lost)).1 (ab (bz (D+L+G) lost))).length+(fC (ab (aC (D+L+G) lost))).length:=by unfold b9 fM;rw [T8]
 have K:(fC (ab (aC (D+L+G) lost))).length=(ab (aC (D+L+G) lost)).length:=by unfold fC;simp
 have P:=λw=>tP (wrTo (aP 8 C (bz (D+L+G) lost)).1 (ab (bz (D+L+G) lost))) (fC (ab (aC (D+L+G) lost))) (Jo (eR (aT D L G) Dt m) lost) w (λs a=>by
  unfold wrTo at a;obtain ⟨l,hl,a⟩:=Yy.1 a;obtain ⟨i,c,rfl⟩:=T6.1 hl;cases hr:cF (aP 8 C (bz (D+L+G) lost)).1 i
  . rw [lS hr] at a;cases a
  . rw [iz hr] at a;rcases Ur.1 a with rfl|a
    . exact (by decide:(0:Nat)≠2)
    . unfold gD at a;obtain ⟨r,_,rfl⟩:=T6.1 a;exact (by decide:(1:Nat)≠2)) (λs a=>by
  unfold fC at a;obtain ⟨k,_,rfl⟩:=T6.1 a;rfl) _ lR
 refine ⟨_,rfl,?_⟩;rw [H];have g:=(P (eJ (1+(ab (aC (D+L+G) lost)).length) (eo (b9 D L G lost C) (Jo (eR (aT D L G) Dt m) lost)))).2;rw [VC] at g;rw [show b9 D L G lost C=wrTo (aP 8 C (bz (D+L+G) lost)).1 (ab (bz (D+L+G) lost))++fC (ab (aC (D+L+G) lost)) from rfl] at g ⊢;rw [g];refine ⟨by simp [K],λk Q f=>?_⟩;have:k<(fC (ab (aC (D+L+G) lost))).length:=by omega
 have E:(fC (ab (aC (D+L+G) lost)))[k]=⟨2,(k:Int)+1,(((ab (aC (D+L+G) lost))[k]:Nat):Int),0⟩:=by
  simp [fC,f]
 rw [Ve,E];refine ⟨rfl,λA=>?_⟩;have v:=Ej (m:=m) (Dt:=Dt) b A;rw [show b9 D L G lost C=wrTo (aP 8 C (bz (D+L+G) lost)).1 (ab (bz (D+L+G) lost))++fC (ab (aC (D+L+G) lost)) from rfl] at v;rw [v];have N:=Ld (aP 8 C (bz (D+L+G) lost)).1 (Jo (eR (aT D L G) Dt m) lost) m (ab (bz (D+L+G) lost)) (λ_ _=>0) (eJ (1+(ab (aC (D+L+G) lost)).length) m) (by rw [o.told];exact Le _ _);have B:=N.row k (by rw [o.told];exact f);have z:((k:Int)+1).toNat=1+k:=by omega
 show (lj _ _ _).getD ((k:Int)+1).toNat []=_;rw [z,B,zB _ _ _ _ (by rw [di];exact ((dS b).1 (T4 f)).1)];apply YE;intro q R;have M:=Uy.1 R;have u:=o.sum I (λi c=>by rw [e];exact ((dS b).1 c).1) (λj=>(Dt.getD j []).getD q 0) (λj=>by
  show (Dt.getD j []).getD q 0<256;by_cases n:j<Dt.length
  . have y:Dt.getD j []=Dt[j]:=(by simp [n]);rw [y];exact ez (S _ (T4 n)) q
  . simp [n]) k f
 rw [e] at u;rw [p,<- u,VL];rw [show ab (bz (D+L+G) lost)=(YD 16).filter (λi=>(bz (D+L+G) lost).testBit i) from rfl,B1];obtain ⟨d,J⟩:=Nat.exists_eq_add_of_le b;rw [J,Dh];have T:xs (λi=>if (bz (D+L+G) lost).testBit (D+L+G+i)=ZW then gm ((aP 8 C (bz (D+L+G) lost)).1.m k (D+L+G+i)) (((Jo (eR (aT D L G) Dt m) lost).getD (D+L+G+i) []).getD q 0) else 0) d=0:=eU d (λi _=>by
  rw [if_neg];rw [pX _ _ b,show decide (D+L+G+i<D+L+G)=ZV from decide_eq_false (by omega)];simp)
 rw [T,U8];apply iG;intro i c;have:(eR (aT D L G) Dt m).length=D+L+G:=by rw [zC,di]
 rw [pX _ _ b];have t:i∈ab (aC (D+L+G) lost)↔lost.testBit i=ZW:=by
  rw [dS b];exact ⟨λh=>h.2,λh=>⟨c,h⟩⟩
 cases hb:lost.testBit i
 . rw [if_pos (show (decide (i<D+L+G) && !false)=ZW by simp [c]),if_neg (λh=>by rw [t,hb] at h;cases h),zA _ _ _ (by omega),if_neg (by rw [hb];decide),zB _ _ _ _ (by rw [di];exact c),p];congr 1;simp [M]
 . rw [if_neg (show ¬ (decide (i<D+L+G) && !true)=ZW by simp),if_pos (t.2 hb)]
end
theorem Lh (hD:D<=12) (hG:G<=4) (b:D+L+G<=16) (c:tells (ll D L G) (ab (aC (D+L+G) lost))=ZX C):∀ s∈b9 D L G lost C,yP s:=by
 intro s g;have a:=(oG hD hG c).1;have:=a.le;have:=a.Sg;rcases Eh g with ⟨i,e,rfl⟩|⟨i,_,r,hr,rfl⟩|⟨j,f,rfl⟩
 . have:=((oE b).1 e).1;exact ⟨by show 0<256;decide,by show -9223372036854775808<=(0:Int);omega,by show (0:Int)<=9223372036854775807;omega,by show -9223372036854775808<=(i:Int);omega,by show (i:Int)<=9223372036854775807;omega,by show 0<256;decide⟩
 . exact ⟨by show 1<256;decide,by show -9223372036854775808<=(1:Int)+(r:Int);omega,by show (1:Int)+(r:Int)<=9223372036854775807;omega,by show -9223372036854775808<=(0:Int);omega,by show (0:Int)<=9223372036854775807;omega,a.byt r i⟩
 . have:(ab (aC (D+L+G) lost)).length<=16:=TW (Wz _ _) (by simp);have d:=((dS b).1 (T4 f)).1;generalize (ab (aC (D+L+G) lost))[j]=y at d;exact ⟨by show 2<256;decide,by show -9223372036854775808<=(j:Int)+1;omega,by show (j:Int)+1<=9223372036854775807;omega,by show -9223372036854775808<=(y:Int);omega,by show (y:Int)<=9223372036854775807;omega,by show 0<256;decide⟩
def P9 (hD:D<=12) (hL:L<=4) (hG:G<=4) (c:D+L+G<=16) (d:tells (ll D L G) (ab (aC (D+L+G) lost))=ZX C):iJ (1+((ab (aC (D+L+G) lost)).length:Int)) (b9 D L G lost C) ((D+L+G:Nat):Int):=by
 have b:=(oG hD hG d).1;have:=b.le;have:=b.Sg;exact Rz b.told (by omega) (λi a=>((oE c).1 a).1) (λi a=>((dS c).1 a).1)
end
def mfl (a:g<L) (j:Nat) (b:j<D):mf (aT D L G) (D+g) j=if g*(D/L)<=j/\j<(g+1)*(D/L) then 1 else 0:=by
 unfold mf aT;have e:((YD D).map (dN D)++(YD L).map (eO D L)++(YD G).map (dF D)).getD (D+g) []=eO D L g:=by
  rw [Uz,T5,U3 (by simp)];simp only [T7,UC,WC];rw [Vx (by simpa using a)];simp [a]
 rw [e];unfold eO;simp [b]
def mfg (a:i<G) (j:Nat) (b:j<D):mf (aT D L G) (D+L+i) j=gi ((D+i)^^^j):=by
 unfold mf aT;have e:((YD D).map (dN D)++(YD L).map (eO D L)++(YD G).map (dF D)).getD (D+L+i) []=dF D i:=by
  rw [T5,U3 (by simp)];simp only [T8,T7,UC,WC];simp [a]
 rw [e];unfold dF;simp [b]
def Qa (o:1<=D) (hD:D<=12) (hG:G<=4) (k:D%L=0) (p:d<D+L+G):∃ j,j<D/\mf (aT D L G) d j≠0:=by
 by_cases a:d<D
 . refine ⟨d,a,?_⟩;unfold mf;rw [FM D L G d a];unfold dN;simp [a]
 . by_cases n:d<D+L
   . obtain ⟨g,rfl⟩:∃ g,d=D+g:=⟨d-D,by omega⟩;have h:g<L:=(by omega);have c:D/L*L=D:=Nat.div_mul_cancel (Nat.dvd_of_mod_eq_zero k);have m:0<D/L:=YN λe=>by rw [e] at c;omega
     have f:g*(D/L)<D:=by
      have b:=Nat.mul_lt_mul_of_pos_right h m;rw [Wl L,c] at b;exact b
     refine ⟨g*(D/L),f,?_⟩;rw [mfl h _ f,if_pos ⟨TV _,by rw [Xm];omega⟩];decide
   . obtain ⟨i,rfl⟩:∃ i,d=D+L+i:=⟨d-(D+L),by omega⟩;have l:i<G:=(by omega);refine ⟨0,by omega,?_⟩;rw [mfg l 0 (by omega),U8];exact QU (by omega) (by omega)
theorem NJ (u:1<=D) (hD:D<=12) (hG:G<=4) (t:D%L=0) (b:D+L+G<=16) (z:tells (ll D L G) (ab (aC (D+L+G) lost))=ZX C) (n:d<D+L+G) (hl:lost.testBit d=ZW):0<iD (ab (bz (D+L+G) lost)) (aP 8 C (bz (D+L+G) lost)).1:=by
 apply YN;intro h;obtain ⟨r,_⟩:=oG hD hG z;have l:=oF D L G hD hG;have e:D+(L+G)=D+L+G:=by omega
 obtain ⟨k,o,w⟩:=U0 ((dS b).2 ⟨n,hl⟩);obtain ⟨j,A,x⟩:=Qa u hD hG t n;have y:∀ i,i∈ab (bz (D+L+G) lost)->cF (aP 8 C (bz (D+L+G) lost)).1 i=ZV:=λi a=>by
  cases hr:cF (aP 8 C (bz (D+L+G) lost)).1 i
  . rfl
  . unfold iD at h;have:=UP h;have p:i∈(ab (bz (D+L+G) lost)).filter (cF (aP 8 C (bz (D+L+G) lost)).1):=Vz.2 ⟨a,hr⟩;rw [this] at p;cases p
 have c:=r.sum l (λi a=>by rw [e];exact ((dS b).1 a).1) (λq=>if q=j then 1 else 0) (λq=>by show (if q=j then 1 else 0)<256;split<;>decide) k o;rw [e,w] at c;have E:=eU (f:=λi=>if i∈ab (aC (D+L+G) lost) then 0 else gm ((aP 8 C (bz (D+L+G) lost)).1.m k i) (xs (λq=>gm (mf (aT D L G) i q) (if q=j then 1 else 0)) D)) (D+L+G) (λi a=>by
  by_cases g:i∈ab (aC (D+L+G) lost)
  . rw [if_pos g]
  . have v:lost.testBit i=ZV:=by
     cases hb:lost.testBit i
     . rfl
     . exact absurd ((dS b).2 ⟨a,hb⟩) g
    have:=gZ.1 (y i ((oE b).2 ⟨a,v⟩)) k (by rw [r.told];exact o);rw [if_neg g,this,cT])
 rw [E] at c;have s:=pt (f:=λq=>gm (mf (aT D L G) d q) (if q=j then 1 else 0)) (k:=j) D A (λq _ B=>by rw [if_neg B,de]);rw [s,if_pos rfl,gI _ (l.byt d j)] at c;exact x c.symm
section
section
variable {P:List St} {A B:List a8} (h:∀ k,k<P.length->(bI P k).k=0->A.getD (bI P k).b.toNat []=B.getD (bI P k).b.toNat [])
include h
def zE:∀ k,k<=P.length->fl P A k=fl P B k
 | 0,_=>rfl
 | k+1,hk=>by
  have ih:=zE k (by omega);unfold fl;rw [ih];cases fl P B k with
  | some n=>rfl
  | none=>
   show (if (bI P k).k=0 then _ else _)=if (bI P k).k=0 then _ else _;by_cases a:(bI P k).k=0
   . rw [if_pos a,if_pos a,h k (by omega) a]
   . rw [if_neg a,if_neg a]
def tQ (b:List a8):∀ k,k<=P.length->bP P A b k=bP P B b k
 | 0,_=>rfl
 | k+1,hk=>by
  unfold bP;rw [tQ b k (by omega)];unfold dH;by_cases a:(bI P k).k=0
  . rw [if_pos a,if_pos a,h k (by omega) a]
  . rw [if_neg a,if_neg a]
def tR (a:List a8):∀ k,k<=P.length->dq P A a k=dq P B a k
 | 0,_=>rfl
 | k+1,hk=>by
  unfold dq;rw [tR a k (by omega),tQ h a k (by omega)]
def Cb:eo P A=eo P B:=by unfold eo;rw [zE h _ lR]
def Li {y:Nat} (f:gz P B y) (g:∀ k,k<P.length->(bI P k).k=0->¬ nX x (bI P k).b.toNat):gz P A x:=λk c a=>by
 obtain ⟨_,d,e⟩:=f k c a;rw [<- zE h (k+1) (by omega),<- h k c a] at d;rw [<- h k c a] at e;exact ⟨g k c a,d,e⟩
end
def NK {dl Dl:List a8} (v:1<=D) (hD:D<=12) (hG:G<=4) (q:D%L=0) (f:D+L+G<=16) (j:tells (ll D L G) (ab (aC (D+L+G) s))=ZX C) (z:d<D+L+G) (H:s.testBit d=ZW) (r:dl.length=D) (I:∀ l∈dl,∀ x∈l,x<256)
 (e:∀ i,(As (b9 D L G s C)).testBit i=ZW->Dl.getD i []=(eR (aT D L G) dl 44).getD i []/\x.testBit i=ZV) :
 gz (b9 D L G s C) Dl x/\dq (b9 D L G s C) Dl (eJ (1+(ab (aC (D+L+G) s)).length) (eo (b9 D L G s C) Dl)) (b9 D L G s C).length=(ab (aC (D+L+G) s)).map (λd:Nat=>((d:Int),(eR (aT D L G) dl 44).getD d [])):=by
 have h:∀ k,k<(b9 D L G s C).length->(bI (b9 D L G s C) k).k=0->(As (b9 D L G s C)).testBit (bI (b9 D L G s C) k).b.toNat=ZW:=λk e a=>by
  rw [dO _ _ e] at a ⊢;exact (rS _ _).2 ⟨_,T4 e,a,rfl⟩
 have g:∀ k,k<(b9 D L G s C).length->(bI (b9 D L G s C) k).k=0->Dl.getD (bI (b9 D L G s C) k).b.toNat []=(Jo (eR (aT D L G) dl 44) s).getD (bI (b9 D L G s C) k).b.toNat []:=λk c a=>by
  rw [(e _ (h k c a)).1];rw [dO _ _ c] at a ⊢;obtain ⟨i,w,F,hl⟩:=lU f (T4 c) a;rw [w,Vy,zA _ _ _ (by rw [zC,di];exact F),if_neg (by rw [hl];decide)]
 refine ⟨Li g (NH f (by decide)) λk c a E=>?_,?_⟩
 . have:=(e _ (h k c a)).2;rw [oI.1 E] at this;cases this
 . obtain ⟨O,u,A,y⟩:=NI (m:=44) (Dt:=dl) hD hG f j r I;have B:=NJ v hD hG q f j z H;rw [tR g _ _ lR,Cb g,u];refine Vh (by simp [A]) λk p J=>?_;have t:k<(ab (aC (D+L+G) s)).length:=(by omega);obtain ⟨n,o⟩:=y k p t;rw [Ve,<- n,<- o B]
end
def Ia (s:Nat) (w:ZU) (ad:Addr) (u:ZT) (Dn:Nat->Bool) (w':ZU):Prop:=w'=if Dn s=ZW then w.drew.setCell ad u else w.drew
def bX (h:Ia s w ad u Dn w') (i:Nat) (a:s≠i):Ia s w ad u (fI Dn i) w':=by unfold Ia;rw [bZ a];exact h
theorem jN (h:Ia s w ad u Dn w') {a:Addr} (c:a.block≠ad.block) {v:ZT} (b:w.cell? a=ZX v):w'.cell? a=ZX v:=by
 unfold Ia at h;subst h;split
 . exact (Ul (Ud _ _ _ _ c)).trans b
 . exact b
def oJ (h:Ia s w ad u Dn w') (hn:Dn s=ZV):w'=w.drew:=by
 unfold Ia at h;rwa [if_neg (by rw [hn];decide)] at h
def Cc (h:Ia s w ad u Dn w') (hn:Dn s=ZW):w'=w.drew.setCell ad u:=by
 unfold Ia at h;rwa [if_pos hn] at h
noncomputable def RFg:Array Oper:=((Tryz.f125.body.bind (pe · 14))).getD #[]
def RA:List (Op×Option Nat×a8):=[(Op.load 162 (Z1 2),ZX 91,[]),
 (Op.load 162 (Z1 2),ZX 92,[]),
 (Op.nilCheck (Z1 92),ZX 93,[1]),
 (Op.fieldAddr 216 (Z1 93) 3,ZX 94,[2]),
 (Op.load 131 (Z1 94),ZX 95,[3]),
 (Op.move (Z1 4),ZX 96,[]),
 (Op.call { callee:=Callee.value (Operand.func 101),args:=#[Z1 95,Z1 96],argTypes:=#[131,3] },ZX 97,[4,5]),
 (Op.nilCheck (Z1 91),ZX 98,[0,0,1,2,3,4,5,6]),
 (Op.fieldAddr 216 (Z1 98) 3,ZX 99,[7,0,1,2,3,4,5,6]),
 (Op.store 131 (Z1 99) (Z1 97),ZY,[8,6,6,0,1,2,3,4,5,6])]
def Ib:aL RFg 91 100 RA:=bw (by kernel_rfl) (by kernel_rfl)
def Qb (r x gone:Nat):List ZT:=[Z6 (ZX ⟨r,0,ZY⟩),Z6 (ZX ⟨r,0,ZY⟩),Z6 (ZX ⟨r,0,ZY⟩),Z6 (ZX ⟨r,3,ZY⟩),Z7 Z8 gone,Z7 Z9 x,Z7 Z8 ((gone|||2^x:Nat):Int),Z6 (ZX ⟨r,0,ZY⟩),Z6 (ZX ⟨r,3,ZY⟩),ZZ]
theorem lV {l:Nat} {v:Nat} (L:ZP w q 162 (Z6 (ZX ⟨r,0,ZY⟩))) (hr:dI w r v b g N gone sp) (x:Nat) (W:x<=60) (R:gone<18446744073709551616) (G:q≠r) (M:RFg=ops) (Z:a.tmps.size=100)
 (F:a.eval (Z1 2)=Z6 (ZX ⟨q,0,ZY⟩)) (I:a.eval (Z1 4)=Z7 Z9 x)
 (P:∀ (w':ZU),w'=w.drew.setCell ⟨r,3,ZY⟩ (Z7 Z8 ((gone|||2^x:Nat):Int))->Q .normal (Act.RR a 91 [Z6 (ZX ⟨r,0,ZY⟩),Z6 (ZX ⟨r,0,ZY⟩),Z6 (ZX ⟨r,0,ZY⟩),Z6 (ZX ⟨r,3,ZY⟩),Z7 Z8 gone,Z7 Z9 x,Z7 Z8 ((gone|||2^x:Nat):Int),Z6 (ZX ⟨r,0,ZY⟩),Z6 (ZX ⟨r,3,ZY⟩)]) w'):(Code.region 14 ops ZW).wpIn (Fence.wide.inRound l) n ZO Q a w:=by
 subst M;have E:=L.cell;have D:=hr.cells.2.2.2.1;have J:w.frozen? ⟨r,3,ZY⟩=ZV:=by
  have K:w.heap[r]?=_:=hr;simp [World.frozen?,K]
 refine bV (by kernel_rfl) Ib a w (by omega) (λi u _=>u=(Qb r x gone).getD i ZZ) (Ia 9 w ⟨r,3,ZY⟩ (Z7 Z8 ((gone|||2^x:Nat):Int))) rfl ?_ ?_
 . intro i C;match i,C with
   | 0,_=>
    intro o k w' Dn A ho p s t y m j d;have u0:k.eval (Z1 2)=Z6 (ZX ⟨q,0,ZY⟩):=(s.slot 2 (by omega)).trans F;have B:=jN j (a:=⟨q,0,ZY⟩) G E;exact av (v:=Z6 (ZX ⟨r,0,ZY⟩)) (by (conv at ho=>rhs;whnf);simp only [execOp,ho,u0];go_simp) (by rw [ho];intro c h;cases h) p ⟨bX j 0 (by decide),rfl,kq⟩
   | 1,_=>
    intro o k w' Dn A ho p s t y m j d;have u0:k.eval (Z1 2)=Z6 (ZX ⟨q,0,ZY⟩):=(s.slot 2 (by omega)).trans F;have B:=jN j (a:=⟨q,0,ZY⟩) G E;exact av (v:=Z6 (ZX ⟨r,0,ZY⟩)) (by (conv at ho=>rhs;whnf);simp only [execOp,ho,u0];go_simp) (by rw [ho];intro c h;cases h) p ⟨bX j 1 (by decide),rfl,kq⟩
   | 2,_|3,_|7,_|8,_=>
    intro o k w' Dn A ho p s t y m j d;have u0:=d _ (m _ (.head _));simp only [RA,Qb,bB,dM,Aq,Ap] at ho u0;exact av (by simp only [execOp,ho,u0,Qb,Aq,Ap];go_simp) (by rw [ho];intro c h;cases h) p ⟨bX j _ (by decide),rfl,kq⟩
   | 4,_=>
    intro o k w' Dn A ho p s t y m j d;have u0:k.eval (Z1 94)=Z6 (ZX ⟨r,3,ZY⟩):=d 3 (m 3 (by decide));have T:Dn 9=ZV:=by
     cases e:Dn 9 with
     | false=>rfl
     | true=>exact absurd ((y 9 e).2 4 (by decide)) (by rw [t];decide)
    have U:=oJ j T;have B:w'.cell? ⟨r,3,ZY⟩=ZX (Z7 Z8 gone):=(by rw [U];exact D);exact av (v:=Z7 Z8 gone) (by (conv at ho=>rhs;whnf);simp only [execOp,ho,u0];go_simp) (by rw [ho];intro c h;cases h) p ⟨bX j 4 (by decide),rfl,kq⟩
   | 5,_=>
    intro o k w' Dn A ho p s t y m j d;have u0:k.eval (Z1 4)=Z7 Z9 x:=(s.slot 4 (by omega)).trans I;exact av (ag ho u0 w') (by rw [ho];intro c h;cases h) p ⟨bX j 5 (by decide),rfl,kq⟩
   | 6,_=>
    intro o k w' Dn A ho p s t y m j d;have u0:k.eval (Z1 95)=Z7 Z8 gone:=d 4 (m 4 (by decide));have u1:k.eval (Z1 96)=Z7 Z9 x:=d 5 (m 5 (by decide));refine jF (f:=101) (args:=#[Z7 Z8 gone,Z7 Z9 x]) (w1:=w') (by (conv at ho=>rhs;whnf);simp only [execOp,ho];go_simp;exact ⟨by simpa [Act.eval] using u0,by simpa [Act.eval] using u1⟩) (by rw [ho];intro c h;cases h) p (gA gone x R W w') ?_;rintro e w'' ⟨rfl,rfl⟩;exact ⟨_,rfl,bX j 6 (by decide),rfl,kq⟩
   | 9,_=>
    intro o k w' Dn A ho p s t y m j d;have u0:k.eval (Z1 99)=Z6 (ZX ⟨r,3,ZY⟩):=d 8 (m 8 (by decide));have u1:k.eval (Z1 97)=Z7 Z8 ((gone|||2^x:Nat):Int):=d 6 (m 6 (by decide));have V:=oJ j t;subst V;have B:w.drew.cell? ⟨r,3,ZY⟩=ZX (Z7 Z8 gone):=D;have X:w.drew.frozen? ⟨r,3,ZY⟩=ZV:=J;obtain ⟨z,H⟩:=nM (((gone|||2^x:Nat):Int));rw [H] at u1;refine lD (w':=w.drew.setCell ⟨r,3,ZY⟩ (Z7 Z8 z)) (by (conv at ho=>rhs;whnf);simp only [execOp,ho,u0,u1];go_simp) (by rw [ho];intro c h;cases h) ⟨?_,rfl,kq⟩;unfold Ia;rw [if_pos gP,H]
   | n+10,hn=>exact absurd hn (by show ¬ n+10<10;omega)
 . rintro k w' S Y ⟨Dn,O,j⟩ d;have e:k=Act.RR a 91 [Z6 (ZX ⟨r,0,ZY⟩),Z6 (ZX ⟨r,0,ZY⟩),Z6 (ZX ⟨r,0,ZY⟩),Z6 (ZX ⟨r,3,ZY⟩),Z7 Z8 gone,Z7 Z9 x,Z7 Z8 ((gone|||2^x:Nat):Int),Z6 (ZX ⟨r,0,ZY⟩),Z6 (ZX ⟨r,3,ZY⟩)]:=S.out _ rfl (by omega) (λi C=>?_)
   . rw [e];exact P w' (Cc j (O 9 (by decide)))
   . match i,C with
     | 0,_=>exact d 0 (by decide)
     | 1,_=>exact d 1 (by decide)
     | 2,_=>exact d 2 (by decide)
     | 3,_=>exact d 3 (by decide)
     | 4,_=>exact d 4 (by decide)
     | 5,_=>exact d 5 (by decide)
     | 6,_=>exact d 6 (by decide)
     | 7,_=>exact d 7 (by decide)
     | 8,_=>exact d 8 (by decide)
     | n+9,hn=>exact absurd hn (by simp)
def VF4 (r v x b:Nat) (Xv:ZT) (K:ZT->ZU->Prop) (i:Nat) (u:ZT) (W:ZU):Prop:=if i<9 then u=(aaB r v x b Xv ZZ).getD i ZZ else if i<11 then ∃ Y,u=Z0 #[Xv,Y]/\K Y W else if i=11\/i=13 then u=Xv else K u W
theorem tS {l:Nat} {v:Nat} {Xv:ZT} {K:ZT->ZU->Prop} (x:Nat) (X:ZR ZO 94 #[Z6 (ZX ⟨v,0,ZY⟩),Z7 Z9 x,Z7 Z9 b] w.drew λe w'=>∃ Y,e=Z3 (Z0 #[Xv,Y])/\K Y w') (T:ZP w q 162 (Z6 (ZX ⟨r,0,ZY⟩))) (hr:dI w r v b g N gone sp) (hf:RF4=ops) (hq:a.tmps.size=100)
 (M:a.eval (Z1 2)=Z6 (ZX ⟨q,0,ZY⟩)) (S:a.eval (Z1 4)=Z7 Z9 x)
 (V:∀ (w':ZU) (E G H F:ZT),K E w'->K G w'->K H w'->K F w'->Q .normal (Act.RR (Act.RR a 5 [Xv,E]) 30 [Z0 #[Xv,G],Z6 (ZX ⟨r,0,ZY⟩),Z6 (ZX ⟨r,0,ZY⟩),Z6 (ZX ⟨r,0,ZY⟩),Z6 (ZX ⟨v,0,ZY⟩),Z7 Z9 x,Z6 (ZX ⟨r,0,ZY⟩),Z6 (ZX ⟨r,0,ZY⟩),Z6 (ZX ⟨r,1,ZY⟩),Z7 Z9 b,Z0 #[Xv,H],Xv,F]) w'):(Code.region 4 ops ZW).wpIn (Fence.wide.inRound l) n ZO Q a w:=by
 subst hf;have L:=T.cell;obtain ⟨c0,c1,_⟩:=hr.cells;refine bV (by kernel_rfl) Hb a w (by omega) (VF4 r v x b Xv K) (MN w λW=>∃ Y,K Y W) rfl ?_ ?_
 . intro i I;match i,I with
   | 0,_=>
    intro o k w' Dn B ho s z y p t m d;have u0:k.eval (Z1 2)=Z6 (ZX ⟨q,0,ZY⟩):=(z.slot 2 (by omega)).trans M;have D:w'=w.drew:=by
     have A:=m;unfold MN at A;rwa [if_neg (λe=>by have q:=((p 1 ((p 2 ((p 3 ((p 9 e).2 3 (by decide))).2 2 (by decide))).2 1 (by decide))).2 0 (by decide));rw [y] at q;cases q)] at A
    have J:w'.cell? ⟨q,0,ZY⟩=ZX (Z6 (ZX ⟨r,0,ZY⟩)):=(by rw [D];exact L);exact av (v:=Z6 (ZX ⟨r,0,ZY⟩)) (by (conv at ho=>rhs;whnf);simp only [execOp,ho,u0];go_simp) (by rw [ho];intro c h;cases h) s ⟨ea m 0 (by decide),rfl,kq⟩
   | 1,_=>
    intro o k w' Dn B ho s z y p t m d;have u0:k.eval (Z1 31)=Z6 (ZX ⟨r,0,ZY⟩):=d 0 (t 0 (by decide));exact av (fQ ho u0 w') (by rw [ho];intro c h;cases h) s ⟨ea m 1 (by decide),rfl,kq⟩
   | 2,_=>
    intro o k w' Dn B ho s z y p t m d;have u0:k.eval (Z1 32)=Z6 (ZX ⟨r,0,ZY⟩):=d 1 (t 1 (by decide));exact av (v:=Z6 (ZX ⟨r,0,ZY⟩)) (by (conv at ho=>rhs;whnf);simp only [execOp,ho,u0];go_simp) (by rw [ho];intro c h;cases h) s ⟨ea m 2 (by decide),rfl,kq⟩
   | 3,_=>
    intro o k w' Dn B ho s z y p t m d;have u0:k.eval (Z1 33)=Z6 (ZX ⟨r,0,ZY⟩):=d 2 (t 2 (by decide));have D:w'=w.drew:=by
     have A:=m;unfold MN at A;rwa [if_neg (λe=>by have q:=((p 9 e).2 3 (by decide));rw [y] at q;cases q)] at A
    have J:w'.cell? ⟨r,0,ZY⟩=ZX (Z6 (ZX ⟨v,0,ZY⟩)):=(by rw [D];exact c0);exact av (v:=Z6 (ZX ⟨v,0,ZY⟩)) (by (conv at ho=>rhs;whnf);simp only [execOp,ho,u0];go_simp) (by rw [ho];intro c h;cases h) s ⟨ea m 3 (by decide),rfl,kq⟩
   | 4,_=>
    intro o k w' Dn B ho s z y p t m d;have u0:k.eval (Z1 4)=Z7 Z9 x:=(z.slot 4 (by omega)).trans S;exact av (ag ho u0 w') (by rw [ho];intro c h;cases h) s ⟨ea m 4 (by decide),rfl,kq⟩
   | 5,_=>
    intro o k w' Dn B ho s z y p t m d;have u0:k.eval (Z1 2)=Z6 (ZX ⟨q,0,ZY⟩):=(z.slot 2 (by omega)).trans M;have D:w'=w.drew:=by
     have A:=m;unfold MN at A;rwa [if_neg (λe=>by have q:=((p 6 ((p 7 ((p 8 ((p 9 e).2 8 (by decide))).2 7 (by decide))).2 6 (by decide))).2 5 (by decide));rw [y] at q;cases q)] at A
    have J:w'.cell? ⟨q,0,ZY⟩=ZX (Z6 (ZX ⟨r,0,ZY⟩)):=(by rw [D];exact L);exact av (v:=Z6 (ZX ⟨r,0,ZY⟩)) (by (conv at ho=>rhs;whnf);simp only [execOp,ho,u0];go_simp) (by rw [ho];intro c h;cases h) s ⟨ea m 5 (by decide),rfl,kq⟩
   | 6,_=>
    intro o k w' Dn B ho s z y p t m d;have u0:k.eval (Z1 36)=Z6 (ZX ⟨r,0,ZY⟩):=d 5 (t 5 (by decide));exact av (fQ ho u0 w') (by rw [ho];intro c h;cases h) s ⟨ea m 6 (by decide),rfl,kq⟩
   | 7,_=>
    intro o k w' Dn B ho s z y p t m d;have u0:k.eval (Z1 37)=Z6 (ZX ⟨r,0,ZY⟩):=d 6 (t 6 (by decide));exact av (v:=Z6 (ZX ⟨r,1,ZY⟩)) (by (conv at ho=>rhs;whnf);simp only [execOp,ho,u0];go_simp) (by rw [ho];intro c h;cases h) s ⟨ea m 7 (by decide),rfl,kq⟩
   | 8,_=>
    intro o k w' Dn B ho s z y p t m d;have u0:k.eval (Z1 38)=Z6 (ZX ⟨r,1,ZY⟩):=d 7 (t 7 (by decide));have D:w'=w.drew:=by
     have A:=m;unfold MN at A;rwa [if_neg (λe=>by have q:=((p 9 e).2 8 (by decide));rw [y] at q;cases q)] at A
    have J:w'.cell? ⟨r,1,ZY⟩=ZX (Z7 Z9 b):=(by rw [D];exact c1);exact av (v:=Z7 Z9 b) (by (conv at ho=>rhs;whnf);simp only [execOp,ho,u0];go_simp) (by rw [ho];intro c h;cases h) s ⟨ea m 8 (by decide),rfl,kq⟩
   | 9,_=>
    intro o k w' Dn B ho s z y p t m d;have u0:k.eval (Z1 34)=Z6 (ZX ⟨v,0,ZY⟩):=d 3 (t 3 (by decide));have u1:k.eval (Z1 35)=Z7 Z9 x:=d 4 (t 4 (by decide));have u2:k.eval (Z1 39)=Z7 Z9 b:=d 8 (t 8 (by decide));have D:w'=w.drew:=by
     have A:=m;unfold MN at A;rwa [if_neg (λe=>by have q:=e;rw [y] at q;cases q)] at A
    refine jF (f:=94) (args:=#[Z6 (ZX ⟨v,0,ZY⟩),Z7 Z9 x,Z7 Z9 b]) (w1:=w') (by (conv at ho=>rhs;whnf);simp only [execOp,ho];go_simp;exact ⟨by simpa [Act.eval] using u0,by simpa [Act.eval] using u1,by simpa [Act.eval] using u2⟩) (by rw [ho];intro c h;cases h) s (by rw [D];exact X) ?_;rintro e w'' ⟨Y,rfl,hK⟩;have C:Dn 10=ZW->False:=λh=>by
     have q:=(p 10 h).2 9 (by decide);rw [y] at q;cases q
    refine ⟨_,rfl,(by unfold MN;rw [if_pos gP];exact ⟨Y,hK⟩),⟨Y,rfl,hK⟩,λj u hD q=>?_⟩;by_cases hj:j<9
    . unfold VF4 at q ⊢;rw [if_pos hj] at q ⊢;exact q
    . have hl:j<15:=(p j hD).1;obtain rfl|rfl|rfl|rfl|rfl|rfl:j=9\/j=10\/j=11\/j=12\/j=13\/j=14:=by omega
      . rw [y] at hD;cases hD
      . exact (C hD).elim
      . exact (C ((p 11 hD).2 10 (by decide))).elim
      . exact (C ((p 12 hD).2 10 (by decide))).elim
      . exact (C ((p 13 hD).2 10 (by decide))).elim
      . exact (C ((p 14 hD).2 10 (by decide))).elim
   | 10,_=>
    intro o k w' Dn B ho s z y p t m d;obtain ⟨Y,u0,hK⟩:∃ Y,k.eval (Z1 40)=Z0 #[Xv,Y]/\K Y w':=d 9 (t 9 (by decide));exact av (ag ho u0 w') (by rw [ho];intro c h;cases h) s ⟨ea m 10 (by decide),⟨Y,rfl,hK⟩,kq⟩
   | 11,_=>
    intro o k w' Dn B ho s z y p t m d;obtain ⟨Y,u0,hK⟩:∃ Y,k.eval (Z1 30)=Z0 #[Xv,Y]/\K Y w':=d 10 (t 10 (by decide));exact av (v:=Xv) (by (conv at ho=>rhs;whnf);simp only [execOp,ho,u0];go_simp) (by rw [ho];intro c h;cases h) s ⟨ea m 11 (by decide),rfl,kq⟩
   | 12,_=>
    intro o k w' Dn B ho s z y p t m d;obtain ⟨Y,u0,hK⟩:∃ Y,k.eval (Z1 30)=Z0 #[Xv,Y]/\K Y w':=d 10 (t 10 (by decide));exact av (v:=Y) (by (conv at ho=>rhs;whnf);simp only [execOp,ho,u0];go_simp) (by rw [ho];intro c h;cases h) s ⟨ea m 12 (by decide),hK,kq⟩
   | 13,_=>
    intro o k w' Dn B ho s z y p t m d;have u0:k.eval (Z1 41)=Xv:=d 11 (t 11 (by decide));exact av (v:=Xv) (by (conv at ho=>rhs;whnf);simp only [execOp,ho,u0];go_simp) (by rw [ho];intro c h;cases h) s ⟨ea m 13 (by decide),rfl,kq⟩
   | 14,_=>
    intro o k w' Dn B ho s z y p t m d;obtain ⟨Y,u0⟩:=nM (k.eval (Z1 42));have hK:K Y w':=(by rw [<- u0];exact d 12 (t 12 (by decide)));exact av (v:=Y) (by (conv at ho=>rhs;whnf);simp only [execOp,ho,u0];go_simp) (by rw [ho];intro c h;cases h) s ⟨ea m 14 (by decide),hK,kq⟩
   | n+15,hn=>exact absurd hn (by show ¬ n+15<15;omega)
 . rintro k w' R Z ⟨Dn,hp,m⟩ d;obtain ⟨E,O⟩:∃ Y,k.eval (Z1 6)=Y:=⟨_,rfl⟩;obtain ⟨F,P⟩:∃ Y,k.eval (Z1 42)=Y:=⟨_,rfl⟩;obtain ⟨G,hm,k2⟩:∃ Y,k.eval (Z1 30)=Z0 #[Xv,Y]/\K Y w':=d 10 (by decide);obtain ⟨H,U,k3⟩:∃ Y,k.eval (Z1 40)=Z0 #[Xv,Y]/\K Y w':=d 9 (by decide);have k1:K E w':=(by rw [<- O];exact d 14 (by decide));have k4:K F w':=(by rw [<- P];exact d 12 (by decide));have e:k=Act.RR (Act.RR a 5 [Xv,E]) 30 [Z0 #[Xv,G],Z6 (ZX ⟨r,0,ZY⟩),Z6 (ZX ⟨r,0,ZY⟩),Z6 (ZX ⟨r,0,ZY⟩),Z6 (ZX ⟨v,0,ZY⟩),Z7 Z9 x,Z6 (ZX ⟨r,0,ZY⟩),Z6 (ZX ⟨r,0,ZY⟩),Z6 (ZX ⟨r,1,ZY⟩),Z7 Z9 b,Z0 #[Xv,H],Xv,F]:=PM R.size R.defers (ze Z) (by rfl) (by show 5+2<=30;omega) (by show 43<=_;omega) (λi I=>?_) (λi I=>?_)
   . rw [e];exact V w' E G H F k1 k2 k3 k4
   . match i,I with
     | 0,_=>exact d 13 (by decide)
     | 1,_=>exact O
     | n+2,hn=>exact absurd hn (by simp)
   . match i,I with
     | 0,_=>exact hm
     | 1,_=>exact d 0 (by decide)
     | 2,_=>exact d 1 (by decide)
     | 3,_=>exact d 2 (by decide)
     | 4,_=>exact d 3 (by decide)
     | 5,_=>exact d 4 (by decide)
     | 6,_=>exact d 5 (by decide)
     | 7,_=>exact d 6 (by decide)
     | 8,_=>exact d 7 (by decide)
     | 9,_=>exact d 8 (by decide)
     | 10,_=>exact U
     | 11,_=>exact d 11 (by decide)
     | 12,_=>exact P
     | n+13,hn=>exact absurd hn (by simp)
def RB (s:Nat):List (Op×Option Nat×a8):=[(Op.load 162 (Z1 2),ZX (s+0),[]),
 (Op.nilCheck (.tmp (s+0)),ZX (s+1),[0]),
 (Op.fieldAddr 216 (.tmp (s+1)) 0,ZX (s+2),[1]),
 (Op.load 107 (.tmp (s+2)),ZX (s+3),[2]),
 (Op.load 162 (Z1 2),ZX (s+4),[]),
 (Op.nilCheck (.tmp (s+4)),ZX (s+5),[4]),
 (Op.fieldAddr 216 (.tmp (s+5)) 0,ZX (s+6),[5]),
 (Op.load 107 (.tmp (s+6)),ZX (s+7),[6]),
 (Op.nilCheck (.tmp (s+7)),ZX (s+8),[7]),
 (Op.fieldAddr 137 (.tmp (s+8)) 3,ZX (s+9),[8]),
 (Op.load 131 (.tmp (s+9)),ZX (s+10),[9]),
 (Op.move (Z1 4),ZX (s+11),[]),
 (Op.call { callee:=Callee.value (Operand.func 101),args:=#[.tmp (s+10),.tmp (s+11)],argTypes:=#[131,3] },ZX (s+12),[10,11]),
 (Op.nilCheck (.tmp (s+3)),ZX (s+13),[3,0,1,2,3,4,5,6,7,8,9,10,11,12]),
 (Op.fieldAddr 137 (.tmp (s+13)) 3,ZX (s+14),[13,0,1,2,3,4,5,6,7,8,9,10,11,12]),
 (Op.store 131 (.tmp (s+14)) (.tmp (s+12)),ZY,[14,12,12,0,1,2,3,4,5,6,7,8,9,10,11,12])]
def aaF (r v x hol:Nat):List ZT:=[Z6 (ZX ⟨r,0,ZY⟩),Z6 (ZX ⟨r,0,ZY⟩),Z6 (ZX ⟨r,0,ZY⟩),Z6 (ZX ⟨v,0,ZY⟩),Z6 (ZX ⟨r,0,ZY⟩),Z6 (ZX ⟨r,0,ZY⟩),Z6 (ZX ⟨r,0,ZY⟩),Z6 (ZX ⟨v,0,ZY⟩),Z6 (ZX ⟨v,0,ZY⟩),Z6 (ZX ⟨v,5,ZY⟩),Z7 Z8 hol,Z7 Z9 x,Z7 Z8 ((hol|||2^x:Nat):Int),Z6 (ZX ⟨v,0,ZY⟩),Z6 (ZX ⟨v,5,ZY⟩),ZZ]
theorem zF {l:Nat} (hf:aL ops s (s+15) (RB s)) (hs:4<s) {Q:Exit->Act->ZU->Prop} {a:Act} {w:ZU} {r v p D L G ps hol b g N q gone sp:Nat} (R:bk w v p D L G ps hol) (W:ZP w q 162 (Z6 (ZX ⟨r,0,ZY⟩))) (hr:dI w r v b g N gone sp) (x:Nat) (hx:x<=60) (Z:hol<18446744073709551616) (O:q≠v) (P:r≠v) (hj:s+15<=100) (hm:a.tmps.size=100)
 (M:a.eval (Z1 2)=Z6 (ZX ⟨q,0,ZY⟩)) (T:a.eval (Z1 4)=Z7 Z9 x)
 (Y:∀ (w':ZU),w'=w.drew.setCell ⟨v,5,ZY⟩ (Z7 Z8 ((hol|||2^x:Nat):Int))->Q .normal (Act.RR a s [Z6 (ZX ⟨r,0,ZY⟩),Z6 (ZX ⟨r,0,ZY⟩),Z6 (ZX ⟨r,0,ZY⟩),Z6 (ZX ⟨v,0,ZY⟩),Z6 (ZX ⟨r,0,ZY⟩),Z6 (ZX ⟨r,0,ZY⟩),Z6 (ZX ⟨r,0,ZY⟩),Z6 (ZX ⟨v,0,ZY⟩),Z6 (ZX ⟨v,0,ZY⟩),Z6 (ZX ⟨v,5,ZY⟩),Z7 Z8 hol,Z7 Z9 x,Z7 Z8 ((hol|||2^x:Nat):Int),Z6 (ZX ⟨v,0,ZY⟩),Z6 (ZX ⟨v,5,ZY⟩)]) w'):(Code.region m ops ZW).wpIn (Fence.wide.inRound l) n ZO Q a w:=by
 have J:=W.cell;have K:=hr.cells.1;have I:=R.cells.2.2.2.2.2;have U:w.frozen? ⟨v,5,ZY⟩=ZV:=by
  have V:w.heap[v]?=_:=R;simp [World.frozen?,V]
 refine bV (by kernel_rfl) hf a w (by omega) (λi u _=>u=(aaF r v x hol).getD i ZZ) (Ia 15 w ⟨v,5,ZY⟩ (Z7 Z8 ((hol|||2^x:Nat):Int))) rfl ?_ ?_
 . intro i H;match i,H with
   | 0,_=>
    intro o k w' Dn E ho y A B C t j d;have u0:k.eval (Z1 2)=Z6 (ZX ⟨q,0,ZY⟩):=(A.slot 2 (by omega)).trans M;have F:=jN j (a:=⟨q,0,ZY⟩) O J;exact av (v:=Z6 (ZX ⟨r,0,ZY⟩)) (by (conv at ho=>rhs;whnf);simp only [execOp,ho,u0];go_simp) (by rw [ho];intro c h;cases h) y ⟨bX j 0 (by decide),rfl,kq⟩
   | 1,_=>
    intro o k w' Dn E ho y A B C t j d;have u0:k.eval (.tmp (s+0))=Z6 (ZX ⟨r,0,ZY⟩):=d 0 (t 0 (of_decide_eq_true rfl));exact av (v:=Z6 (ZX ⟨r,0,ZY⟩)) (by (conv at ho=>rhs;whnf);simp only [execOp,ho,u0];go_simp) (by rw [ho];intro c h;cases h) y ⟨bX j 1 (by decide),rfl,kq⟩
   | 2,_=>
    intro o k w' Dn E ho y A B C t j d;have u0:k.eval (.tmp (s+1))=Z6 (ZX ⟨r,0,ZY⟩):=d 1 (t 1 (of_decide_eq_true rfl));exact av (v:=Z6 (ZX ⟨r,0,ZY⟩)) (by (conv at ho=>rhs;whnf);simp only [execOp,ho,u0];go_simp) (by rw [ho];intro c h;cases h) y ⟨bX j 2 (by decide),rfl,kq⟩
   | 3,_=>
    intro o k w' Dn E ho y A B C t j d;have u0:k.eval (.tmp (s+2))=Z6 (ZX ⟨r,0,ZY⟩):=d 2 (t 2 (of_decide_eq_true rfl));have F:=jN j (a:=⟨r,0,ZY⟩) P K;exact av (v:=Z6 (ZX ⟨v,0,ZY⟩)) (by (conv at ho=>rhs;whnf);simp only [execOp,ho,u0];go_simp) (by rw [ho];intro c h;cases h) y ⟨bX j 3 (by decide),rfl,kq⟩
   | 4,_=>
    intro o k w' Dn E ho y A B C t j d;have u0:k.eval (Z1 2)=Z6 (ZX ⟨q,0,ZY⟩):=(A.slot 2 (by omega)).trans M;have F:=jN j (a:=⟨q,0,ZY⟩) O J;exact av (v:=Z6 (ZX ⟨r,0,ZY⟩)) (by (conv at ho=>rhs;whnf);simp only [execOp,ho,u0];go_simp) (by rw [ho];intro c h;cases h) y ⟨bX j 4 (by decide),rfl,kq⟩
   | 5,_=>
    intro o k w' Dn E ho y A B C t j d;have u0:k.eval (.tmp (s+4))=Z6 (ZX ⟨r,0,ZY⟩):=d 4 (t 4 (of_decide_eq_true rfl));exact av (v:=Z6 (ZX ⟨r,0,ZY⟩)) (by (conv at ho=>rhs;whnf);simp only [execOp,ho,u0];go_simp) (by rw [ho];intro c h;cases h) y ⟨bX j 5 (by decide),rfl,kq⟩
   | 6,_=>
    intro o k w' Dn E ho y A B C t j d;have u0:k.eval (.tmp (s+5))=Z6 (ZX ⟨r,0,ZY⟩):=d 5 (t 5 (of_decide_eq_true rfl));exact av (v:=Z6 (ZX ⟨r,0,ZY⟩)) (by (conv at ho=>rhs;whnf);simp only [execOp,ho,u0];go_simp) (by rw [ho];intro c h;cases h) y ⟨bX j 6 (by decide),rfl,kq⟩
   | 7,_=>
    intro o k w' Dn E ho y A B C t j d;have u0:k.eval (.tmp (s+6))=Z6 (ZX ⟨r,0,ZY⟩):=d 6 (t 6 (of_decide_eq_true rfl));have F:=jN j (a:=⟨r,0,ZY⟩) P K;exact av (v:=Z6 (ZX ⟨v,0,ZY⟩)) (by (conv at ho=>rhs;whnf);simp only [execOp,ho,u0];go_simp) (by rw [ho];intro c h;cases h) y ⟨bX j 7 (by decide),rfl,kq⟩
   | 8,_=>
    intro o k w' Dn E ho y A B C t j d;have u0:k.eval (.tmp (s+7))=Z6 (ZX ⟨v,0,ZY⟩):=d 7 (t 7 (of_decide_eq_true rfl));exact av (v:=Z6 (ZX ⟨v,0,ZY⟩)) (by (conv at ho=>rhs;whnf);simp only [execOp,ho,u0];go_simp) (by rw [ho];intro c h;cases h) y ⟨bX j 8 (by decide),rfl,kq⟩
   | 9,_=>
    intro o k w' Dn E ho y A B C t j d;have u0:k.eval (.tmp (s+8))=Z6 (ZX ⟨v,0,ZY⟩):=d 8 (t 8 (of_decide_eq_true rfl));exact av (v:=Z6 (ZX ⟨v,5,ZY⟩)) (by (conv at ho=>rhs;whnf);simp only [execOp,ho,u0];go_simp) (by rw [ho];intro c h;cases h) y ⟨bX j 9 (by decide),rfl,kq⟩
   | 10,_=>
    intro o k w' Dn E ho y A B C t j d;have u0:k.eval (.tmp (s+9))=Z6 (ZX ⟨v,5,ZY⟩):=d 9 (t 9 (of_decide_eq_true rfl));have he:Dn 15=ZV:=by
     cases e:Dn 15 with
     | false=>rfl
     | true=>exact absurd ((C 15 e).2 10 (of_decide_eq_true rfl)) (by rw [B];decide)
    have hh:=oJ j he;have F:w'.cell? ⟨v,5,ZY⟩=ZX (Z7 Z8 hol):=(by rw [hh];exact I);exact av (v:=Z7 Z8 hol) (by (conv at ho=>rhs;whnf);simp only [execOp,ho,u0];go_simp) (by rw [ho];intro c h;cases h) y ⟨bX j 10 (by decide),rfl,kq⟩
   | 11,_=>
    intro o k w' Dn E ho y A B C t j d;have u0:k.eval (Z1 4)=Z7 Z9 x:=(A.slot 4 (by omega)).trans T;exact av (ag ho u0 w') (by rw [ho];intro c h;cases h) y ⟨bX j 11 (by decide),rfl,kq⟩
   | 12,_=>
    intro o k w' Dn E ho y A B C t j d;have u0:k.eval (.tmp (s+10))=Z7 Z8 hol:=d 10 (t 10 (of_decide_eq_true rfl));have u1:k.eval (.tmp (s+11))=Z7 Z9 x:=d 11 (t 11 (of_decide_eq_true rfl));refine jF (f:=101) (args:=#[Z7 Z8 hol,Z7 Z9 x]) (w1:=w') (by (conv at ho=>rhs;whnf);simp only [execOp,ho];go_simp;exact ⟨by simpa [Act.eval] using u0,by simpa [Act.eval] using u1⟩) (by rw [ho];intro c h;cases h) y (gA hol x Z hx w') ?_;rintro e w'' ⟨rfl,rfl⟩;exact ⟨_,rfl,bX j 12 (by decide),rfl,kq⟩
   | 13,_=>
    intro o k w' Dn E ho y A B C t j d;have u0:k.eval (.tmp (s+3))=Z6 (ZX ⟨v,0,ZY⟩):=d 3 (t 3 (of_decide_eq_true rfl));exact av (v:=Z6 (ZX ⟨v,0,ZY⟩)) (by (conv at ho=>rhs;whnf);simp only [execOp,ho,u0];go_simp) (by rw [ho];intro c h;cases h) y ⟨bX j 13 (by decide),rfl,kq⟩
   | 14,_=>
    intro o k w' Dn E ho y A B C t j d;have u0:k.eval (.tmp (s+13))=Z6 (ZX ⟨v,0,ZY⟩):=d 13 (t 13 (of_decide_eq_true rfl));exact av (v:=Z6 (ZX ⟨v,5,ZY⟩)) (by (conv at ho=>rhs;whnf);simp only [execOp,ho,u0];go_simp) (by rw [ho];intro c h;cases h) y ⟨bX j 14 (by decide),rfl,kq⟩
   | 15,_=>
    intro o k w' Dn E ho y A B C t j d;have u0:k.eval (.tmp (s+14))=Z6 (ZX ⟨v,5,ZY⟩):=d 14 (t 14 (of_decide_eq_true rfl));have u1:k.eval (.tmp (s+12))=Z7 Z8 ((hol|||2^x:Nat):Int):=d 12 (t 12 (of_decide_eq_true rfl));have hw:=oJ j B;subst hw;have F:w.drew.cell? ⟨v,5,ZY⟩=ZX (Z7 Z8 hol):=I;have ff:w.drew.frozen? ⟨v,5,ZY⟩=ZV:=U;obtain ⟨z,S⟩:=nM (((hol|||2^x:Nat):Int));rw [S] at u1;refine lD (w':=w.drew.setCell ⟨v,5,ZY⟩ (Z7 Z8 z)) (by (conv at ho=>rhs;whnf);simp only [execOp,ho,u0,u1];go_simp) (by rw [ho];intro c h;cases h) ⟨?_,rfl,kq⟩;unfold Ia;rw [if_pos gP,S]
   | n+16,hn=>exact absurd hn (by show ¬ n+16<16;omega)
 . rintro k w' hc h8 ⟨Dn,X,j⟩ d;have e:k=Act.RR a s [Z6 (ZX ⟨r,0,ZY⟩),Z6 (ZX ⟨r,0,ZY⟩),Z6 (ZX ⟨r,0,ZY⟩),Z6 (ZX ⟨v,0,ZY⟩),Z6 (ZX ⟨r,0,ZY⟩),Z6 (ZX ⟨r,0,ZY⟩),Z6 (ZX ⟨r,0,ZY⟩),Z6 (ZX ⟨v,0,ZY⟩),Z6 (ZX ⟨v,0,ZY⟩),Z6 (ZX ⟨v,5,ZY⟩),Z7 Z8 hol,Z7 Z9 x,Z7 Z8 ((hol|||2^x:Nat):Int),Z6 (ZX ⟨v,0,ZY⟩),Z6 (ZX ⟨v,5,ZY⟩)]:=hc.out _ rfl (by omega) (λi H=>?_)
   . rw [e];exact Y w' (Cc j (X 15 (of_decide_eq_true rfl)))
   . match i,H with
     | 0,_=>exact d 0 (of_decide_eq_true rfl)
     | 1,_=>exact d 1 (of_decide_eq_true rfl)
     | 2,_=>exact d 2 (of_decide_eq_true rfl)
     | 3,_=>exact d 3 (of_decide_eq_true rfl)
     | 4,_=>exact d 4 (of_decide_eq_true rfl)
     | 5,_=>exact d 5 (of_decide_eq_true rfl)
     | 6,_=>exact d 6 (of_decide_eq_true rfl)
     | 7,_=>exact d 7 (of_decide_eq_true rfl)
     | 8,_=>exact d 8 (of_decide_eq_true rfl)
     | 9,_=>exact d 9 (of_decide_eq_true rfl)
     | 10,_=>exact d 10 (of_decide_eq_true rfl)
     | 11,_=>exact d 11 (of_decide_eq_true rfl)
     | 12,_=>exact d 12 (of_decide_eq_true rfl)
     | 13,_=>exact d 13 (of_decide_eq_true rfl)
     | 14,_=>exact d 14 (of_decide_eq_true rfl)
     | n+15,hn=>exact absurd hn (by simp)
section
attribute [local go_sem] Oper.semAt_some
def Lj (v:ZT) (w:ZU):(Instr.typeAssert (.iface 231 v) 193 231 ZW).run ZO w=.ok (Z0 #[v,Z2 ZW]) w:=by
 simp [Instr.typeAssert,UH underlying231]
def Ic:(ZO.info? 231).map (·.size)=ZX 44:=by kernel_rfl
def Cd (w:ZU) (z:Array ZT) (c:z.size=44) (l:a8) (hl:l.length=44):(Instr.storeAt 231 (Z6 (ZX ⟨w.heap.size,0,ZY⟩)) (.agg (aI l).toArray)).run ZO (w.alloc (Z4 z 231))=.ok () (w.alloc (Z4 (aI l).toArray 231)):=by
 have a:(aI l).toArray.size=44:=by rw [UF,aW,hl]
 have:=run_storeVar_new (P:=ZO) w 231 z (aI l).toArray (by rw [a];exact Ic) (by rw [a,c]) (by
  rw [List.all_toArray,Xe];intro u b;obtain ⟨x,_,rfl⟩:=T6.1 b;rfl)
 simp only [Instr.storeAt,Instr.sureAddr,Uo,U2,UE,this]
def zG {F:Fence} (d:o.guard=ZY) (x y:Operand) (ho:o.op=.store 231 x y) {z:Array ZT} {l:a8}
 (e:a.eval x=Z6 (ZX ⟨w.heap.size,0,ZY⟩)) (f:a.eval y=.agg (aI l).toArray) (g:z.size=44) (hl:l.length=44) (h:wpListIn F n ZO ops Q rest (a.put o.dst ZZ) (w.alloc (Z4 (aI l).toArray 231))):wpListIn F n ZO ops Q (o::rest) a (w.alloc (Z4 z 231)):=by
 refine Yo d λK b=>?_;unfold Oper.wpIn;refine ⟨by simp [Oper.about,ho],?_⟩;rw [Wh F _ _ (by rw [ho];intro c h;cases h)];simp [execOp,ho,e,f,Cd w z g l hl,Result.andThen];exact b _ _ h
def Lk {fn:Func} {R:ZQ->ZU->Prop} (hr:fn.results=#[]) (b:a.defers=[{ target:=.collected D',args:=#[] }])
 (hK:Z.heap[D']?=ZX (.deferred (ZX []))) (hR:R (Z3 (Z0 #[])) (Z.putObj D' (.deferred ZY))):bodyPostM Fence.wide n ZO fn R .normal a Z:=by
 obtain ⟨d,c⟩:=a;simp only at b;subst b;refine ⟨by simp,.inl ⟨_,_,rfl,Wt hK,?_⟩⟩;refine ⟨Z0 #[],?_,hR⟩;simp [results,hr]
def Kn (w:ZU) (base:Nat) (f0 f:Nat->ZT) (R:Nat->a8) (ds:a8):Prop:=(∀ i,i∉ds->f i=f0 i)/\∀ i,i∈ds->∃ bl,f i=Z5 (ZX ⟨bl,0,ZY⟩) 44 44/\base<=bl/\bl<w.heap.size/\w.heap[bl]?=ZX (Z4 (aI (R i)).toArray 231 (0,0))
def Kn.keep {f:Nat->ZT} {R:Nat->a8} (h:Kn w base f0 f R ds) (d:w.heap.size<=w'.heap.size) (c:∀ k o,base<=k->w.heap[k]?=ZX o->o.isCells=ZW->w'.heap[k]?=ZX o):Kn w' base f0 f R ds:=by
 refine ⟨h.1,λi b=>?_⟩;obtain ⟨bl,e,a,g,j⟩:=h.2 i b;exact ⟨bl,e,a,TZ g d,c bl _ a j rfl⟩
def Kn.nil (w:ZU) (base:Nat) (f0:Nat->ZT) (R:Nat->a8):Kn w base f0 f0 R []:=⟨λ_ _=>rfl,λ_ h=>by cases h⟩
def Jp (S x:Nat):Nat:=S &&& (18446744073709551615-x)
def FN (S x:Nat) (a:S<65536) (b:x<65536):bits .andNot .u64 (S:Int) (x:Int)=(Jp S x:Int):=u64_andNot_nat S x (by omega) (by omega)
def Ek (x:Nat) (a:S<65536):Jp S x<65536:=Yc Xi a
theorem rX (d:x<65536):i∈ab (Jp S x)↔i∈ab S/\x.testBit i=ZV:=by
 rw [cO,cO];unfold Jp;have e:(18446744073709551615-x).testBit i=(decide (i<64) && !x.testBit i):=by
  have:=XD (x:=x) (n:=64) (by omega) i;rwa [show 2^64-(x+1)=18446744073709551615-x by omega] at this
 rw [Xg,e];constructor
 . rintro ⟨b,a⟩;simp at a;exact ⟨⟨b,a.1⟩,a.2.2⟩
 . rintro ⟨⟨b,a⟩,c⟩;refine ⟨b,?_⟩;simp [a,c];omega
def zH:Nat->ZT:=λ_=>Z5 ZY 0 0
def tT (ds l:a8):a8:=l.filter λi=>decide (i∉ds)
def Qc (h:i∈ds):tT ds (l++[i])=tT ds l:=by unfold tT;rw [Wd];simp [h]
def kL (h:i∉ds):tT ds (l++[i])=tT ds l++[i]:=by unfold tT;rw [Wd];simp [h]
def FO:i∈tT ds l↔i∈l/\i∉ds:=by unfold tT;rw [Vz];simp
def Ll:∃ z,∀ w:ZU,(Instr.typeAssert .nilIface 193 231 ZW).run ZO w=.ok (Z0 #[z,Z2 ZV]) w:=by
 exact ⟨.agg (List.replicate 44 (Z7 .u8 0)).toArray,λw=>by kernel_rfl⟩
def Lm:∃ z,∀ w:ZU,(Instr.typeAssert .nilIface 193 204 ZW).run ZO w=.ok (Z0 #[z,Z2 ZV]) w:=by
 exact ⟨.agg #[],λw=>by kernel_rfl⟩
def gnB (A:aH) (b i:Nat):Bool:=A.lost i || A.bad i b
def C7 (A:aH) (b:Nat) (ds:a8):a8:=ds.filter λi=>!gnB A b i
def Qd {A:aH} (ds:a8) {d:Nat} (h:gnB A b d=ZW):C7 A b (ds++[d])=C7 A b ds:=by unfold C7;rw [Wd];simp [h]
def FP {A:aH} (ds:a8) {d:Nat} (h:gnB A b d=ZV):C7 A b (ds++[d])=C7 A b ds++[d]:=by unfold C7;rw [Wd];simp [h]
def oK {A:aH}:d∈C7 A b ds↔d∈ds/\gnB A b d=ZV:=by unfold C7;rw [Vz];simp
def zI (A:aH) (b d:Nat):A.R7 d b=if gnB A b d=ZW then ZY else ZX (A.rc d b):=by
 unfold aH.R7 aH.rd gnB;cases A.lost d<;>rfl
def zJ {A:aH} (h:gnB A b d=ZV):A.lost d=ZV:=by
 unfold gnB at h;cases hl:A.lost d
 . rfl
 . rw [hl] at h;cases h
def VrK (p d:Nat) (A:aH) (F:aR) (w:ZU) (Y:ZT) (w':ZU):Prop:=
 aB w' p A F/\aa F.S w w'/\(ZR ZO 64 #[Y,.iface 58 (Z7 Z9 11)] w' λe w''=>e=Z3 (Z2 (A.lost d))/\w''=w')
def Ie {v:Nat} {A:aH} (i:bk w v p D L G ps ho) (h:aB w p A F) (d b:Nat) (k:d<A.n) (j:b<A.nb) (m:bg w) (l:¬ F.S 2) :
 ZR ZO 94 #[Z6 (ZX ⟨v,0,ZY⟩),Z7 Z9 d,Z7 Z9 b] w λe w'=>∃ Y,e=Z3 (Z0 #[gC (A.R7 d b),Y])/\VrK p d A F w Y w':=by
 refine (qN i h d b k j m l).mono ?_;rintro e w' ⟨a,c,⟨r,hr,rfl⟩|⟨hr,q,rfl,o,g⟩⟩
 . refine ⟨.nilIface,by rw [hr];rfl,a,c,?_⟩;rw [zI] at hr;rw [zJ (b:=b) (by cases h:gnB A b d;rfl;rw [h] at hr;cases hr)];exact Dq 11 w'
 . refine ⟨rk q,by rw [hr];rfl,a,c,?_⟩;have f:=AL g 11;cases hl:A.lost d<;>(rw [hl] at f;exact f)
structure Qe (w:ZU) (r v b g N p D L G ps ho gone sp B0:Nat) (ds:a8) (A:aH) (F:aR) (M:Nat->a8) (B S:Nat) (pre:List (Mb S)) (X:ZU):Prop where
 b2:ZP X w.heap.size 162 (Z6 (ZX ⟨r,0,ZY⟩))
 rd:dI X r v b g N (gone|||gW (gnB A b) (tT ds (dm pre))) sp
 vol:bk X v p D L G ps (ho|||gW A.lost (tT ds (dm pre)))
 row:∃ f,X.rowIs g 31 N f/\Kn X B0 zH f M (ds++C7 A b (tT ds (dm pre)))
 arr:aB X p A F
 out:aa (λk=>k=g\/k=r\/k=v\/F.S k) w X
 size:B<=X.heap.size
def Qe.own {v:Nat} {A:aH} {M:Nat->a8} (H:w.heap.size+1<=B) (I:g<w.heap.size) (hr:r<w.heap.size) (J:v<w.heap.size) (t:∀ k,F.S k->k<w.heap.size):OwnFrom B (Qe w r v b g N p D L G ps ho gone sp B0 ds A F M B S):=by
 rintro pre X Y row ⟨j,l,E,⟨f,m,u⟩,n,q,s⟩ a i;have c:∀ k,k<w.heap.size+1->Y.heap[k]?=X.heap[k]?:=λk c=>a.block k (by omega) (λe=>by have:=(i k e.symm).1;omega);refine ⟨(c _ (by omega)).trans j,l.keep (c _ (by omega)),E.keep (c _ (by omega)),⟨f,m.of_block (c _ (by omega)),u.keep a.size λk o _ ho x=>?_⟩,n.keep λk y=>c k (by have:=t k y;omega),q.later (T:=λk=>w.heap.size<=k) ⟨a.os,a.tape,a.output,a.size,λk z C=>c k (by omega)⟩ (λk z C=>by omega),TW s a.size⟩;refine (a.block k (TX.1 ho).1 (λe=>?_)).trans ho;obtain ⟨_,K,h,d⟩:=i k e.symm;rw [ho] at h;cases h;rw [x] at d;cases d
structure Qf (w:ZU) (r v b g N p D L G ps ho gone sp B0:Nat) (ds:a8) (A:aH) (F:aR) (M:Nat->a8) (nw:a8) (e:ZQ) (w':ZU):Prop where
 ret:e=Z3 (Z0 #[])
 rd:dI w' r v b g N (gone|||gW (gnB A b) nw) sp
 vol:bk w' v p D L G ps (ho|||gW A.lost nw)
 row:∃ f,w'.rowIs g 31 N f/\Kn w' B0 zH f M (ds++C7 A b nw)
 arr:aB w' p A F
 out:aa (λk=>k=g\/k=r\/k=v\/F.S k) w w'
noncomputable def RFk:Array Oper:=((Tryz.f125.body.bind (pe · 13))).getD #[]
def If (h:RFk=ops):aL ops 76 (76+15) (RB 76):=h▸bw (by kernel_rfl) (by kernel_rfl)
theorem Ig {v:Nat} {A:aH} {M:Nat->a8} (u:pH w v p D L G ps ho A F) (hb:b<A.nb) (hM:∀ i,i<A.n->A.rc i b=.shard (M i)/\(M i).length=44) (hr:dI w r v b g N gone sp) (ki:w.rowIs g 31 N f0) (qy:Kn w B0 zH f0 M ds) (T:Nat) (hT:T<65536) (qv:gone<65536) (xn:sp<65536) (xz:∀ i,i∈ab T->i<N/\i<A.n)
 (y6:ho<65536) (x2:v≠r) (yq:3<=r) (yv:3<=v) (qq:¬ F.S g) (qf:¬ F.S r) (qx:r≠g) (xe:v≠g) (ym:3<=g) (qm:B0<=w.heap.size) (yk:g<B0) (yp:r<B0) (ys:v<B0) (qa:∀ k,F.S k->k<B0) :
 ZR ZO 125 #[Z6 (ZX ⟨r,0,ZY⟩),Z7 Z8 T] w (Qf w r v b g N p D L G ps ho gone sp B0 ds A F M (tT ds (ab (Jp (Jp T gone) sp)))):=by
 obtain ⟨S1,kx⟩:=nM (Jp T gone);obtain ⟨S,qb⟩:=nM (Jp S1 sp);have q0:=FN T gone hT qv;have q5:=FN S1 sp (by rw [<- kx];exact Ek _ hT) xn;have hS:S<65536:=by rw [<- qb,<- kx];exact Ek _ (Ek _ hT)
 rw [kx] at q0 ⊢;rw [qb] at q5 ⊢;have xy:∀ i,i∈ab S->i∈ab T:=λi a=>by
  rw [<- qb] at a;have:=((rX xn).1 a).1;rw [<- kx] at this;exact ((rX qv).1 this).1
 clear kx qb;obtain ⟨n,HN⟩:∃ n:Nat,Hid (9<=n):=⟨9,TV _⟩;have kp:∀ k,F.S k->k<w.heap.size:=λk c=>TZ (qa k c) qm;have y5:=ki.lt;have ya:=hr.lt;have yc:=u.vol.lt;refine (Vk (n:=n)).1 ?_;refine V6 func125 rfl trivial ?_ rfl;simp only [ntmps125,UF,Uv,UQ,YF,YG,Va,Vb,Vc,Vd,Uk,UL];gi_wp2;obtain ⟨w1,q7⟩:=nM (w.alloc (Z4 #[Z6 (ZX ⟨r,0,ZY⟩)] 162));have h2:ZP w1 w.heap.size 162 (Z6 (ZX ⟨r,0,ZY⟩)):=by rw [<- q7];exact UA w _ _
 have x4:w1.heap.size=w.heap.size+1:=by rw [<- q7];simp
 have qc:bW w w1:=by rw [<- q7];exact bA w _
 rw [q7];clear q7;have xk:=hr.keep (qc.block _ hr.lt);refine vC h2 xk q0 q5 (by kernel_rfl) rfl rfl rfl ?_;clear q0 q5;intro w6 qi;have x6:w6.heap.size=w1.heap.size+1:=by rw [qi];simp
 have xc:w6.cell? ⟨w1.heap.size,0,ZY⟩=ZX (Z7 Z8 (S:Int)):=by rw [qi];exact (UA w1.drew 131 (Z7 Z8 (S:Int))).cell
 have ke:bW w1 w6:=by rw [qi];exact (TY _ w1).drew.alloc lR _
 have k5:bW w w6:=qc.trans (ke.mono qc.size);have x0:tT ds (dm ([]:List (Mb S)))=[]:=rfl;have xf:Qe w r v b g N p D L G ps ho gone sp B0 ds A F M (w1.heap.size+1) S [] w6:=
  ⟨(ke.block _ h2.lt).trans h2,by rw [x0,show gW (gnB A b) []=0 from rfl,Nat.or_zero];exact hr.keep (k5.block _ hr.lt),by rw [x0,show gW (A.lost) []=0 from rfl,Nat.or_zero];exact u.vol.keep (k5.block _ u.vol.lt),⟨f0,ki.of_block (k5.block _ ki.lt),by rw [x0,show C7 A b []=[] from rfl,Wg];exact qy.keep k5.size λk o _ ho _=>(k5.block k (TX.1 ho).1).trans ho⟩,u.arr.below k5 lR,aa.RS k5 _,by omega⟩
 have xq:=al xc;have qj:=au xf k5;have HZ:=au x4 x6;clear xc xf h2 qc k5 ke xk qi x4;rename_i hK
 refine hK _ _ ?_;clear hK;simp only [Act.RR,Act.put,UW,UR,UX];gi_wp2;obtain ⟨x4,yf,x6⟩:w.heap.size+1<=w1.heap.size/\w1.heap.size<=w.heap.size+1/\w6.heap.size=w1.heap.size+1:=by have:=HZ.out;omega
 rw [<- x6] at qj;refine V7 rfl (by have:=HN.out;omega) (gf:=155) (lb:=#[Z6 (ZX ⟨w1.heap.size,0,ZY⟩)]) rfl trivial (Vl func155 (by kernel_rfl) rfl)
  (nt (n-1) w1.heap.size S hS w6 (by omega) xq.out (by have:=u.room;omega) (u.tab.mono (by exact u.tab.lt) qj.out.2)) (λh k=>qG h k) (qH (by have:=u.room;omega)) (TY _ _) (λ_=>rfl)
  (Qe w r v b g N p D L G ps ho gone sp B0 ds A F M w6.heap.size S) (λ_ _ _=>False) (Qe.own (by omega) y5 ya yc kp) (λ_ _ _ _ _ h _ _=>h.elim) qj.out.1
  (λx=>{ tmps:=#[Z6 (ZX ⟨r,0,ZY⟩),Z7 Z8 (T:Int),Z6 (ZX ⟨w.heap.size,0,ZY⟩),ZZ,Z7 Z9 (x.1:Int),ZZ,ZZ,ZZ,ZZ,Z7 Z8 (T:Int),Z6 (ZX ⟨r,0,ZY⟩),Z6 (ZX ⟨r,0,ZY⟩),Z6 (ZX ⟨r,3,ZY⟩),Z7 Z8 (gone:Int),Z7 Z8 (S1:Int),Z6 (ZX ⟨r,0,ZY⟩),Z6 (ZX ⟨r,0,ZY⟩),Z6 (ZX ⟨r,4,ZY⟩),Z7 Z8 (sp:Int),Z7 Z8 (S:Int),.func (.func 155) #[] #[Z6 (ZX ⟨w1.heap.size,0,ZY⟩)],Z7 Z9 (x.1:Int),ZZ,ZZ,ZZ,ZZ,ZZ,ZZ,ZZ,ZZ,ZZ,ZZ,ZZ,ZZ,ZZ,ZZ,ZZ,ZZ,ZZ,ZZ,ZZ,ZZ,ZZ,ZZ,ZZ,ZZ,ZZ,ZZ,ZZ,ZZ,ZZ,ZZ,ZZ,ZZ,ZZ,ZZ,ZZ,ZZ,ZZ,ZZ,ZZ,ZZ,ZZ,ZZ,ZZ,ZZ,ZZ,ZZ,ZZ,ZZ,ZZ,ZZ,ZZ,ZZ,ZZ,ZZ,ZZ,ZZ,ZZ,ZZ,ZZ,ZZ,ZZ,ZZ,ZZ,ZZ,ZZ,ZZ,ZZ,ZZ,ZZ,ZZ,ZZ,ZZ,ZZ,ZZ,ZZ,ZZ,ZZ,ZZ],defers:=[] }) ?assign ?body ?done ?stop
 case assign=>
  intro l2 x X Kk hK;unfold wJ;gi_wp2;exact hK
 case body=>
  rintro l2 pre x X a qz;clear qz;have yd:x.1∈ab S:=cO.2 x.2;obtain ⟨xo,xp⟩:=xz _ (xy _ yd);have x7:=a.b2.lt;have c2:=a.b2.cell;obtain ⟨c0,c1,cs,c3,c4⟩:=a.rd.cells;obtain ⟨f,B,C⟩:=a.row;have cg:=B.cell (i:=x.1) xo;have y8:¬ F.S w.heap.size:=λq=>by have:=kp _ q;omega
  have R:=a.arr;have xj:∀ d∈tT ds (dm pre),d<16:=λd hd=>by replace hd:=(FO.1 hd).1;unfold dm at hd;obtain ⟨y,_,rfl⟩:=T6.1 hd;exact y.2.1
  have xh:=sY (gnB A b) _ xj;have xi:=sY (A.lost) _ xj;obtain ⟨gn,qs⟩:=nM (gW (gnB A b) (tT ds (dm pre)));obtain ⟨hl,qe⟩:=nM (gW (A.lost) (tT ds (dm pre)));have H:=a.rd;have E:=a.vol;rw [qs] at xh H;rw [qe] at xi E;by_cases hs:x.1∈ds++C7 A b (tT ds (dm pre))
  . obtain ⟨bl,y0,y1,y2,y3⟩:=C.2 _ hs;rw [y0] at cg;have HI:=al a;have HK:=al C;have HR:=al B;clear a C B R H E;gi_wp2;rename_i kr
    refine kr _ _ ?_;clear kr;simp only [Act.put,UW,UR,UX,Bool.not_false];gi_wp2;have a:=HI.out;refine ⟨⟨TV _,λk o _ ho _=>ho⟩,λ_=>u.tab.keep (a.out.block _ u.tab.lt (λq=>by rcases q with q|q|q|q;omega;omega;omega;exact u.t q)),?_⟩;by_cases Z:x.1∈ds
    . refine ⟨a.b2,?_,?_,⟨f,HR.out,?_⟩,a.arr,a.out,a.size⟩<;>rw [dV,Qc Z]
      . exact a.rd
      . exact a.vol
      . exact HK.out
    . have k8:=(oK.1 ((Uf.1 hs).resolve_left Z)).2;refine ⟨a.b2,?_,?_,⟨f,HR.out,?_⟩,a.arr,a.out,a.size⟩<;>rw [dV,kL Z]
      . rw [nu _ k8];exact a.rd
      . rw [nu _ (zJ k8)];exact a.vol
      . rw [FP _ k8,<- Uz];refine ⟨λi k9=>HK.out.1 i (λq=>k9 (UB _ q)),λi k9=>HK.out.2 i ?_⟩;rcases Uf.1 k9 with q|q
        . exact q
        . rw [Vp.1 q];exact hs
  . have y4:f x.1=Z5 ZY 0 0:=C.1 _ hs;rw [y4] at cg;have Z:x.1∉ds:=λq=>hs (UB _ q);have W:bg X:=u.laid.keep (a.out.block _ u.laid.lt (λq=>by rcases q with q|q|q|q;omega;omega;omega;exact u.g q));have HI:=hide7 a C B R H E W;clear a C B R H E W;gi_wp2;rename_i kr
    refine kr _ _ ?_;clear kr;simp only [Act.put,UW,UR,UX];gi_wp2;obtain ⟨a,C,B,R,H,E,W⟩:=HI.out;have yo:ho|||hl<65536:=Wu (n:=16) y6 xi;have yn:gone|||gn<65536:=Wu (n:=16) qv xh;have qd:bW X X.drew:=(TY _ X).drew;refine tS (K:=VrK p x.1 A F X.drew) x.1 (Ie (E.keep (qd.block _ E.lt)) (R.below qd lR) x.1 b xp hb (W.below qd W.lt) u.g) a.b2 a.rd (by kernel_rfl) rfl rfl rfl ?_;rintro w2 Y1 Y2 Y3 Y4 ⟨x8,ks,qn⟩ - - -;have P:aa (F.S) X w2:=(aa.drew X).trans ks;have qg:∀ k,B0<=k->k<X.heap.size->w2.heap[k]?=X.heap[k]?:=λk c U=>P.block k U (λq=>by have:=qa k q;omega);have q8:=al x8;have qk:=au P qg;clear a C B R H E W x8 P ks qg c0 c1 cs c3 c4 cg c2 qd;rename_i hK
    refine hK _ _ ?_;clear hK;have kz:∀ m,gnB A b x.1=ZW->dI m r v b g N (gone|||gn|||2^x.1) sp->bk m v p D L G ps (ho|||gW (A.lost) (tT ds (dm pre)++[x.1]))->aB m p A F->aa (λk=>k=r\/k=v\/F.S k) X m->(X.heap.size<=m.heap.size/\∀ k,w.heap.size<=k->k<X.heap.size->m.heap[k]?=X.heap[k]?)/\aG m/\Qe w r v b g N p D L G ps ho gone sp B0 ds A F M w6.heap.size S (pre++[x]) m:=λm xd kh yb xv kc=>by
     obtain ⟨a,C,B,_⟩:=HI.out;have xa:aa (λk=>k=g\/k=r\/k=v\/F.S k) w m:=a.out.trans (kc.mono λ_ _ q=>.inr q);have xb:∀ k,w.heap.size<=k->k<X.heap.size->m.heap[k]?=X.heap[k]?:=λk c U=>kc.block k U (λq=>by rcases q with q|q|q;omega;omega;have:=kp k q;omega);refine ⟨⟨kc.size,xb⟩,u.tab.keep (xa.block _ u.tab.lt (λq=>by rcases q with q|q|q|q;omega;omega;omega;exact u.t q)),?_⟩;have U:∀ k,B0<=k->k<X.heap.size->m.heap[k]?=X.heap[k]?:=λk c U=>kc.block k U (λq=>by rcases q with q|q|q;omega;omega;have:=qa k q;omega);exact ⟨(xb _ lR x7).trans a.b2,by rw [dV,kL Z,rQ _ xd,qs,<- Nat.or_assoc];exact kh,by rw [dV,kL Z];exact yb,⟨f,B.of_block (kc.block _ B.lt (λq=>by rcases q with q|q|q;exact qx q.symm;exact xe q.symm;exact qq q)),by rw [dV,kL Z,Qd _ xd];exact C.keep kc.size λk o c ho _=>(U k c (TX.1 ho).1).trans ho⟩,xv,xa,TW a.size kc.size⟩
    have HF:=al kz;clear kz;obtain ⟨qo,kf⟩:=hM _ xp;rw [zI,qo];cases k8:gnB A b x.1 with
    | false=>
     obtain ⟨l,xm⟩:=nM (M x.1);rw [xm] at kf ⊢;clear qo qn HF;have yr:=Lj;simp only [Act.RR,Act.put,UW,UR,UX,gC,cj,Bool.false_eq_true,if_false];gi_wp2_with (show wpListIn _ _ _ _ _ ({ dst:=ZY,op:=Op.store 231 (Z1 7) (Z1 46),type:=_,pos:=_,after:=_,guard:=_ }::_) _ _;refine zG (w:=w2) (l:=l) rfl (Z1 7) (Z1 46) rfl (by rfl) (by rfl) (by rfl) kf ?_)
     obtain ⟨P,qg⟩:=qk.out;obtain ⟨a,C,B,R,H,E,W⟩:=HI.out;have yj:X.heap.size<=w2.heap.size:=P.size;have hm:bW w2 (w2.alloc (Z4 (aI (l)).toArray 231)):=bA w2 _;have x1:(w2.alloc (Z4 (aI (l)).toArray 231)).heap[w2.heap.size]?=ZX (Z4 (aI (l)).toArray 231 (0,0)):=Uc _ _;have yi:(w2.alloc (Z4 (aI (l)).toArray 231)).heap.size=w2.heap.size+1:=(by simp);obtain ⟨J,qh⟩:=nM (w2.alloc (Z4 (aI (l)).toArray 231));rw [qh] at hm x1 yi ⊢;have kk:∀ k,k<X.heap.size->¬ F.S k->J.heap[k]?=X.heap[k]?:=λk c y7=>(hm.block k (by omega)).trans (P.block k c y7);have qp:∀ k,B0<=k->k<X.heap.size->J.heap[k]?=X.heap[k]?:=λk c U=>kk k U (λq=>by have:=qa k q;omega);have hv:J.rowIs g 31 N f:=B.of_block (kk g B.lt qq);refine vD (show ZP J w.heap.size 162 (Z6 (ZX ⟨r,0,ZY⟩)) from (qp _ qm (by omega)).trans a.b2) (H.keep (kk r H.lt qf)) hv x.1 xo (by omega) qx (by kernel_rfl) rfl rfl rfl rfl ?_;intro z k7;have hg:∀ k,k≠g->z.heap[k]?=J.heap[k]?:=λk c=>by rw [k7];exact Ud _ _ _ _ c
     have yx:z.heap.size=J.heap.size:=(by rw [k7];simp [World.setCell]);have he:=hv.set x.1 (Z5 (ZX ⟨w2.heap.size,0,ZY⟩) 44 44);have hy:z.rowIs g 31 N (λi=>if i=x.1 then Z5 (ZX ⟨w2.heap.size,0,ZY⟩) 44 44 else f i):=(by rw [k7];exact he);have km:∀ k,B0<=k->k<X.heap.size->z.heap[k]?=X.heap[k]?:=λk c U=>(hg k (by omega)).trans (qp k c U);have I:aa (λk=>k=g\/k=r\/k=v\/F.S k) w z:=by
      have h3:aa (λk=>k=g\/k=r\/k=v\/F.S k) w J:=(a.out.trans (P.mono λ_ _ q=>.inr (.inr (.inr q)))).trans (aa.RS hm _);rw [k7];exact (h3.trans (aa.drew J)).trans (aa.setCell _ _ _ (.inl rfl))
     have q9:=q8.out.keep λk c=>by
      have:=kp k c;exact (hg k (λe=>qq (by rw [<- e];exact c))).trans (hm.block k (by omega))
     have k6:Kn z B0 zH (λi=>if i=x.1 then Z5 (ZX ⟨w2.heap.size,0,ZY⟩) 44 44 else f i) M (ds++C7 A b (tT ds (dm pre))++[x.1]):=by
      have xg:=C.keep (w':=z) (by omega) λk o c ho _=>(km k c (TX.1 ho).1).trans ho;refine ⟨λi k9=>?_,λi k9=>?_⟩
      . have h1:i≠x.1:=λe=>k9 (by rw [e];simp);show (if i=x.1 then _ else f i)=_;rw [if_neg h1];exact xg.1 i (λq=>k9 (UB _ q))
      . show ∃ bl,(if i=x.1 then _ else f i)=_/\_;by_cases e:i=x.1
        . rw [if_pos e,e,xm];exact ⟨w2.heap.size,rfl,by omega,by omega,(hg _ (by omega)).trans x1⟩
        . rw [if_neg e];rcases Uf.1 k9 with q|q
          . exact xg.2 i q
          . exact absurd (Vp.1 q) e
     have H4:=a6 hy km I q9 k6;have Y:=al (H.keep ((hg r qx).trans (kk r H.lt qf)));have x3:=al (E.keep ((hg v xe).trans (kk v E.lt u.v)));have x5:X.heap.size<=z.heap.size:=(by omega);clear he hy km I q9 k6 hg k7 hv kk qp hm x1 a C B R H E W P qg qh qk q8;rename_i hK
     refine hK _ _ ?_;clear hK;simp only [Act.RR,Act.put,UW,UR,UX];gi_wp2;obtain ⟨he,km,I,q9,k6⟩:=H4.out;have a:=HI.out.1;have yy:=a.size;refine ⟨⟨x5,λk o c ho _=>(km k (by omega) (TX.1 ho).1).trans ho⟩,λ_=>u.tab.keep (I.block _ u.tab.lt (λq=>by rcases q with q|q|q|q;omega;omega;omega;exact u.t q)),?_⟩;exact ⟨(km _ qm (by omega)).trans a.b2,by rw [dV,kL Z,nu _ k8,qs];exact Y.out,by rw [dV,kL Z,nu _ (zJ k8),qe];exact x3.out,⟨_,he,by rw [dV,kL Z,FP _ k8,<- Uz];exact k6⟩,q9,I,by omega⟩
    | true=>
     obtain ⟨z1,yg⟩:=Ll;obtain ⟨z2,yh⟩:=Lm;have HS:=al qn;clear qn qo kf;simp only [Act.RR,Act.put,UW,UR,UX,gC,if_true];gi_wp2;refine ef HS.out ?_;rintro e J ⟨rfl,qh⟩;subst qh;have P:=qk.out.1;obtain ⟨a,C,B,R,H,E,W⟩:=HI.out;have Q:ZP J w.heap.size 162 (Z6 (ZX ⟨r,0,ZY⟩)):=(P.block _ x7 y8).trans a.b2;have O:=H.keep (P.block _ H.lt qf);have V:=E.keep (P.block _ E.lt u.v);clear a C B R H E W;have ky:∀ z m,aa (λk=>k=r\/k=v) J z->dI z r v b g N (gone|||gn) sp->bk z v p D L G ps (ho|||gW A.lost (tT ds (dm pre)++[x.1]))->m=z.drew.setCell ⟨r,3,ZY⟩ (Z7 Z8 ((gone|||gn|||2^x.1:Nat):Int))->(X.heap.size<=m.heap.size/\∀ k,w.heap.size<=k->k<X.heap.size->m.heap[k]?=X.heap[k]?)/\aG m/\Qe w r v b g N p D L G ps ho gone sp B0 ds A F M w6.heap.size S (pre++[x]) m:=λz m I Y ka kb=>by
      have kh:dI m r v b g N (gone|||gn|||2^x.1) sp:=(by rw [kb];exact ai (j:=3) Y _);have x9:aa (λk=>k=r) z m:=by
       rw [kb];exact (aa.drew z).trans (aa.setCell _ _ _ rfl)
      have kv:aa (λk=>k=r\/k=v) J m:=I.trans (x9.mono λ_ _ q=>.inl q);exact HF.out m k8 kh (ka.keep (x9.block _ ka.lt x2)) (q8.out.keep λk c=>kv.block k (q8.out.RU c) (λe=>by rcases e with e|e;exact qf (by rw [<- e];exact c);exact u.v (by rw [<- e];exact c))) ((P.mono λ_ _ q=>.inr (.inr q)).trans (kv.mono λ_ _ q=>q.elim .inl λq=>.inr (.inl q)))
     have HE:=al ky;clear ky HF;cases kg:A.lost x.1 with
     | true=>
      have hq:=rQ (tT ds (dm pre)) kg;rw [qe,Nat.or_comm] at hq;have H2:=a5 O V Q hq;clear O V Q kg hq;gi_wp2;obtain ⟨O,V,Q,hq⟩:=H2.out;refine zF (s:=76) (If (by kernel_rfl)) (by omega) V Q O x.1 (by omega) (by omega) (by omega) (λe=>x2 e.symm) (by omega) rfl rfl rfl ?_;intro z k7;have ka:bk z v p D L G ps (ho|||hl|||2^x.1):=(by rw [k7];exact ai (j:=5) V _);have I:aa (λk=>k=v) J z:=by
       rw [k7];exact (aa.drew J).trans (aa.setCell _ _ _ rfl)
      have Y:=O.keep (I.block r O.lt (λe=>x2 e.symm));have ko:ZP z w.heap.size 162 (Z6 (ZX ⟨r,0,ZY⟩)):=(I.block _ Q.lt (by omega)).trans Q;have H4:=a5 ka I Y ko;clear O V Q k7 ka I Y ko hq;rename_i hK
      refine hK _ _ ?_;clear hK;simp only [Act.RR,Act.put,UW,UR,UX];gi_wp2;obtain ⟨ka,I,Y,ko⟩:=H4.out;refine lV ko Y x.1 (by omega) (by omega) (by omega) (by kernel_rfl) rfl rfl rfl ?_;intro m kb;have H5:=al (HE.out z m (I.mono λ_ _ q=>.inr q) Y (by rw [H2.out.2.2.2,Nat.or_comm (2^x.1),<- Nat.or_assoc];exact ka) kb);clear Y ka ko kb I;simp only [Act.RR,Act.put,UW,UR,UX];gi_wp2;obtain ⟨⟨q1,q2⟩,q3,q4⟩:=H5.out;exact ⟨⟨q1,λk o c ho _=>(q2 k (by omega) (TX.1 ho).1).trans ho⟩,λ_=>q3,q4⟩
     | false=>
      have H2:=a5 O V Q kg;clear O V Q kg;gi_wp2;obtain ⟨O,V,Q,kg⟩:=H2.out;refine lV Q O x.1 (by omega) (by omega) (by omega) (by kernel_rfl) rfl rfl rfl ?_;intro m kb;have H5:=al (HE.out J m (aa.refl _ _) O (by rw [nu _ kg,qe];exact V) kb);clear O V Q kb kg;simp only [Act.RR,Act.put,UW,UR,UX];gi_wp2;obtain ⟨⟨q1,q2⟩,q3,q4⟩:=H5.out;exact ⟨⟨q1,λk o c ho _=>(q2 k (by omega) (TX.1 ho).1).trans ho⟩,λ_=>q3,q4⟩
 case done=>
  rintro D' xs X xx ye a hK;have kj:dm xs=ab S:=ye;obtain ⟨f,B,C⟩:=a.row;have q6:∀ k,k<w.heap.size+1->(X.putObj D' (.deferred ZY)).heap[k]?=X.heap[k]?:=λk c=>UV (by omega);have R:=a.arr;refine Lk results125 rfl hK ⟨rfl,by rw [<- kj];exact a.rd.keep (q6 _ (by omega)),by rw [<- kj];exact a.vol.keep (q6 _ (by omega)),⟨f,B.of_block (q6 _ (by omega)),?_⟩,?_,?_⟩
  . rw [<- kj];refine C.keep (by simp [World.putObj]) λk o c ho hc=>(UV (λe=>?_)).trans ho;rw [e,hK] at ho;cases ho;cases hc
  . exact R.keep λk c=>q6 k (by have:=kp k c;omega)
  . exact a.out.later (T:=λk=>w.heap.size<=k) ⟨rfl,rfl,rfl,by simp [World.putObj],λk q0 q5=>q6 k (by omega)⟩ (λk q0 q5=>by omega)
 case stop=>
  rintro D' cc pre X xx y9 hx hK;exact hx.elim
end
section
attribute [local go_sem] Oper.semAt_some
structure CF (w:ZU) (D L G:Nat) (X:ZU):Prop where
 par:X.heap[w.heap.size]?=ZX (Z4 #[Z7 Z9 (D:Int),Z7 Z9 (L:Int),Z7 Z9 (G:Int)] 26 (0,0))
 res:aD X (w.heap.size+1) dJ
 err:ZP X (w.heap.size+1+1) 53 .nilIface
 below:bW w X
def CF.mono (h:CF w D L G X) (a:ZS B X Y) (b:w.heap.size+3<=B):CF w D L G Y:=
 ⟨(a.block _ (by omega)).trans h.par,h.res.keep (a.block _ (by omega)),(a.block _ (by omega)).trans h.err,h.below.trans (a.mono (by omega))⟩
def CF.own {row:Option Nat} (h:CF w D L G X) (b:w.heap.size+3<=B) (a:X.grownBy Y row) (hr:∀ r,row=ZX r->B<=r):CF w D L G Y:=
 h.mono (B:=w.heap.size+3) ⟨a.os,a.tape,a.output,a.size,λk c=>a.block k (by have:=h.err.lt;omega) (λe=>by have:=hr k e.symm;omega)⟩ lR
def eX {x z:ZT} {t:TypeId} (h:X.heap[b]?=ZX (Z4 #[x,y,z] t (0,0))):X.cell? ⟨b,0,ZY⟩=ZX x/\X.cell? ⟨b,1,ZY⟩=ZX y/\X.cell? ⟨b,2,ZY⟩=ZX z:=by simp [World.cell?,h]
def Qg (D L G S:Nat) (w:ZU) (e:ZQ) (w':ZU):Prop:=
 bW w w'/\((tells (ll D L G) (ab S)=ZY/\e=Z3 (Z0 #[.agg (aV dJ),.iface 58 (Z7 Z9 3)])) \/
  (∃ C,tells (ll D L G) (ab S)=ZX C/\e=Z3 (Z0 #[.agg (aV C),.nilIface])))
def El (pre:List Sh):a8:=pre.map (·.1)
def Ih (pre:List Sh) (x:Sh):El (pre++[x])=El pre++[x.1]:=by unfold El;simp
def RD (w:ZU) (D L G Bc B:Nat) (pre:List Sh) (X:ZU):Prop:=CF w D L G X/\(∃ C,tells (ll D L G) (El pre)=ZX C/\aD X Bc C)/\B<=X.heap.size
def CfX (w:ZU) (D L G B:Nat) (c:Code) (pre:List Sh) (X:ZU):Prop:=c=.ret/\tells (ll D L G) (El pre)=ZY/\bW w X/\B<=X.heap.size /\
 aD X (w.heap.size+1) dJ/\ZP X (w.heap.size+1+1) 53 (.iface 58 (Z7 Z9 3))
def RD.own {Bc:Nat} (g:w.heap.size+3<=B) (h:Bc<B):OwnFrom B (RD w D L G Bc B):=by
 rintro pre X Y row ⟨c,⟨C,d,b⟩,f⟩ a hr;exact ⟨c.own g a (λr e=>(hr r e).1),⟨C,d,b.keep (a.block _ b.lt (λe=>by have:=(hr _ e.symm).1;omega))⟩,TW f a.size⟩
def CfX.own (l:w.heap.size+3<=B) (c:Code):OwnFrom B (CfX w D L G B c):=by
 rintro pre X Y row ⟨f,g,d,h,i,j⟩ a hr;have b:∀ k,k<w.heap.size+3->Y.heap[k]?=X.heap[k]?:=λk b=>a.block k (by omega) (λe=>by have:=(hr k e.symm).1;omega);exact ⟨f,g,d.grown a d.size (λk e=>by have:=(hr k e).1;omega),TW h a.size,i.keep (b _ (by omega)),(b _ (by omega)).trans j⟩
def qS (h:aD X b C) (cs:Array ZT):KeepsOthers X (X.setRow b cs):=
 aa9 (aN _ _ _) (λj o e ho=>by cases e;rw [h.heap] at ho;cases ho;rfl)
def Em (h:aD w b C):(loadVar 326 ⟨b,0,ZY⟩).run ZO w=.ok (.agg (aV C)) w:=WN w b 326 326 (aV C) (0,0) _ h.heap Xn rfl (dQ C)
theorem Ln {ev:ZT} {R:ZQ->ZU->Prop} (c:a.defers=[{ target:=.collected D',args:=#[] }]) (h4:a.tmps.getD 4 ZZ=Z6 (ZX ⟨w.heap.size+1,0,ZY⟩)) (h5:a.tmps.getD 5 ZZ=Z6 (ZX ⟨w.heap.size+1+1,0,ZY⟩))
 (h1:aD Z (w.heap.size+1) C) (h0:ZP Z (w.heap.size+1+1) 53 ev) (hK:Z.heap[D']?=ZX (.deferred (ZX []))) (hD:w.heap.size+3<=D')
 (hR:R (Z3 (Z0 #[.agg (aV C),ev])) (Z.putObj D' (.deferred ZY))):bodyPostM Fence.wide n ZO Tryz.f199 R .ret a Z:=by
 obtain ⟨d,h⟩:=a;simp only at c h4 h5;subst c;refine ⟨by simp,.inl ⟨_,_,rfl,Wt hK,?_⟩⟩;have c0:=Em (show aD (Z.putObj D' (.deferred ZY)) (w.heap.size+1) C from h1.keep (UV (by omega)));have e:=(show ZP (Z.putObj D' (.deferred ZY)) (w.heap.size+1+1) 53 ev from (UV (by omega)).trans h0).cell;have b:(loadVar 53 ⟨w.heap.size+1+1,0,ZY⟩).run ZO (Z.putObj D' (.deferred ZY))=.ok ev (Z.putObj D' (.deferred ZY)):=by simp [go_sem,e]
 refine ⟨Z0 #[.agg (aV C),ev],?_,hR⟩;have f:d[4]?.getD ZZ=Z6 (ZX ⟨w.heap.size+1,0,ZY⟩):=by simpa using h4
 have g:d[5]?.getD ZZ=Z6 (ZX ⟨w.heap.size+1+1,0,ZY⟩):=by simpa using h5
 simp [results,results199,asAddr,f,g,c0,b]
theorem lf (D L G S:Nat) (hr:eF D L G=ZW) (qc:1<=D) (hD:D<=12) (hL:1<=L) (ka:L<=4) (hG:G<=4) (hx:D%L=0) (qg:D+L+G<=16) (hS:S<65536) (w:ZU) (hT:aG w) (h2:3<=w.heap.size) :
 ZR ZO 199 #[.agg #[Z7 Z9 D,Z7 Z9 L,Z7 Z9 G],Z7 Z8 S] w λe w'=>Qg D L G S w e w':=by
 obtain ⟨n,HN⟩:∃ n:Nat,Hid (9<=n):=⟨9,TV _⟩;refine (Vk (n:=n)).1 ?_;refine V6 func199 rfl trivial ?_ rfl;simp only [ntmps199,UF,Uv,UQ,YF,YG,Va,Vb,Vc,Vd,Uk,UL];have hz:=zeroCk;gi_wp2;refine cV (j8 D L G hr hD hL ka hG hx _) ?_;rintro e w1 ⟨v,T,rfl,kb,hH,F⟩;have Y:(((w.alloc (Z4 #[Z7 Z9 (D:Int),Z7 Z9 (L:Int),Z7 Z9 (G:Int)] 26)).alloc (Z4 (aV dJ) 326)).alloc (Z4 #[.nilIface] 53)).heap.size=w.heap.size+3:=by simp
 have kh:CF w D L G (((w.alloc (Z4 #[Z7 Z9 (D:Int),Z7 Z9 (L:Int),Z7 Z9 (G:Int)] 26)).alloc (Z4 (aV dJ) 326)).alloc (Z4 #[.nilIface] 53)):=by
  obtain ⟨a1,a2,a3,a4⟩:=Ka w (Z4 #[Z7 Z9 (D:Int),Z7 Z9 (L:Int),Z7 Z9 (G:Int)] 26) (Z4 (aV dJ) 326) (Z4 #[.nilIface] 53);exact ⟨a2,aD.of_heap a3,a4,((bA w _).alloc (by simp) _).alloc (by simp;omega) _⟩
 try change ZS _ _ _ at F
 rw [Y] at F;have Q:=kh.mono F lR;have M:=F.size;try change ZS _ _ _ at M
 rw [Y] at M;clear kh F Y;have hM:aT D L G≠[]:=λe=>by have:=di D L G;rw [e] at this;simp at this;omega
 obtain ⟨g,c,rfl,hv,kg⟩:=La kb hH (mz D L G) hM;obtain ⟨p0,p1,p2⟩:=eX Q.par;have ki:ZR ZO 205 #[Z5 (ZX ⟨g,0,ZY⟩) (aT D L G).length c,Z7 Z9 D] w1 λe w'=>e=Z3 (.agg (aV (ll D L G)))/\bW w1 w':=by
  have ha:=di D L G;have h:=zv g 0 c (aT D L G) D w1 hv (λi a=>kg i a) qc (by omega) (by omega) (by omega) (λi a=>by
   have e:(aT D L G).getD i []=(aT D L G)[i]:=(by simp [a]);rw [e];exact mz D L G _ (T4 a))
  try change ZS _ _ _ at h
  rw [show (aT D L G).length-D=L+G by omega] at h;exact h
 have k6:=al Q;clear kb hH Q kg;gi_wp2;refine cV ki ?_;clear ki;rintro e b ⟨rfl,W⟩;have kr:=W.size;have h6:=k6.out.mono W (by omega);have kc:bW b ((b.alloc (Z4 (aV dJ) 326)).setRow b.heap.size (aV (ll D L G))):=(bA _ _).grown (aN _ _ _) (by simp) (λk e=>by cases e;exact TV _);have ke:aD ((b.alloc (Z4 (aV dJ) 326)).setRow b.heap.size (aV (ll D L G))) b.heap.size (ll D L G):=(aD.new b dJ).setRow (ll D L G);have h7:=h6.mono kc (by omega);have kz:((b.alloc (Z4 (aV dJ) 326)).setRow b.heap.size (aV (ll D L G))).heap.size=b.heap.size+1:=by simp [World.setRow]
 have H:=aE ke h7 kz;clear k6 W h6 kc ke h7 kz;gi_wp2_with (refine jJ rfl (Z1 8) (Z1 22) rfl b.heap.size (ll D L G) dJ rfl rfl (aD.new b dJ) ?_)
 obtain ⟨d,kv⟩:=nM ((b.alloc (Z4 (aV dJ) 326)).setRow b.heap.size (aV (ll D L G)));rw [kv] at H ⊢;clear kv;refine cV (dC S d) ?_;rintro e w' ⟨rfl,rfl⟩;have q0:(d.alloc (Z4 #[Z7 Z8 (S:Int)] 131)).heap.size=d.heap.size+1:=by simp
 have kf:(d.alloc (Z4 #[Z7 Z8 (S:Int)] 131)).cell? ⟨d.heap.size,0,ZY⟩=ZX (Z7 Z8 (S:Int)):=(Bx.new d 131 (Z7 Z8 (S:Int))).cell;have kk:RD w D L G b.heap.size (d.heap.size+1) [] (d.alloc (Z4 #[Z7 Z8 (S:Int)] 131)):=by
  have E:bW d (d.alloc (Z4 #[Z7 Z8 (S:Int)] 131)):=bA _ _;obtain ⟨u,y,m⟩:=H.out;exact ⟨y.mono E (by omega),⟨ll D L G,rfl,u.keep (E.block _ (by omega))⟩,by omega⟩
 obtain ⟨A,kx⟩:=nM (d.alloc (Z4 #[Z7 Z8 (S:Int)] 131));have hf:=H.out.2.2;have K:=a5 q0 hf M kr;have J:=al kf;have s:=al kk;clear q0 kf kk H hf M kr p0 p1 p2;gi_wp2;try change ZS _ _ _ at K
 try change ZS _ _ _ at J
 try change ZS _ _ _ at s
 rw [kx] at K J s;clear kx;have qa:w.heap.size+3<=A.heap.size/\b.heap.size<A.heap.size/\A.heap.size=d.heap.size+1:=by obtain ⟨u,y,m,N⟩:=K.out;omega
 obtain ⟨k7,q9,U⟩:=qa;try change ZS _ _ _ at s
 rw [<- U] at s;have q6:=al U;clear U;refine V7 rfl (by have:=HN.out;omega) (gf:=155) (lb:=#[Z6 (ZX ⟨d.heap.size,0,ZY⟩)]) rfl trivial (Vl func155 (by kernel_rfl) rfl)
  (eI (n-1) d.heap.size S hS A (by have:=q6.out;omega) J.out (by omega) (hT.mono (by omega) s.out.1.below)) (λh k=>qG h k) (qH (by omega)) (TY _ _) (λ_=>rfl)
  (RD w D L G b.heap.size A.heap.size) (CfX w D L G A.heap.size) (RD.own k7 q9) (CfX.own k7) s.out
  (λx=>{ tmps:=#[.agg #[Z7 Z9 (D:Int),Z7 Z9 (L:Int),Z7 Z9 (G:Int)],Z7 Z8 (S:Int),Z6 (ZX ⟨w.heap.size,0,ZY⟩),ZZ,Z6 (ZX ⟨w.heap.size+1,0,ZY⟩),Z6 (ZX ⟨w.heap.size+1+1,0,ZY⟩),Z5 (ZX ⟨g,0,ZY⟩) (aT D L G).length c,.nilIface,Z6 (ZX ⟨b.heap.size,0,ZY⟩),Z7 Z9 (x.1:Int),Z0 #[Z5 (ZX ⟨g,0,ZY⟩) (aT D L G).length c,.nilIface],.agg #[Z7 Z9 (D:Int),Z7 Z9 (L:Int),Z7 Z9 (G:Int)],Z0 #[Z5 (ZX ⟨g,0,ZY⟩) (aT D L G).length c,.nilIface],Z5 (ZX ⟨g,0,ZY⟩) (aT D L G).length c,.nilIface,.nilIface,Z2 ZV,ZZ,ZZ,Z5 (ZX ⟨g,0,ZY⟩) (aT D L G).length c,Z6 (ZX ⟨w.heap.size,0,ZY⟩),Z7 Z9 (D:Int),.agg (aV (ll D L G)),Z7 Z8 (S:Int),.func (.func 155) #[] #[Z6 (ZX ⟨d.heap.size,0,ZY⟩)],Z7 Z9 (x.1:Int),ZZ,ZZ,ZZ,ZZ,ZZ,ZZ],defers:=[] }) ?assign ?body ?done ?stop
 case assign=>
  intro l2 x X Kk hK;unfold qF;gi_wp2;exact hK
 case body=>
  rintro l2 pre x X ⟨a,⟨C,l,z⟩,t⟩ ha;have h9:=zw hD ka hG l;have ks:=tC b.heap.size x.1 C X z h9 x.2;have I:tells (ll D L G) (El (pre++[x]))=ph C x.1:=by rw [Ih,jW,l];rfl
  have j:=al a;have Z:=al t;clear t ha l z h9;have ce:=a.err.cell;have fe:=a.err.frozen;clear a;gi_wp2;refine ef ks ?_;clear ks;rintro e w2 (⟨km,rfl,qf⟩|⟨C',ko,rfl,k8,kj⟩)
  . subst qf;have q8:=al (I.trans km);clear I km;have f:ZP (w2.setRow (w.heap.size+1) (aV dJ)) (w.heap.size+1+1) 53 .nilIface:=((aN _ _ _).block _ j.out.err.lt (λe=>by have:=UI e;omega)).trans j.out.err;have O:=f.cell;have P:=f.frozen;have q7:=al f;clear f;gi_wp2_with (refine jJ rfl (Z1 4) (Z1 29) rfl (w.heap.size+1) dJ dJ rfl rfl j.out.res ?_)
    have a:=j.out;have V:bW w (w2.setRow (w.heap.size+1) (aV dJ)):=a.below.grown (aN _ _ _) a.below.size (λq e=>by cases e;omega);refine ⟨?_,rfl,q8.out,?_,?_,?_,?_⟩
    . exact ((qS j.out.res _).trans (VS _ _ _)).from _
    . exact V.setCell (p:=⟨w.heap.size+1+1,0,ZY⟩) (by show w.heap.size<=w.heap.size+1+1;omega) _
    . have:=Z.out;simpa [World.setCell,World.setRow] using this
    . exact (a.res.setRow dJ).keep (V3 _ _ _ _ (by show w.heap.size+1≠w.heap.size+1+1;omega))
    . exact q7.out.set _
  . have H2:=aE (I.trans ko) k8 kj;clear I ko k8 kj;gi_wp2;obtain ⟨u,y,m⟩:=H2.out;have h5:=j.out.own (B:=w.heap.size+3) lR m (λr e=>by cases e;obtain ⟨u,y,m,N⟩:=K.out;omega);exact ⟨⟨m.size,λk o hk ho _=>(m.block k (TX.1 ho).1 (λe=>by cases e;omega)).trans ho⟩,λ_=>hT.mono (by omega) h5.below,h5,⟨C',u,y⟩,TW Z.out m.size⟩
 case done=>
  rintro D' xs X qb ky ⟨a,⟨C,l,z⟩,t⟩ hK;try change ZS _ _ _ at l
  rw [show El xs=ab S from ky] at l;have f:ZP (X.setRow (w.heap.size+1) (aV C)) (w.heap.size+1+1) 53 .nilIface:=((aN _ _ _).block _ a.err.lt (λe=>by have:=UI e;omega)).trans a.err;have O:=f.cell;have P:=f.frozen;have j:=a7 a z t hK l f;clear a z t hK l ky xs s J f;gi_wp2_with (first
   | refine kD rfl (Z1 8) rfl b.heap.size C rfl j.out.2.1 ?_
   | refine jJ rfl (Z1 4) (Z1 31) rfl (w.heap.size+1) C dJ rfl rfl j.out.1.res ?_)
  obtain ⟨a,z,t,hK,l,f⟩:=j.out;have V:bW w (X.setRow (w.heap.size+1) (aV C)):=a.below.grown (aN _ _ _) a.below.size (λq e=>by cases e;omega);have qd:=V.setCell (p:=⟨w.heap.size+1+1,0,ZY⟩) (by show w.heap.size<=w.heap.size+1+1;omega) .nilIface;have qe:=(qS a.res (aV C)).trans (VS _ ⟨w.heap.size+1+1,0,ZY⟩ .nilIface);have k9:=qe.same D' _ hK rfl;exact Ln (w:=w) rfl rfl rfl ((a.res.setRow C).keep (V3 _ _ _ _ (by show w.heap.size+1≠w.heap.size+1+1;omega))) (f.set _) k9 (by omega)
   ⟨Below.RV qd (by omega) (TX.1 k9).1 _,.inr ⟨C,l,rfl⟩⟩
 case stop=>
  rintro D' cc pre X qb k0 ⟨rfl,kp,E,t,he,h8⟩ hK;have hc:tells (ll D L G) (ab S)=ZY:=by
   obtain ⟨R,hR⟩:=k0;rw [<- hR];exact iX _ _ _ kp
  have HH:=a6 E he h8 hK hc;clear E he h8 hK hc kp;gi_wp2;obtain ⟨u,y,m,N,q5⟩:=HH.out;exact Ln (w:=w) rfl rfl rfl y m N (by omega) ⟨Below.RV u (by omega) (TX.1 N).1 _,.inl ⟨q5,rfl⟩⟩
end
section
attribute [local go_sem] Oper.semAt_some
structure WI (w:ZU) (C:Ck) (regs:Int) (L:List St) (X:ZU):Prop where
 ck:aD X w.heap.size C
 res:X.heap[w.heap.size+1]?=ZX (Z4 #[Z7 Z9 0,Z5 ZY 0 0] 187 (0,0))
 pb:PB X (w.heap.size+3) (w.heap.size+1+1) regs L
 below:bW w X
theorem WI.own {L:List St} {row:Option Nat} (h:WI w C regs L X) (c:w.heap.size+3<=B) (a:X.grownBy Y row) (hr:∀ r,row=ZX r->B<=r/\∃ o:Obj,X.heap[r]?=ZX o/\o.isCells=ZV):WI w C regs L Y:=by
 have:=h.pb.2.1;have b:∀ k,k<w.heap.size+3->Y.heap[k]?=X.heap[k]?:=λk b=>a.block k (by omega) (λe=>by have:=(hr k e.symm).1;omega);exact ⟨h.ck.keep (b _ (by omega)),(b _ (by omega)).trans h.res,h.pb.own c a hr,h.below.grown a h.below.size (λk e=>by have:=(hr k e).1;omega)⟩
def WI.next {L:List St} {s:St} {ob:Obj} (h:WI w C regs L X) (d:X.heap[w.heap.size+1+1]?=ZX (Z4 #[Z7 Z9 regs,v] 187 (0,0))) (e:X.ownsRow (w.heap.size+3) 292 4 v L.length (eh .u8 L))
 (g:(X.alloc ob).grownBy w2 v.ownBlock) (f:w.heap.size+3<=g') (c:w2.ownsRow (w.heap.size+3) 292 4 (Z5 (ZX ⟨g',0,ZY⟩) (L.length+1) cap') (L.length+1) (eh .u8 (L++[s]))) :
 w2.cell? ⟨w.heap.size+1+1,1,ZY⟩=ZX v/\w2.frozen? ⟨w.heap.size+1+1,1,ZY⟩=ZV/\(WI w C regs (L++[s]) (w2.setCell ⟨w.heap.size+1+1,1,ZY⟩ (Z5 (ZX ⟨g',0,ZY⟩) (L.length+1) cap'))/\KeepsOthers X (w2.setCell ⟨w.heap.size+1+1,1,ZY⟩ (Z5 (ZX ⟨g',0,ZY⟩) (L.length+1) cap'))):=by
 obtain ⟨i,j,l,a,b,m,n,o⟩:=PB.next (n0:=w.heap.size+3) (Bg:=w.heap.size+1+1) (by omega) h.pb.2.1 d e g f c;refine ⟨j,l,⟨h.ck.keep (a _ (by omega) (by omega)),(a _ (by omega) (by omega)).trans h.res,i,h.below.trans ⟨m,n,o,?_,λk p=>a k (by omega) (by omega)⟩⟩,b⟩;exact b.size
def WI.told {L:List St} (h:WI w C regs L X):X.cell? ⟨w.heap.size,128,ZY⟩=ZX (Z7 Z9 (C.told:Int)):=h.ck.Sw
def Ce (X:ZU) (s:St):∀ j v,(GL .u8 s)[j]?=ZX v->(X.alloc (Z4 #[Z7 .u8 (s.k:Int),Z7 Z9 s.a,Z7 Z9 s.b,Z7 .u8 (s.c:Int)] 292)).cell? ((⟨X.heap.size,0,ZY⟩:Addr).add j)=ZX v:=
 AW X X.heap.size rfl _ _ _ _ _
def Ii (C:Ck) (pre:List Sh):List St:=wrTo C (pre.map (·.1))
def FQ (C:Ck) (pre:List Sh) (i k:Nat):List St:=Ii C pre++[⟨0,0,(i:Int),0⟩]++gD C i k
theorem NL (C:Ck) (a:ep C) (pre:List Sh) (s:Nat) (h:pre.length<(ab s).length) (i k:Nat) (l:k<=C.told):(Ii C pre).length<=200/\(FQ C pre i k).length<=300:=by
 have b:=rW C (pre.map (·.1));have:=BY C i k;have:(ab s).length<=16:=by rw [<- kF s];exact pQ s
 have:=a.le;have:=a.Sg;have c:(pre.map (·.1)).length*(C.told+1)<=16*9:=Xo (by rw [T7];omega) (by omega);have:(Ii C pre).length<=144:=TW b c;refine ⟨by omega,?_⟩;unfold FQ;simp only [T8,aa4];omega
def Lo (C:Ck) (pre:List Sh) (i:Nat):FQ C pre i 0=Ii C pre++[⟨0,0,(i:Int),0⟩]:=by unfold FQ;rw [tK,Wg]
def Qh (pre:List Sh) {i k:Nat} (h:C.m k i≠0):FQ C pre i (k+1)=FQ C pre i k++[⟨1,1+(k:Int),0,C.m k i⟩]:=by unfold FQ;rw [BX C i k h,<- Uz]
def NM (pre:List Sh) {i k:Nat} (h:C.m k i=0):FQ C pre i (k+1)=FQ C pre i k:=by unfold FQ;rw [xw C i k h]
def NO {x:Sh} (h:cF C x.1=ZW):FQ C pre x.1 C.told=Ii C (pre++[x]):=by
 unfold FQ Ii;rw [Uw,YK,xu,iz h];simp
def Qi {x:Sh} (h:cF C x.1=ZV):Ii C pre=Ii C (pre++[x]):=by
 unfold Ii;rw [Uw,YK,xu,lS h];simp
def Ij (X:ZU) (n:Nat) (hn:n=X.heap.size) (s:St):∀ j v,(GL .u8 s)[j]?=ZX v->(X.alloc (Z4 #[Z7 .u8 (s.k:Int),Z7 Z9 s.a,Z7 Z9 s.b,Z7 .u8 (s.c:Int)] 292)).cell? ((⟨n,0,ZY⟩:Addr).add j)=ZX v:=
 AW X n hn _ _ _ _ _
def NP (h:pre.map (·.1)=ab s):Ii C pre=wrTo C (ab s):=by unfold Ii;rw [h]
def xA (C:Ck) (kept:Nat) (pre:List Sh):List St:=wrTo C (ab kept)++fC (pre.map (·.1))
def NQ (C:Ck) (kept:Nat):xA C kept []=wrTo C (ab kept):=by unfold xA fC;simp
def Lp (C:Ck) (kept:Nat) (pre:List Sh) (x:Sh):xA C kept (pre++[x])=xA C kept pre++[⟨2,(pre.length:Int)+1,(x.1:Int),0⟩]:=by
 unfold xA;rw [Uw,YK,Eg,T7,<- Uz]
def NR (h:pre.map (·.1)=ab gone):xA C kept pre=fM C gone kept:=by unfold xA fM;rw [h]
theorem Qj (C:Ck) (a:ep C) (kept:Nat) (pre:List Sh) (s:Nat) (h:pre.length<(ab s).length):(xA C kept pre).length<=300:=by
 have c:=rW C (ab kept);have:(ab s).length<=16:=by rw [<- kF s];exact pQ s
 have b:(ab kept).length<=16:=by rw [<- kF kept];exact pQ kept
 have:=a.le;have:=a.Sg;have d:(ab kept).length*(C.told+1)<=16*9:=Xo b (by omega);have:(wrTo C (ab kept)).length<=144:=TW c d;unfold xA fC;simp only [T8,T7,UC];omega
def Lq {xs:List ZT} (h:X.ownsRow n0 292 4 v k xs) (b:ZP X R 3 u):v.ownBlock≠ZX R:=by
 rcases h.2 with ⟨rfl,_⟩|⟨g,cap,cur,rfl,_,a,_⟩
 . intro e;cases e
 . intro e;obtain rfl:g=R:=(by simpa [Value.ownBlock] using e);rw [show X.heap[g]?=_ from b] at a;have:=UI a;cases this
theorem WI.set {L:List St} {u':ZT} (h:WI w C regs L X) (g:w.heap.size+3<=R) (c:ZP X R 3 u):WI w C regs L (X.setCell ⟨R,0,ZY⟩ u'):=by
 have a:∀ k,k≠R->(X.setCell ⟨R,0,ZY⟩ u').heap[k]?=X.heap[k]?:=λk a=>V3 _ _ _ _ a;obtain ⟨d,e,v,f,b⟩:=h.pb;exact ⟨h.ck.keep (a _ (by omega)),(a _ (by omega)).trans h.res,⟨d,by simpa [World.setCell] using e,v,(a _ (by omega)).trans f,b.kept (dk X R 0 u') (.inr (Lq b c))⟩,h.below.setCell (p:=⟨R,0,ZY⟩) (by show w.heap.size<=R;omega) _⟩
structure WP (w:ZU) (C:Ck) (regs:Int) (kept R D:Nat) (pre:List Sh) (Y:ZU):Prop where
 wi:WI w C regs (xA C kept pre) Y
 box:ZP Y R 3 (Z7 Z9 (pre.length:Int))
 mark:Y.heap[D]?=ZX (.deferred (ZX []))
theorem WP.own {row:Option Nat} (h:WP w C regs kept R D pre X) (c:w.heap.size+3<=B) (d:R<B) (hD:D<B) (b:X.grownBy Y row) (hr:∀ r,row=ZX r->B<=r/\∃ o:Obj,X.heap[r]?=ZX o/\o.isCells=ZV):WP w C regs kept R D pre Y:=by
 have a:∀ k,k<B->k<X.heap.size->Y.heap[k]?=X.heap[k]?:=λk a f=>b.block k f (λe=>by have:=(hr k e.symm).1;omega);exact ⟨h.wi.own c b hr,(a R d h.box.lt).trans h.box,(a D hD (TX.1 h.mark).1).trans h.mark⟩
def WP.next {x:Sh} {ob:Obj} (h:WP w C regs kept R D pre X) (j:w.heap.size+3<=R)
 (g:(X.setCell ⟨R,0,ZY⟩ (Z7 Z9 ((pre.length:Int)+1))).heap[w.heap.size+1+1]?=ZX (Z4 #[Z7 Z9 regs,v] 187 (0,0))) (a:(X.setCell ⟨R,0,ZY⟩ (Z7 Z9 ((pre.length:Int)+1))).ownsRow (w.heap.size+3) 292 4 v (xA C kept pre).length (eh .u8 (xA C kept pre)))
 (d:((X.setCell ⟨R,0,ZY⟩ (Z7 Z9 ((pre.length:Int)+1))).alloc ob).grownBy w2 v.ownBlock) (i:w.heap.size+3<=g') (f:w2.ownsRow (w.heap.size+3) 292 4 (Z5 (ZX ⟨g',0,ZY⟩) ((xA C kept pre).length+1) cap') ((xA C kept pre).length+1) (eh .u8 (xA C kept pre++[⟨2,(pre.length:Int)+1,(x.1:Int),0⟩]))) :
 w2.cell? ⟨w.heap.size+1+1,1,ZY⟩=ZX v/\w2.frozen? ⟨w.heap.size+1+1,1,ZY⟩=ZV/\(WP w C regs kept R D (pre++[x]) (w2.setCell ⟨w.heap.size+1+1,1,ZY⟩ (Z5 (ZX ⟨g',0,ZY⟩) ((xA C kept pre).length+1) cap'))/\KeepsOthers X (w2.setCell ⟨w.heap.size+1+1,1,ZY⟩ (Z5 (ZX ⟨g',0,ZY⟩) ((xA C kept pre).length+1) cap'))):=by
 have k:WI w C regs (xA C kept pre) (X.setCell ⟨R,0,ZY⟩ (Z7 Z9 ((pre.length:Int)+1))):=h.wi.set j h.box;have c:ZP (X.setCell ⟨R,0,ZY⟩ (Z7 Z9 ((pre.length:Int)+1))) R 3 (Z7 Z9 ((pre.length:Int)+1)):=h.box.set _;obtain ⟨l,m,n,o⟩:=k.next g a d i f;have b:=(VS X ⟨R,0,ZY⟩ (Z7 Z9 ((pre.length:Int)+1))).trans o;refine ⟨l,m,⟨by rw [Lp];exact n,?_,b.same D _ h.mark rfl⟩,b⟩;have b2:ZP w2 R 3 (Z7 Z9 ((pre.length:Int)+1)):=(c.alloc ob).kept d (λe=>Lq a c e.symm);have b3:=(V3 w2 ⟨w.heap.size+1+1,1,ZY⟩ (Z5 (ZX ⟨g',0,ZY⟩) ((xA C kept pre).length+1) cap') R (by show R≠w.heap.size+1+1;omega)).trans b2;rw [T8];exact b3
def iQ {x x':ZT} {t:TypeId} (h:Y.heap[b]?=ZX (Z4 #[x,y] t (0,0))):(Y.setCell ⟨b,0,ZY⟩ x').heap[b]?=ZX (Z4 #[x',y] t (0,0)):=by
 obtain ⟨a,c⟩:=TX.1 h;show (Y.heap.modify b _)[b]?=_;rw [VD (by rw [Yw];exact a),YJ,c];rfl
def iR {x y':ZT} {t:TypeId} (h:Y.heap[b]?=ZX (Z4 #[x,y] t (0,0))):(Y.setCell ⟨b,1,ZY⟩ y').heap[b]?=ZX (Z4 #[x,y'] t (0,0)):=by
 obtain ⟨a,c⟩:=TX.1 h;show (Y.heap.modify b _)[b]?=_;rw [VD (by rw [Yw];exact a),YJ,c];rfl
def fZ {base':Nat} {xs:List ZT} (h:w.ownsRow base e size v n xs) (f:base'<=base):w.ownsRow base' e size v n xs:=by
 refine ⟨h.1,?_⟩;rcases h.2 with b|⟨g,cap,cur,a,c,d⟩
 . exact .inl b
 . exact .inr ⟨g,cap,cur,a,TW f c,d⟩
def Ik:(ZO.info? 187).map (·.size)=ZX 2:=by kernel_rfl
theorem Il (C:Ck) (gone kept:Nat) (w:ZU) (F:ep C) (hg:gone<65536) (hk:kept<65536) (V:aG w) (h2:3<=w.heap.size) :
 ZR ZO 202 #[.agg (aV C),Z7 Z8 gone,Z7 Z8 kept] w λe w'=>∃ v,e=Z3 (.agg #[Z7 Z9 (1+((ab gone).length:Int)),v])/\bW w w'/\w'.ownsRow w.heap.size 292 4 v (fM C gone kept).length (eh .u8 (fM C gone kept)):=by
 have qf:(ab gone).length<=16:=by rw [<- kF gone];exact pQ gone
 obtain ⟨n,HN⟩:∃ n:Nat,Hid (9<=n):=⟨9,TV _⟩;refine (Vk (n:=n)).1 ?_;refine V6 func202 rfl trivial ?_ rfl;simp only [ntmps202,UF,Uv,UQ,YF,YG,Va,Vb,Vc,Vd,Uk,UL];have q7:(((w.alloc (Z4 (aV C) 326)).alloc (Z4 #[Z7 Z9 0,Z5 ZY 0 0] 187)).alloc (Z4 #[Z7 Z9 (1+((ab gone).length:Int)),Z5 ZY 0 0] 187)).heap.size=w.heap.size+3:=by simp
 have kz:WI w C (1+((ab gone).length:Int)) [] (((w.alloc (Z4 (aV C) 326)).alloc (Z4 #[Z7 Z9 0,Z5 ZY 0 0] 187)).alloc (Z4 #[Z7 Z9 (1+((ab gone).length:Int)),Z5 ZY 0 0] 187)):=by
  obtain ⟨a1,a2,a3,a4⟩:=Ka w (Z4 (aV C) 326) (Z4 #[Z7 Z9 0,Z5 ZY 0 0] 187) (Z4 #[Z7 Z9 (1+((ab gone).length:Int)),Z5 ZY 0 0] 187);refine ⟨(aD.new w C).keep (by rw [VY _ _ _ (by simp;omega),VY _ _ _ (by simp)]),a3,⟨by omega,by omega,_,a4,UK _ _ _ _⟩,((bA w _).alloc (by simp) _).alloc (by simp;omega) _⟩
 have M:=al q7;have i:=al kz;clear q7 kz;gi_wp2;refine cV (AN gone hg _) ?_;rintro e w' ⟨rfl,E⟩;gi_wp2;obtain ⟨l,ko⟩:=nM ((((w.alloc (Z4 (aV C) 326)).alloc (Z4 #[Z7 Z9 0,Z5 ZY 0 0] 187)).alloc (Z4 #[Z7 Z9 (1+((ab gone).length:Int)),Z5 ZY 0 0] 187)));rw [ko] at M i;rw [ko];clear ko E w';refine cV (dC kept l) ?_;rintro e w' ⟨rfl,rfl⟩;have q8:(l.alloc (Z4 #[Z7 Z8 (kept:Int)] 131)).heap.size=l.heap.size+1:=by simp
 have kv:(l.alloc (Z4 #[Z7 Z8 (kept:Int)] 131)).cell? ⟨l.heap.size,0,ZY⟩=ZX (Z7 Z8 (kept:Int)):=(Bx.new l 131 (Z7 Z8 (kept:Int))).cell;have q0:WI w C (1+((ab gone).length:Int)) [] (l.alloc (Z4 #[Z7 Z8 (kept:Int)] 131)):=i.out.own (B:=l.heap.size) (row:=ZY) (by have:=M.out;omega) (abd _ _ _) (λr e=>by cases e);obtain ⟨w4,q5⟩:=nM (l.alloc (Z4 #[Z7 Z8 (kept:Int)] 131));have O:=al q8;have kb:=al kv;have k7:=al q0;clear q8 kv q0 i;gi_wp2;rw [q5] at O kb k7;clear q5;refine V7 rfl (by have:=HN.out;omega) (gf:=155) (lb:=#[Z6 (ZX ⟨l.heap.size,0,ZY⟩)]) rfl trivial (Vl func155 (by kernel_rfl) rfl)
  (eI (n-1) l.heap.size kept hk w4 (by have:=O.out;omega) kb.out (by have:=O.out;have:=M.out;omega) (V.mono (by omega) k7.out.below)) (λh k=>qG h k) (qH (by have:=O.out;have:=M.out;omega)) (TY _ _) (λ_=>rfl)
  (λpre X=>WI w C (1+((ab gone).length:Int)) (Ii C pre) X/\w4.heap.size<=X.heap.size) (λ_ _ _=>False)
  (λpre X Y row G T hr=>⟨G.1.own (by have:=O.out;have:=M.out;omega) T hr,TW G.2 T.size⟩) (λc pre X Y row G _ _=>G.elim) ⟨k7.out,TV _⟩
  (λx=>{ tmps:=#[.agg (aV C),Z7 Z8 (gone:Int),Z7 Z8 (kept:Int),Z6 (ZX ⟨w.heap.size,0,ZY⟩),ZZ,ZZ,Z6 (ZX ⟨w.heap.size+1,0,ZY⟩),Z6 (ZX ⟨w.heap.size+1+1,0,ZY⟩),Z7 Z9 (x.1:Int),ZZ,ZZ,ZZ,ZZ,Z7 Z8 (gone:Int),Z7 Z9 ((ab gone).length:Int),Z7 Z9 (1+((ab gone).length:Int)),.agg #[Z7 Z9 (1+((ab gone).length:Int)),Z5 ZY 0 0],Z7 Z8 (kept:Int),.func (.func 155) #[] #[Z6 (ZX ⟨l.heap.size,0,ZY⟩)],Z7 Z9 (x.1:Int),ZZ,ZZ,ZZ,ZZ,ZZ,ZZ,ZZ,ZZ,ZZ,ZZ,ZZ,ZZ,ZZ,ZZ,ZZ,ZZ,ZZ,ZZ,ZZ,ZZ,ZZ,ZZ,ZZ,ZZ,ZZ,ZZ,ZZ,ZZ,ZZ,ZZ,ZZ,ZZ,ZZ,ZZ,ZZ,ZZ,ZZ,ZZ,ZZ,ZZ,ZZ,ZZ,ZZ,ZZ,ZZ,ZZ,ZZ],defers:=[] }) ?assign ?body ?done ?stop
 case assign=>
  intro l2 x X Kk hK;unfold qF;gi_wp2;exact hK
 case body=>
  rintro l2 pre x X ⟨a,W⟩ Q;have q4:=wP w.heap.size x.1 C X a.ck F x.2;obtain ⟨_,_,v,f,b⟩:=a.pb;have J:w.heap.size+3<=X.heap.size:=a.pb.2.1;obtain ⟨c0,c1,N,_⟩:=aw f;have kp:=x.2;have hL:=λk hk=>NL C F pre kept Q x.1 k hk;have HH:=al a;have P:=al f;have s:=al b;have HL:=al hL;have HX:=al W;have R:=al J;clear a f b hL W Q J;gi_wp2;refine ef q4 ?_;clear q4;rintro e w' ⟨rfl,E⟩;subst E;cases ka:cF C x.1 with
  | false=>
   have HE:=al (Qi (pre:=pre) ka);clear ka;gi_wp2;refine ⟨XW _ _,Fv.refl _,?_,HX.out⟩;rw [<- HE.out];exact HH.out
  | true=>
   have HE:=al (NO (pre:=pre) ka);clear ka;gi_wp2_with (
    refine zx rfl (Z1 24) (Z1 27) rfl (w.heap.size+3) w'.heap.size (Ii C pre) ⟨0,0,(x.1:Int),0⟩ v rfl rfl (s.out.alloc _) (Ce w' ⟨0,0,(x.1:Int),0⟩) (by have:=R.out;simp;omega) (by have:=(HL.out 0 (T9 _)).1;omega) ?_;
    rintro g' cap' w2 S H I;
    obtain ⟨c1,N,z⟩:=HH.out.next P.out s.out I S H;
    have ct:=z.1.told;
    have o:=al z;
    clear z I H)
   rw [<- Lo] at o;gi_loopw [32] (λp wr=>∃ k:Nat,p=Z7 Z9 (k:Int)/\k<=C.told/\WI w C (1+((ab gone).length:Int)) (FQ C pre x.1 k) wr/\KeepsOthers w' wr) (λp _=>C.told-(intOf p).toNat)
   case atStart=>exact ⟨0,rfl,T9 _,o.out.1,o.out.2⟩
   case round=>
    obtain ⟨k,rfl,qd,a,y⟩:=hrel;have qj:=F.le;have qk:=F.Sg;by_cases qs:k<C.told
    . have cm:=a.ck.at k x.1 (by omega) kp;have kj:(k:Int)<C.told:=(by omega);have qo:(k:Int)<8:=(by omega);have qx:(x.1:Int)<16:=(by omega);by_cases h0:C.m k x.1=0
      . rw [h0] at cm;have i:=al a;have t:=al y;clear a y;gi_wp2;go_roundw
        case rel=>exact ⟨k+1,by go_num,by omega,by rw [NM pre h0];exact i.out,t.out⟩
        case measure=>simp [intOf];omega
      . have qv:((C.m k x.1:Nat):Int)≠0:=(by omega);obtain ⟨_,_,v,f,b⟩:=a.pb;have J:w.heap.size+3<=wr.heap.size:=a.pb.2.1;obtain ⟨c0,c1,N,_⟩:=aw f;have qn:=(HL.out k qd).2;have i:=al a;have t:=al y;have P:=al f;have s:=al b;have R:=al J;clear a y f b J;gi_wp2_with (
         refine zx rfl (Z1 44) (Z1 49) rfl (w.heap.size+3) wr.heap.size (FQ C pre x.1 k) ⟨1,1+(k:Int),0,C.m k x.1⟩ v rfl rfl (s.out.alloc _) (Ce wr ⟨1,1+(k:Int),0,C.m k x.1⟩) (by have:=R.out;simp;omega) (by omega) ?_;
         rintro g' cap' w2 S H I;
         obtain ⟨c1,N,z⟩:=i.out.next P.out s.out I S H;
         have o:=al z;
         clear z I H)
        go_roundw
        case rel=>exact ⟨k+1,by go_num,by omega,by rw [Qh pre h0];exact o.out.1,t.out.trans o.out.2⟩
        case measure=>simp [intOf];omega
    . have kj:¬ (k:Int)<C.told:=(by omega);obtain rfl:k=C.told:=(by omega);have i:=al a;have t:=al y;clear a y;gi_wp2;refine ⟨t.out.from _,λ_=>V.mono (by omega) i.out.below,?_,TW HX.out t.out.size⟩;rw [<- HE.out];exact i.out
 case done=>
  rintro D xs X hD q6 ⟨a,W⟩ hK;rw [NP q6] at a;have qp:w.heap.size+3<=D:=by have:=O.out;have:=M.out;omega
  have qc:D<X.heap.size:=(TX.1 hK).1;clear q6 xs kb k7 W;have i:=al a;have t:=al hK;clear a hK;gi_wp2;refine cV (dC gone _) ?_;rintro e w' ⟨rfl,E⟩;have q9:w'.heap.size=X.heap.size+1+1:=by rw [E];simp
  have kx:w'.cell? ⟨X.heap.size+1,0,ZY⟩=ZX (Z7 Z8 (gone:Int)):=by
   have:=(Bx.new (X.alloc (Z4 #[Z7 Z9 0] 3)) 131 (Z7 Z8 (gone:Int))).cell;rw [Uq] at this;rw [E];exact this
  have kg:X.grownBy w' ZY:=by rw [E];exact AX (abd X _ ZY) _
  have q3:WP w C (1+((ab gone).length:Int)) kept X.heap.size D [] w':=by
   refine ⟨by rw [NQ];exact i.out.own (B:=w.heap.size+3) lR kg (λr e=>by cases e),?_,(kg.block D qc (λe=>by cases e)).trans t.out⟩;rw [E];exact (UA X 3 (Z7 Z9 0)).alloc _
  have u:=al q9;have qa:=al kx;have kr:=al q3;clear q9 kx q3 kg E i t;gi_wp2;refine V7 rfl (by have:=HN.out;omega) (gf:=155) (lb:=#[Z6 (ZX ⟨X.heap.size+1,0,ZY⟩)]) rfl trivial (Vl func155 (by kernel_rfl) rfl)
   (eI (n-1) (X.heap.size+1) gone hg w' (by have:=u.out;omega) qa.out (by have:=u.out;omega) (V.mono (by omega) kr.out.wi.below)) (λh k=>qG h k) (qH (by have:=u.out;omega)) (TY _ _) (λ_=>rfl)
   (λpre Y=>WP w C (1+((ab gone).length:Int)) kept X.heap.size D pre Y/\w'.heap.size<=Y.heap.size) (λ_ _ _=>False)
   (λpre A Y row G T hr=>⟨G.1.own (B:=w'.heap.size) (by have:=u.out;omega) (by have:=u.out;omega) (by have:=u.out;omega) T hr,TW G.2 T.size⟩) (λc pre X Y row G _ _=>G.elim) ⟨kr.out,TV _⟩
   (λx=>{ tmps:=#[.agg (aV C),Z7 Z8 (gone:Int),Z7 Z8 (kept:Int),Z6 (ZX ⟨w.heap.size,0,ZY⟩),ZZ,ZZ,Z6 (ZX ⟨w.heap.size+1,0,ZY⟩),Z6 (ZX ⟨w.heap.size+1+1,0,ZY⟩),ZZ,ZZ,ZZ,Z6 (ZX ⟨X.heap.size,0,ZY⟩),Z7 Z9 (x.1:Int),Z7 Z8 (gone:Int),Z7 Z9 ((ab gone).length:Int),Z7 Z9 (1+((ab gone).length:Int)),.agg #[Z7 Z9 (1+((ab gone).length:Int)),Z5 ZY 0 0],Z7 Z8 (kept:Int),.func (.func 155) #[] #[Z6 (ZX ⟨l.heap.size,0,ZY⟩)],ZZ,ZZ,ZZ,ZZ,ZZ,ZZ,ZZ,ZZ,ZZ,ZZ,ZZ,ZZ,ZZ,ZZ,ZZ,ZZ,ZZ,ZZ,ZZ,ZZ,ZZ,ZZ,ZZ,ZZ,ZZ,ZZ,ZZ,ZZ,ZZ,ZZ,ZZ,ZZ,ZZ,ZZ,Z7 Z8 (gone:Int),.func (.func 155) #[] #[Z6 (ZX ⟨X.heap.size+1,0,ZY⟩)],Z7 Z9 (x.1:Int),ZZ,ZZ,ZZ,ZZ,ZZ,ZZ,ZZ,ZZ,ZZ,ZZ,ZZ],defers:=[] }) ?assign2 ?body2 ?done2 ?stop2
  case assign2=>
   intro l2 x Y Kk hK;unfold qF;gi_wp2;exact hK
  case body2=>
   rintro l2 pre x Y ⟨q,hY⟩ Q;have qq:=Qj C F kept pre gone Q;have qg:pre.length<16:=(by omega);have ke:w.heap.size+3<=X.heap.size:=(by omega);have hs:=q.wi.set (u':=Z7 Z9 ((pre.length:Int)+1)) ke q.box;obtain ⟨_,_,v,f,b⟩:=hs.pb;have J:w.heap.size+3<=(Y.setCell ⟨X.heap.size,0,ZY⟩ (Z7 Z9 ((pre.length:Int)+1))).heap.size:=hs.pb.2.1;obtain ⟨c0,c1,N,_⟩:=aw f;have cb:=q.box.cell;have fb:=q.box.frozen;have hb:=(q.box.set (Z7 Z9 ((pre.length:Int)+1))).cell;have HP:=al q;have P:=al f;have s:=al b;have R:=al J;have HY:=al hY;have qb:=al ke;clear q f b J hY hs Q ke;gi_wp2_with (
    refine zx rfl (Z1 59) (Z1 63) rfl (w.heap.size+3) Y.heap.size (xA C kept pre) ⟨2,(pre.length:Int)+1,(x.1:Int),0⟩ v rfl rfl (s.out.alloc _) (Ij _ Y.heap.size (by simp) ⟨2,(pre.length:Int)+1,(x.1:Int),0⟩) (by have:=R.out;simp at this ⊢;omega) (by omega) ?_;
    rintro g' cap' w2 S H I;
    obtain ⟨c1,N,z⟩:=HP.out.next qb.out P.out s.out I S H;
    have o:=al z;
    clear z I H)
   refine ⟨o.out.2.from _,λ_=>V.mono (by omega) o.out.1.wi.below,o.out.1,TW HY.out o.out.2.size⟩
  case done2=>
   rintro L ys Y qm qi ⟨q,hY⟩ k8;have K:=q.wi;rw [NR qi] at K;have hm:=q.mark;obtain ⟨_,_,v,f,b⟩:=K.pb;obtain ⟨c0,c1,N,f0⟩:=aw f;obtain ⟨r0,r1,g1,g0⟩:=aw K.res;obtain ⟨ao,m,j,rfl⟩:∃ ao m j,v=.slice ao m j:=by
    rcases b.2 with ⟨rfl,_⟩|⟨g,cap,cur,rfl,_⟩
    . exact ⟨_,_,_,rfl⟩
    . exact ⟨_,_,_,rfl⟩
   have s:=a5 K hm b k8;clear K hm b k8 q hY f;gi_wp2;obtain ⟨K,hm,b,k8⟩:=s.out;have k6:((Y.setCell ⟨w.heap.size+1,0,ZY⟩ (Z7 Z9 (1+((ab gone).length:Int)))).setCell ⟨w.heap.size+1,1,ZY⟩ (.slice ao m j)).heap[w.heap.size+1]?=ZX (Z4 #[Z7 Z9 (1+((ab gone).length:Int)),.slice ao m j] 187 (0,0)):=
    iR (iQ K.res)
   have y:=(VS Y ⟨w.heap.size+1,0,ZY⟩ (Z7 Z9 (1+((ab gone).length:Int)))).trans (VS _ ⟨w.heap.size+1,1,ZY⟩ (.slice ao m j));have ks:bW w ((Y.setCell ⟨w.heap.size+1,0,ZY⟩ (Z7 Z9 (1+((ab gone).length:Int)))).setCell ⟨w.heap.size+1,1,ZY⟩ (.slice ao m j)):=(K.below.setCell (p:=⟨w.heap.size+1,0,ZY⟩) (Yu _) _).setCell (p:=⟨w.heap.size+1,1,ZY⟩) (Yu _) _;have hv:((Y.setCell ⟨w.heap.size+1,0,ZY⟩ (Z7 Z9 (1+((ab gone).length:Int)))).setCell ⟨w.heap.size+1,1,ZY⟩ (.slice ao m j)).ownsRow (w.heap.size+3) 292 4 (.slice ao m j) (fM C gone kept).length (eh .u8 (fM C gone kept)):=
    (b.kept (dk Y (w.heap.size+1) 0 _) (.inr λe=>by have:=jM b e;omega)).kept (dk _ (w.heap.size+1) 1 _) (.inr λe=>by have:=jM b e;omega)
   have k9:=y.same L _ k8 rfl;have kf:=y.same D _ hm rfl;have kc:D≠L:=(by have:=u.out;omega);have q1:=(TX.1 k9).1;have qe:=(TX.1 kf).1;have kk:L≠w.heap.size+1:=(by have:=u.out;omega);generalize ((Y.setCell ⟨w.heap.size+1,0,ZY⟩ (Z7 Z9 (1+((ab gone).length:Int)))).setCell ⟨w.heap.size+1,1,ZY⟩ (.slice ao m j))=Z at k6 ks hv k9 kf q1 qe ⊢;have hq:(Z.putObj L (.deferred ZY)).heap[D]?=ZX (.deferred (ZX [])):=(UV kc).trans kf;refine ⟨by simp,.inl ⟨_,_,rfl,Wt k9,by simp,.inl ⟨_,_,rfl,Wt hq,?_⟩⟩⟩;have qh:((Z.putObj L (.deferred ZY)).putObj D (.deferred ZY)).heap[w.heap.size+1]?=ZX (Z4 #[Z7 Z9 (1+((ab gone).length:Int)),.slice ao m j] 187 (0,0)):=((UV (by omega)).trans (UV (V1 kk))).trans k6;have kh:=WW Z L (.deferred ZY);have ki:=WW (Z.putObj L (.deferred ZY)) D (.deferred ZY);have q2:∀ (U:ZU) (d:Nat),U.heap[d]?=ZX (.deferred (ZX []))->U.ownsRow (w.heap.size+3) 292 4 (.slice ao m j) (fM C gone kept).length (eh .u8 (fM C gone kept))->(Value.slice ao m j).ownBlock≠ZX d:=by
    intro U d hd hU e;rcases hU.2 with ⟨e1,_⟩|⟨g,cap,cur,e1,_,ky,_⟩
    . cases e1;cases e
    . cases e1;obtain rfl:g=d:=(by simpa [Value.ownBlock] using e);rw [hd] at ky;cases ky
   have k5:=hv.kept kh (.inr (q2 _ _ k9 hv));have km:=k5.kept ki (.inr (q2 _ _ hq k5));exact ⟨_,VQ results202 _ _ (w.heap.size+1) 187 #[Z7 Z9 (1+((ab gone).length:Int)),.slice ao m j] (0,0) _ rfl qh underlying187 rfl Ik,_,rfl,Below.RV (Below.RV ks (by have:=u.out;omega) q1 _) (by omega) (TX.1 hq).1 _,fZ km (by omega)⟩
  case stop2=>
   rintro D c pre X _ _ F;exact F.elim
 case stop=>
  rintro D c pre X _ _ F;exact F.elim
end
structure CI (w:ZU) (D L G:Int) (X:ZU):Prop where
 par:X.heap[w.heap.size]?=ZX (Z4 #[Z7 Z9 D,Z7 Z9 L,Z7 Z9 G] 26 (0,0))
 res:X.heap[w.heap.size+1]?=ZX (Z4 #[Z7 Z9 0,Z5 ZY 0 0] 187 (0,0))
 below:bW w X
def CI.mono {D L G:Int} (h:CI w D L G X) (a:ZS B X Y) (b:w.heap.size+2<=B):CI w D L G Y:=
 ⟨(a.block _ (by omega)).trans h.par,(a.block _ (by omega)).trans h.res,h.below.trans (a.mono (by omega))⟩
def CI.new (w:ZU) (D L G:Int):CI w D L G ((w.alloc (Z4 #[Z7 Z9 D,Z7 Z9 L,Z7 Z9 G] 26)).alloc (Z4 #[Z7 Z9 0,Z5 ZY 0 0] 187)):=by
 refine ⟨?_,?_,(bA w _).alloc (by simp) _⟩
 . rw [VY _ _ _ (by simp)];exact XI _ _
 . have:=XI (w.alloc (Z4 #[Z7 Z9 D,Z7 Z9 L,Z7 Z9 G] 26)) (Z4 #[Z7 Z9 0,Z5 ZY 0 0] 187);rwa [Uq] at this
def Qk (n:Nat):Nat:=2^n-1
def Lr (lost n:Nat) (hl:lost<18446744073709551616) (hn:n<=16):bits .and .u64 (lost:Int) (Qk n:Int)=((aC n lost:Nat):Int):=by
 have:=mZ hn;have:0<2^n:=VP n;exact gk lost (2^n-1) hl (by omega)
def Ls (lost n:Nat) (hn:n<=16):bits .andNot .u64 (Qk n:Int) ((aC n lost:Nat):Int)=((bz n lost:Nat):Int):=by
 have:=mZ hn;have:=oD lost hn;exact u64_andNot_nat (2^n-1) (aC n lost) (by omega) (by omega)
def Ql (D L G lost:Nat) (w:ZU) (e:ZQ) (w':ZU):Prop:=
 bW w w'/\((tells (ll D L G) (ab (aC (D+L+G) lost))=ZY/\e=Z3 (Z0 #[.agg #[Z7 Z9 0,Z5 ZY 0 0],.iface 58 (Z7 Z9 3)])) \/
  (∃ C v,tells (ll D L G) (ab (aC (D+L+G) lost))=ZX C/\e=Z3 (Z0 #[.agg #[Z7 Z9 (1+((ab (aC (D+L+G) lost)).length:Int)),v],.nilIface]) /\
   w'.ownsRow w.heap.size 292 4 v (fM (aP 8 C (bz (D+L+G) lost)).1 (aC (D+L+G) lost) (bz (D+L+G) lost)).length (eh .u8 (fM (aP 8 C (bz (D+L+G) lost)).1 (aC (D+L+G) lost) (bz (D+L+G) lost)))))
def Lt (k:Nat) (a:k<=16) (b:z=(k:Int)) (w:ZU) :
 ZR ZO 114 #[Z7 Z9 z] w λe w'=>e=Z3 (Z7 Z8 (Qk k:Int))/\w'=w:=by subst b;exact mn k a w
theorem vH (D L G lost:Nat) (hr:eF D L G=ZW) (kc:1<=D) (hD:D<=12) (hL:1<=L) (T:L<=4) (hG:G<=4) (hv:D%L=0) (c:D+L+G<=16) (hl:lost<18446744073709551616) (w:ZU) (B:aG w) (h2:3<=w.heap.size) :
 ZR ZO 191 #[.agg #[Z7 Z9 D,Z7 Z9 L,Z7 Z9 G],Z7 Z8 lost] w λe w'=>Ql D L G lost w e w':=by
 have h:=CI.new w D L G;have j:((w.alloc (Z4 #[Z7 Z9 (D:Int),Z7 Z9 (L:Int),Z7 Z9 (G:Int)] 26)).alloc (Z4 #[Z7 Z9 0,Z5 ZY 0 0] 187)).heap.size=w.heap.size+2:=by simp
 obtain ⟨p0,p1,p2⟩:=eX h.par;have J:=au h j;clear h j;go_enter func191,ntmps191;go_wp2_with fail;refine (pC D L G _).mono ?_;rintro e w1 ⟨rfl,o⟩;obtain ⟨h,j⟩:=J.out;try change ZS _ _ _ at o
 rw [j] at o;have ke:=o.size;try change ZS _ _ _ at ke
 rw [j] at ke;have z:=h.mono o lR;obtain ⟨p0,p1,p2⟩:=eX z.par;have K:=al z;clear J h j o z;go_wp2_with fail;refine (dE D L G _ (by omega) (by omega) (by omega)).mono ?_;rintro e w2 ⟨rfl,E⟩;have ki:=E.size;have A:=K.out.mono E (by omega);obtain ⟨p0,p1,p2⟩:=eX A.par;have q:=al A;clear A E K;go_wp2_with fail;refine (Lt (D+L+G) c (by omega) w2).mono ?_;rintro e I ⟨rfl,hy⟩;subst hy;have kg:=Lr lost (D+L+G) hl c;go_wp2_with fail;refine (lf D L G (aC (D+L+G) lost) hr kc hD hL T hG hv c (oD lost c) I (B.mono (by omega) q.out.below) (by omega)).mono ?_;rintro e a ⟨u,hg⟩;have kj:=u.size;have s:=q.out.mono u (by omega);have hz:=zeroCk;rcases hg with ⟨x,rfl⟩|⟨C,t,rfl⟩
 . have R:=b8 dJ;have n:bW a ((a.alloc (Z4 (aV dJ) 326)).setRow a.heap.size (aV dJ)):=(bA _ _).grown (aN _ _ _) (by simp) (λk e=>by cases e;exact TV _);have d:=s.mono n (by omega);obtain ⟨r0,r1,g1,g0⟩:=aw d.res;have b:=au d x;clear s d u n q x;go_wp2_with (refine Wi rfl 326 (Z1 8) (Z1 25) rfl a.heap.size (aV dJ) rfl rfl 326 (aV dJ) (aD.new a dJ).heap (dQ _) rfl (mw _) ?_);obtain ⟨Q,x⟩:=b.out;have y:=iR (y':=Z5 ZY 0 0) (iQ (x':=Z7 Z9 0) Q.res);obtain ⟨n0,H,_⟩:=aw y;refine Um (v:=Z0 #[.agg #[Z7 Z9 0,Z5 ZY 0 0],.iface 58 (Z7 Z9 3)]) (by simp [results,results191,go_sem,n0,H]) rfl ?_;exact ⟨(Q.below.setCell (p:=⟨w.heap.size+1,0,ZY⟩) (by show w.heap.size<=w.heap.size+1;omega) _).setCell (p:=⟨w.heap.size+1,1,ZY⟩) (by show w.heap.size<=w.heap.size+1;omega) _,.inl ⟨x,rfl⟩⟩
 . have r:=(oG hD hG t).1;have P:=zw hD T hG t;have N:ep (aP 8 C (bz (D+L+G) lost)).1:=⟨r.byt,r.le,by have:=r.Sg;omega⟩;have kh:=Ls lost (D+L+G) c;have R:=b8 C;have n:bW a ((a.alloc (Z4 (aV dJ) 326)).setRow a.heap.size (aV C)):=(bA _ _).grown (aN _ _ _) (by simp) (λk e=>by cases e;exact TV _);have W:aD ((a.alloc (Z4 (aV dJ) 326)).setRow a.heap.size (aV C)) a.heap.size C:=(aD.new a dJ).setRow C;have d:=s.mono n (by omega);have Z:((a.alloc (Z4 (aV dJ) 326)).setRow a.heap.size (aV C)).heap.size=a.heap.size+1:=(by simp [World.setRow]);have U:=B.mono (by omega) d.below;have b:=a6 d W Z U t;have M:=au P N;clear s d u n W Z U q t r P N;go_wp2_with (first
    | refine Wi rfl 326 (Z1 8) (Z1 25) rfl a.heap.size (aV C) rfl rfl 326 (aV dJ) (aD.new a dJ).heap (dQ _) (by rw [b8,b8]) (mw _) ?_
    | refine Yg rfl 326 (Z1 8) rfl a.heap.size rfl 326 (aV C) (0,0) _ b.out.2.1.heap Xn rfl (dQ _) ?_)
   obtain ⟨w5,Y⟩:=nM ((a.alloc (Z4 (aV dJ) 326)).setRow a.heap.size (aV C));rw [Y] at b ⊢;clear Y R hz;refine (Ee C (bz (D+L+G) lost) w5 M.out.1 (BW lost c) b.out.2.2.2.1 (by have:=b.out.2.2.1;omega)).mono ?_;rintro e w7 ⟨rfl,F⟩;have kk:=F.size;have X:=b.out.1.mono F (by have:=b.out.2.2.1;omega);have kf:a.heap.size+1<=w7.heap.size:=(by have:=b.out.2.2.1;omega);have S:=al X;clear X F;go_wp2_with fail;refine (Il (aP 8 C (bz (D+L+G) lost)).1 (aC (D+L+G) lost) (bz (D+L+G) lost) w7 M.out.2 (oD lost c) (BW lost c) (B.mono (by omega) S.out.below) (by omega)).mono ?_;rintro e w8 ⟨v,rfl,V,l⟩;obtain ⟨ao,m,f,rfl⟩:∃ ao m f,v=.slice ao m f:=by
    rcases l.2 with ⟨rfl,_⟩|⟨g,cap,cur,rfl,_⟩
    . exact ⟨_,_,_,rfl⟩
    . exact ⟨_,_,_,rfl⟩
   have i:=S.out.mono V (by omega);obtain ⟨r0,r1,g1,g0⟩:=aw i.res;have H8:=au i l;clear i l V;go_wp2;obtain ⟨i,l⟩:=H8.out;have y:=iR (y':=.slice ao m f) (iQ (x':=Z7 Z9 (1+((ab (aC (D+L+G) lost)).length:Int))) i.res);obtain ⟨n0,H,_⟩:=aw y;have O:(Value.slice ao m f).ownBlock≠ZX (w.heap.size+1):=λe=>by have:=jM l e;omega
   have hx:=(l.kept (dk w8 (w.heap.size+1) 0 (Z7 Z9 (1+((ab (aC (D+L+G) lost)).length:Int)))) (.inr O)).kept (dk _ (w.heap.size+1) 1 (.slice ao m f)) (.inr O);refine Um (v:=Z0 #[.agg #[Z7 Z9 (1+((ab (aC (D+L+G) lost)).length:Int)),.slice ao m f],.nilIface]) (by simp [results,results191,go_sem,n0,H]) rfl ?_;exact ⟨(i.below.setCell (p:=⟨w.heap.size+1,0,ZY⟩) (by show w.heap.size<=w.heap.size+1;omega) _).setCell (p:=⟨w.heap.size+1,1,ZY⟩) (by show w.heap.size<=w.heap.size+1;omega) _,.inr ⟨C,_,b.out.2.2.2.2,rfl,fZ hx (by omega)⟩⟩
section
theorem En (s i:Nat) (g:s<65536) (f:i<16) (w:ZU):ZR ZO 200 #[Z7 Z8 s,Z7 Z9 i] w λe w'=>e=Z3 (Z2 (s.testBit i))/\w'=w:=by
 have key:(bits .and .u64 ((s:Int)/2^i) 1==1)=s.testBit i:=by
  have e:((s:Int)/2^i)=((s/2^i:Nat):Int):=by rw [Ye,XH];rfl
  have d:s/2^i<=s:=V2 _ _;have b:=gk (s/2^i) 1 (by omega) (by decide);rw [e,show ((1:Int))=((1:Nat):Int) from rfl,b,Nat.and_one_is_mod,XG];by_cases c:s/2^i%2=1
  . rw [c];rfl
  . have a:s/2^i%2=0:=(by omega);rw [a];rfl
 go_enter func200,ntmps200;go_wp2;go_ret;exact ⟨by rw [<- key];rfl,rfl⟩
def NS {e:Nat} {xs:List ZT} (b:w.ownsRow base e s v n xs):∃ ao m a,v=.slice ao m a:=by
 rcases b.2 with ⟨rfl,_⟩|⟨g,cap,cur,rfl,_⟩
 . exact ⟨_,_,_,rfl⟩
 . exact ⟨_,_,_,rfl⟩
def tU:ZQ:=Z3 (Z0 #[.agg #[Z7 Z9 0,Z5 ZY 0 0],.iface 58 (Z7 Z9 3)])
def GrA (D L G lost:Nat) (w w':ZU) (z:Int) (ao:Option Addr) (m c:Nat) (er:ZT):Prop:=bW w w'/\((er=.iface 58 (Z7 Z9 3)/\z=0/\ao=ZY/\m=0/\c=0)\/(er=.nilIface/\∃ s C,(∀ i,lost.testBit i=ZW->s.testBit i=ZW)/\tells (ll D L G) (ab (aC (D+L+G) s))=ZX C/\z=1+((ab (aC (D+L+G) s)).length:Int)/\w'.ownsRow w.heap.size 292 4 (.slice ao m c) (b9 D L G s C).length (eh .u8 (b9 D L G s C))))
def Qm (D L G lost:Nat) (w:ZU) (e:ZQ) (w':ZU):Prop:=∃ z ao m c er,e=Z3 (Z0 #[.agg #[Z7 Z9 z,.slice ao m c],er])/\GrA D L G lost w w' z ao m c er
def Qm.no (h:bW w w'):Qm D L G lost w tU w':=⟨0,ZY,0,0,_,rfl,h,.inl ⟨rfl,rfl,rfl,rfl,rfl⟩⟩
def RE (w:ZU) (D L G lost cb:Nat) (lv iv:ZT) (wr:ZU):Prop:=
 ∃ (k s:Nat) (C:Ck),k<=D+L+G/\lv=Z7 Z8 (s:Nat)/\iv=Z7 Z9 ((D+L+G:Nat)-1-(k:Int))/\aD wr cb C/\(∃ K,tells (ll D L G) K=ZX C)/\(∀ i,lost.testBit i=ZW->s.testBit i=ZW)/\s<2^(D+L+G)/\CI w D L G wr/\cb<wr.heap.size/\w.heap.size+2<=cb
section
variable (D L G lost:Nat) (hr:eF D L G=ZW) (hD1:1<=D) (hD:D<=12) (hL:1<=L) (hL4:L<=4) (hG:G<=4) (hdiv:D%L=0) (h16:D+L+G<=16) (hl:lost<2^(D+L+G))
include hr hD1 hD hL hL4 hG hdiv h16 hl
def qT (w:ZU) (j:aG w) (g:3<=w.heap.size):ZR ZO 191 #[.agg #[Z7 Z9 D,Z7 Z9 L,Z7 Z9 G],Z7 Z8 lost] w (Qm D L G lost w):=by
 have:lost<65536:=TZ hl (mZ h16);refine (vH D L G lost hr hD1 hD hL hL4 hG hdiv h16 (by omega) w j g).mono ?_;rintro e w1 ⟨a,f⟩;rcases f with ⟨l,rfl⟩|⟨c,v,h,rfl,b⟩
 . exact Qm.no a
 . obtain ⟨ao,m,d,rfl⟩:=NS b;exact ⟨_,ao,m,d,_,rfl,a,.inr ⟨rfl,lost,c,λi q=>q,h,rfl,b⟩⟩
theorem Cf (w:ZU) (hT:aG w) (b:3<=w.heap.size):ZR ZO 190 #[.agg #[Z7 Z9 D,Z7 Z9 L,Z7 Z9 G],Z7 Z8 lost] w (Qm D L G lost w):=by
 have ks:lost<65536:=TZ hl (mZ h16);have g:=CI.new w D L G;have o:((w.alloc (Z4 #[Z7 Z9 (D:Int),Z7 Z9 (L:Int),Z7 Z9 (G:Int)] 26)).alloc (Z4 #[Z7 Z9 0,Z5 ZY 0 0] 187)).heap.size=w.heap.size+2:=by simp
 obtain ⟨Q,R,S⟩:=eX g.par;have ki:=lf D L G lost hr hD1 hD hL hL4 hG hdiv h16 ks _ (hT.mono (by omega) g.below) (TW b g.below.size);have T:=aE g o ki;clear g o ki;go_enter func190,ntmps190;go_wp2_with fail;refine T.out.2.2.mono ?_;rintro e w1 ⟨y,hy⟩;obtain ⟨g,o,_⟩:=T.out;try change ZS _ _ _ at y
 rw [o] at y;have r:=y.size;try change ZS _ _ _ at r
 rw [o] at r;have V:=g.mono y lR;have hz:=zeroCk;have Y:∀ C,bW w1 ((w1.alloc (Z4 (aV dJ) 326)).setRow w1.heap.size (aV C)):=λC=>(bA _ _).grown (aN _ _ _) (by simp) (λk e=>by cases e;exact TV _);rcases hy with ⟨q7,rfl⟩|⟨C,J,rfl⟩
 . have f:=V.mono (Y dJ) r;obtain ⟨r0,r1,g1,g0⟩:=aw f.res;have t:=al f;clear T g o y V Y f;go_wp2_with (refine Wi rfl 326 (Z1 6) (Z1 13) rfl w1.heap.size (aV dJ) rfl rfl 326 (aV dJ) (aD.new w1 dJ).heap (dQ _) rfl (mw _) ?_);obtain ⟨n0,n1,_⟩:=aw (iR (y':=Z5 ZY 0 0) (iQ (x':=Z7 Z9 0) t.out.res));refine Um (v:=Z0 #[.agg #[Z7 Z9 0,Z5 ZY 0 0],.iface 58 (Z7 Z9 3)]) (by simp [results,results190,go_sem,n0,n1]) rfl (Qm.no ?_);exact (t.out.below.setCell (p:=⟨w.heap.size+1,0,ZY⟩) (by show w.heap.size<=w.heap.size+1;omega) _).setCell (p:=⟨w.heap.size+1,1,ZY⟩) (by show w.heap.size<=w.heap.size+1;omega) _
 have x:aD ((w1.alloc (Z4 (aV dJ) 326)).setRow w1.heap.size (aV C)) w1.heap.size C:=(aD.new w1 dJ).setRow C;have f:=V.mono (Y C) r;obtain ⟨Q,R,S⟩:=eX f.par;have t:=a5 x f r J;clear T g o y V Y x f J;go_wp2_with (refine Wi rfl 326 (Z1 6) (Z1 13) rfl w1.heap.size (aV C) rfl rfl 326 (aV dJ) (aD.new w1 dJ).heap (dQ _) rfl (mw _) ?_);obtain ⟨w5,ko⟩:=nM ((w1.alloc (Z4 (aV dJ) 326)).setRow w1.heap.size (aV C));rw [ko] at t Q R S ⊢;clear ko hz;refine (dE D L G _ (by omega) (by omega) (by omega)).mono ?_;rintro e w6 ⟨rfl,Z⟩;obtain ⟨x,f,r,J⟩:=t.out;have l:=(TX.1 x.heap).1;have he:RE w D L G lost w1.heap.size (Z7 Z8 (lost:Nat)) (Z7 Z9 ((D:Int)+L+G-1)) w6:=⟨0,lost,C,T9 _,rfl,by congr 1;omega,x.keep (Z.block _ l),⟨_,J⟩,λ_ q=>q,hl,f.mono Z (by omega),TZ l Z.size,r⟩;have kg:=al he;clear Q R S x f l Z he t J;go_wp2;go_loopw [1,8] (λlv iv wr=>RE w D L G lost w1.heap.size lv iv wr) (λ_ iv _=>(intOf iv+1).toNat)
 case atStart=>exact kg.out
 case round=>
  clear kg;rename ZU=>wo;obtain ⟨k,s,C1,hk,rfl,rfl,ka,⟨K,hK⟩,u,P,a,l,kh⟩:=hrel;have kx:s<65536:=TZ P (mZ h16);by_cases kk:k<D+L+G
  . obtain ⟨i,hi⟩:∃ i,i=D+L+G-1-k:=⟨_,rfl⟩;have N:((D+L+G:Nat):Int)-1-(k:Int)=(i:Int):=(by omega);rw [N];have ky:=tC w1.heap.size i C1 wo ka (zw hD hL4 hG hK) (by omega);have ke:i<16:=(by omega);have HN:=hide7 a ka l kh u P hK;have d:=aE hi kk N;clear a ka l kh N hi kk u P hK;go_wp2_with fail;refine (En s i kx ke wo).mono ?_;rintro e w2 ⟨rfl,kz⟩;subst kz;cases hb:s.testBit i with
    | true=>
     go_wp2;go_roundw
     case rel=>
      obtain ⟨b,U,A,B,E,F,I⟩:=HN.out;exact ⟨k+1,s,C1,by have:=d.out;omega,rfl,by have:=d.out;congr 1;omega,U,⟨K,I⟩,E,F,b,A,B⟩
     case measure=>have:=d.out;simp [intOf]<;>omega
    | false=>
     go_wp2_with fail;refine ky.mono ?_;rintro e w3 (⟨q6,rfl,q4⟩|⟨C',kb,rfl,X,n⟩)
     . subst q4;go_wp2;go_roundw
       case rel=>
        obtain ⟨b,U,A,B,E,F,I⟩:=HN.out;exact ⟨k+1,s,C1,by have:=d.out;omega,rfl,by have:=d.out;congr 1;omega,U,⟨K,I⟩,E,F,b,A,B⟩
       case measure=>have:=d.out;simp [intOf]<;>omega
     . have H3:=aE kb X n;clear kb X n;go_wp2_with fail;refine (gA s i (by omega) (by omega) w3).mono ?_;rintro e w4 ⟨rfl,q5⟩;subst q5;go_wp2;go_roundw
       case rel=>
        obtain ⟨b,U,A,B,E,F,I⟩:=HN.out;obtain ⟨kb,X,n⟩:=H3.out;have kv:=b.below.size;exact ⟨k+1,s|||2^i,C',by have:=d.out;omega,rfl,by have:=d.out;congr 1;omega,X,⟨K++[i],by rw [jW,I];exact kb⟩,λj q=>by rw [Wj,E j q];rfl,Wu F (V0 (by decide) (by have:=d.out;omega)),
         ⟨(n.block _ (by omega) (λe=>by have:=UI e;omega)).trans b.par,(n.block _ (by omega) (λe=>by have:=UI e;omega)).trans b.res,b.below.grown n kv (λq e=>by have:=UI e;omega)⟩,TZ A n.size,B⟩
       case measure=>have:=d.out;simp [intOf]<;>omega
  . have kr:k=D+L+G:=(by omega);subst kr;have N:((D+L+G:Nat):Int)-1-((D+L+G:Nat):Int)=-1:=(by omega);rw [N];have kj:=qT D L G s hr hD1 hD hL hL4 hG hdiv h16 P wo (hT.mono (by omega) a.below) (TW b a.below.size);obtain ⟨Q,R,S⟩:=eX a.par;have H:=aE u kj a;clear kj a ka l u hK P;go_wp2_with fail;refine H.out.2.1.mono ?_;rintro e w3 ⟨z,ao,m,c,er,rfl,M,W⟩;have a:=H.out.2.2;have kp:=(TX.1 a.res).1;have O:=(M.block _ kp).trans a.res;obtain ⟨r0,r1,g1,g0⟩:=aw O;have H3:=a5 W M O kp;clear W M O Q R S a;go_wp2;obtain ⟨W,M,O,hs⟩:=H3.out;obtain ⟨n0,n1,_⟩:=aw (iR (y':=.slice ao m c) (iQ (x':=Z7 Z9 z) O));refine Um (v:=Z0 #[.agg #[Z7 Z9 z,.slice ao m c],er]) (by simp [results,results190,go_sem,n0,n1]) rfl ?_;obtain ⟨u,_,a⟩:=H.out;have kc:bW w w3:=a.below.trans (M.mono a.below.size);refine ⟨z,ao,m,c,er,rfl,(kc.setCell (p:=⟨w.heap.size+1,0,ZY⟩) (by show w.heap.size<=w.heap.size+1;omega) _).setCell (p:=⟨w.heap.size+1,1,ZY⟩) (by show w.heap.size<=w.heap.size+1;omega) _,?_⟩;rcases W with q|⟨q0,s',C,q1,q2,q3,km⟩
    . exact .inl q
    . have hq:(Value.slice ao m c).ownBlock≠ZX (w.heap.size+1):=λe=>by have:=jM km e;omega
      have kf:=(km.kept (dk w3 (w.heap.size+1) 0 (Z7 Z9 z)) (.inr hq)).kept (dk _ (w.heap.size+1) 1 (.slice ao m c)) (.inr hq);exact .inr ⟨q0,s',C,λi h=>q1 i (u i h),q2,q3,fZ kf (by have:=a.below.size;omega)⟩
end
end
