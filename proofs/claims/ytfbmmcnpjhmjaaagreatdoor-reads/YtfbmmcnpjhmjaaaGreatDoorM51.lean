import Derived.Test.YtfbmmcnpjhmjaaaGreatDoorM49
set_option maxRecDepth 100000
set_option maxHeartbeats 8000000
open Go.Value renaming string -> Z9
open Go renaming World -> Z8, Value -> Z7
open List renaming getElem_mem -> Tm, getElem?_eq_getElem -> Tp, length_take -> Tq, length_drop -> Tr, take_of_length_le -> Ts
open Nat renaming le_trans -> Tn, le_refl -> To
namespace Go.Proofs.YtfbmmcnpjhmjaaaGreatDoor
open Go.RowKit Go.Deep Gf
variable {A:aB} {F:bx} {ps ps':dD} {Kind:dD->Prop} {l P:List Nat} {v ar p D L G t k n r g N y:Nat} {rs:Nat->Int} {xs:bg} {pg ob u u2:Z7} {w w6:Z8}
theorem G2 {v:Z7} (h:Bs w v l):Src Tryz.prog 1 34 v l.length (aH l) w:=by
 obtain ⟨i,c,rfl,o,p,r,k⟩:=h;have m:∀ u∈aH l,u.oneCell'=true:=λu a=>by unfold aH at a;rw [List.mem_map] at a;obtain ⟨x,_,rfl⟩:=a;rfl
 by_cases f:l=[]
 . subst f;cases i with
   | none=>exact Src.ofNil w Tryz.underlying34 c
   | some g=>exact Src.ofSlice w Tryz.underlying34 g 0 c [] rfl (λj u d=>by simp at d) (λu a=>by simp at a)
 . obtain ⟨b,off,rfl,n⟩:=k f;refine Src.ofSlice w Tryz.underlying34 ⟨b,off,none⟩ l.length c (aH l) (by rw [bm,Nat.mul_one]) (λj u d=>?_) m;rw [Addr.add_mid];have e:j<l.length:=(by obtain ⟨q,_⟩:=List.getElem?_eq_some_iff.1 d;rwa [bm] at q);rw [n j e,<- d];unfold aH;rw [List.getElem?_map,Tp e,List.getD_eq_getElem?_getD,Tp e];rfl
def EJ (w:Z8) (n:Int) (e:Ending) (w':Z8):Prop:=e=.returned (.tuple #[.slice none 0 0,qQ n])/\Below w.heap.size w w'
theorem KP (h:bf w ar v p ps D L G t pg ob P xs A F) (x:ByteArray) (g:bB x=false) :
 Calls Tryz.prog 48 #[.pointer (some ⟨ar,0,none⟩),Z9 x] w (EJ w 6):=by
 obtain ⟨_,_,_,_,f⟩:=h.arc.cells;have a:=h.find x;obtain ⟨k,d⟩:=nM (aF xs.names x);obtain ⟨i,c⟩:=nM (lO xs.os x);rw [d,c] at a;clear d c h;go_enter Tryz.func48,Tryz.ntmps48;go_wp2_with fail;refine a.mono ?_;rintro e w1 ⟨rfl,b⟩;have H:=hide b;clear b a f;go_wp2_with fail;refine (du x w1).mono ?_;rintro e w2 ⟨rfl,rfl⟩;rw [g];dsimp only;go_wp2;go_ret2;exact ⟨rfl,H.out⟩
theorem BD (h:bf w ar v p ps D L G t pg ob P xs A F) (x:ByteArray) (g:bB x=true) (f:x∉xs.names) :
 Calls Tryz.prog 48 #[.pointer (some ⟨ar,0,none⟩),Z9 x] w (EJ w 9):=by
 obtain ⟨_,_,_,_,d⟩:=h.arc.cells;have a:=h.find x;obtain ⟨k,c⟩:=nM (aF xs.names x);rw [c,h.notThere f] at a;clear c h;go_enter Tryz.func48,Tryz.ntmps48;go_wp2_with fail;refine a.mono ?_;rintro e w1 ⟨rfl,b⟩;have H:=hide b;clear b a d;go_wp2_with fail;refine (du x w1).mono ?_;rintro e w2 ⟨rfl,rfl⟩;rw [g];dsimp only;go_wp2;go_ret2;exact ⟨rfl,H.out⟩
def sm (c:Nat->Nat):Nat->Nat
 | 0=>0
 | n+1=>sm c n+c n
def BN (A:aB) (rs:Nat->Int) (k D:Nat):Prop:=(∀ i,A.reads i=0)->∃ c:Nat->Nat,(∀ i,rs i=(c i:Int)/\c i<=k)/\sm c A.n<=k*D
theorem KQ (c d:Nat->Nat):∀ n,sm (λi=>c i+d i) n=sm c n+sm d n
 | 0=>rfl
 | n+1=>by show sm _ n+(c n+d n)=(sm c n+c n)+(sm d n+d n);rw [KQ c d n];omega
theorem M3 (ds:List Nat):∀ n,sm (λi=>if i∈ds then 1 else 0) n=((List.range n).filter λi=>decide (i∈ds)).length
 | 0=>rfl
 | n+1=>by
  show sm _ n+(if n∈ds then 1 else 0)=_;rw [M3 ds n,List.range_succ,List.filter_append,List.length_append];by_cases h:n∈ds
  . rw [if_pos h];simp [h]
  . rw [if_neg h];simp [h]
theorem EK:∀ n,sm (λ_=>0) n=0
 | 0=>rfl
 | n+1=>by show sm _ n+0=0;rw [EK n]
theorem BN.zero (A:aB) (D:Nat):BN A A.reads 0 D:=λh=>⟨λ_=>0,λi=>⟨h i,To _⟩,by rw [EK];omega⟩
theorem BN.step (h:BN A rs k D) (m:k<=1000000) {ds:List Nat} (l:ds.length<=D):BN A ((A.rd rs).readAt ds).reads (k+1) D:=λd=>by
 obtain ⟨c,e,g⟩:=h d;refine ⟨λi=>c i+if i∈ds then 1 else 0,λi=>?_,?_⟩
 . obtain ⟨b,o⟩:=e i;show (if i∈ds then wrap64 (rs i+1) else rs i)=_/\_;by_cases a:i∈ds
   . rw [if_pos a,b];simp only [if_pos a];refine ⟨?_,by omega⟩;have:=fH (n:=c i+1) (by omega);rw [show ((c i:Int)+1)=((c i+1:Nat):Int) by omega];exact this
   . rw [if_neg a,b];simp only [if_neg a];exact ⟨rfl,by omega⟩
 . rw [KQ,M3];have j:((List.range A.n).filter λi=>decide (i∈ds)).length<=ds.length:=mq (List.Pairwise.filter _ List.nodup_range) (λx f=>of_decide_eq_true (List.mem_filter.1 f).2);rw [Nat.succ_mul];omega
structure DV (D L G:Nat) (Kind:dD->Prop) (ok:Nat->Prop) (ps:dD) (A:aB):Prop where
 sh:yU D L G Kind ok
 kind:Kind ps
 ho:∀ i,ps.ho.testBit i=true->i<A.n/\A.lost i=true
 hol:ps.ho<65536
 one:∀ l,l≠0->(∀ i,l.testBit i=true->i<A.n/\A.lost i=true)->ok l/\∀ i,i<A.n->A.lost i=true->l.testBit i=true
def Mw (w:Z8) (v p D L G:Nat) (Kind:dD->Prop) (ps:dD) (A:aB) (ps':dD) (wr:Z8):Prop:=Kind ps'/\ps'.ps=ps.ps/\ps'.S wr/\bq wr v p D L G ps.ps ps'.ho/\(∀ i,ps'.ho.testBit i=true->i<A.n/\A.lost i=true)/\ps'.ho<65536/\∀ k,ps'.bl k->ps.bl k\/w.heap.size<=k
structure P8 (w:Z8) (q v p r g N sz n D L G:Nat) (Kind:dD->Prop) (ps:dD) (A:aB) (F:bx) (d:List Nat) (cs:List Z7) (k:Nat) (u:Z7) (wr:Z8):Prop where
 pk:wr.ownsRow w.heap.size 5 1 u (min (k*sz) n) (aH (d.take (k*sz)))
 rd:∃ b gone sp,ef wr r v b g N gone sp
 row:∃ f,wr.rowIs g 34 N f
 kit:∃ ps',Mw w v p D L G Kind ps A ps' wr
 arr:∃ rs,BN A rs k D/\aq wr p (A.rd rs) F
 out:aa (λj=>F.has p A.n j\/j=v\/ps.bl j) w wr
 box:aw wr q 123 cs
def Sa (w:Z8) (q v p r g N sz n D L G:Nat) (Kind:dD->Prop) (ps:dD) (A:aB) (F:bx) (d:List Nat) (cs:List Z7) (K:Nat) (u i:Z7) (wr:Z8):Prop:=∃ k:Nat,k<=K/\i=.int .i64 (k:Nat)/\P8 w q v p r g N sz n D L G Kind ps A F d cs k u wr
theorem Mx (g:1<=D):n<=iM D n*(D*44):=by
 unfold iM;obtain ⟨q,d⟩:=nM (D*44);rw [d];have a:0<q:=by omega
 have h:=Nat.lt_mul_div_succ (n+q-1) a;obtain ⟨c,b⟩:=nM ((n+q-1)/q);rw [b] at h ⊢;have e:q*(c+1)=c*q+q:=by rw [Nat.mul_add,Nat.mul_one,Nat.mul_comm]
 have f:c*q<=max 1 c*q:=Nat.mul_le_mul_right _ (Nat.le_max_right _ _);omega
theorem zh:¬ BM 5:=by unfold BM;decide
theorem G3:¬ BM 123:=by unfold BM;decide
theorem OL {b0 gone sp ks base:Nat} {f0:Nat->Z7} {ch:List Nat} (a:w.ownsRow base 5 1 u ks (aH l)) (f:ef w r v b0 g N gone sp) (c:w.rowIs g 34 N f0) (o:bq w v p D L G ps.ps ps.ho) (j:ps.S w) (i:DU w r v y g N p D L G Kind ps A F ch u2 w6) (d:∀ k,F.has p A.n k->k<base):w6.ownsRow base 5 1 u ks (aH l):=fj a i.out λq b h=>by
 rcases h with h|h|h|h|h
 . subst h;obtain ⟨cs,e,_⟩:=c;exact cP a e (by decide) b
 . subst h;exact cP a f (by decide) b
 . subst h;exact cP a o (by decide) b
 . have s:=d q h;have t:=iy a b;omega
 . obtain ⟨cur,m⟩:=lJ a b;exact eG j m zh h
theorem My {wr w7:Z8} {q sz:Nat} {d:List Nat} {cs:List Z7} {v7:Z7} (l:P8 w q v p r g N sz n D L G Kind ps A F d cs k u wr) (hK:Mw w v p D L G Kind ps A ps' wr) (J:N=A.n) (S:BN A rs k D) (O:k<=1000000) (c:DU wr.drew r v y g N p D L G Kind ps' (A.rd rs) F ((d.drop (k*sz)).take sz) u2 w6)
 (P:w7.ownsRow w.heap.size 5 1 v7 (k*sz+((d.drop (k*sz)).take sz).length) (aH (d.take (k*sz))++aH ((d.drop (k*sz)).take sz))) (b:w6.grownBy w7 u.ownBlock) (t:w6.ownsRow w.heap.size 5 1 u (k*sz) (aH (d.take (k*sz)))) (C:∀ k,F.has p A.n k->k<w.heap.size) (hs:v<w.heap.size) (hn:k*sz<=n) (hm:d.length=n) (hq:w.heap.size<=q) (R:q≠r) (Q:q≠g) (hr:w.heap.size<=r) (hg:w.heap.size<=g):P8 w q v p r g N sz n D L G Kind ps A F d cs (k+1) v7 w7:=by
 subst J;have U:=c.out.size;have s:∀ {j:Nat} {cs:Array Z7} {T:TypeId},w6.heap[j]?=some (.cells cs T (0,0))->5≠T->w7.heap[j]?=w6.heap[j]?:=by
  intro j cs T a o;exact b.block j (Array.getElem?_eq_some_iff.1 a).1 (λe=>cP t a o e.symm)
 have hx:w.heap.size<=wr.heap.size:=l.out.size;have hv:wr.drew.heap.size=wr.heap.size:=rfl;have hy:w.heap.size<=w6.heap.size:=Tn l.out.size U;have z:∀ j,j<w.heap.size->w7.heap[j]?=w6.heap[j]?:=λj a=>b.block j (by omega) (λe=>by have:=iy t e.symm;omega);have K:aa (λj=>F.has p A.n j\/j=v\/ps.bl j) w w6:=(l.out.trans (aa.drew _)).later c.out λj a h=>by
  rcases h with h|h|h|h|h
  . omega
  . omega
  . exact .inr (.inl h)
  . exact .inl h
  . rcases hK.2.2.2.2.2.2 j h with q|q
    . exact .inr (.inr q)
    . omega
 have I:(k+1)*sz=k*sz+sz:=Nat.succ_mul k sz;have x:aw w6 q 123 cs:=l.box.keep (c.out.block _ l.box.lt (λh=>by
  rcases h with h|h|h|h|h
  . exact Q h
  . exact R h
  . omega
  . have m:=C _ h;omega
  . exact eG hK.2.2.1 l.box G3 h))
 obtain ⟨gone,Y,B⟩:=c.rd;obtain ⟨i,k1,k2,k3,k4,V,W,X⟩:=c.kit;obtain ⟨ds,Z,E,H⟩:=c.arr;refine ⟨?_,⟨y,gone,Y,B.keep (s B (by decide))⟩,?_,⟨i,k1,k2.trans hK.2.1,i.keep _ _ k3 (λj a=>b.block j (i.lt _ k3 j a) (λe=>by obtain ⟨cur,M⟩:=lJ t e.symm;exact eG k3 M zh a)),by rw [<- hK.2.1];exact k4.keep (s k4 (by decide)),V,W,λj a=>?_⟩,⟨_,S.step O E,H.keep λj a=>z j (C j a)⟩,?_,x.keep (s x (by decide))⟩
 . rw [I,List.take_add,bU,show min (k*sz+sz) n=k*sz+((d.drop (k*sz)).take sz).length by rw [Tq,Tr];omega];exact P
 . obtain ⟨f,cs,m,o⟩:=c.row;exact ⟨f,cs,(s m (by decide)).trans m,o⟩
 . rcases X j a with q|q
   . exact hK.2.2.2.2.2.2 j q
   . exact .inr (by omega)
 . exact K.later (T:=λj=>w.heap.size<=j) ⟨b.os,b.tape,b.output,b.size,λj _ hp=>z j (by omega)⟩ (λj m o=>by omega)
theorem bf.got {w':Z8} (h:bf w ar v p ps D L G t pg ob P xs A F) (a:aa (λj=>F.has p A.n j\/j=v\/ps.bl j) w w') (rs:Nat->Int) (y:aq w' p (A.rd rs) F) (hK:Mw w v p D L G Kind ps A ps' w'):bf w' ar v p ps' D L G t pg ob P xs (A.rd rs) F:=by
 obtain ⟨k1,k2,k3,k4,B,C,r⟩:=hK;have s:2<3:=by decide
 have u:1<3:=by decide
 have z:=h.vlt;have d:∀ k,k<3->¬ F.has p A.n k->k<w.heap.size->w'.heap[k]?=w.heap[k]?:=λk f i l=>a.block k l (λq=>by
  rcases q with q|q|q
  . exact i q
  . omega
  . have:=(h.apt k q).1;omega)
 have m:eM (λk=>ar<k/\¬ F.has p A.n k/\¬ ps.bl k/\¬ ps'.bl k) w w':=⟨a.size,λk c b=>a.block k c (λq=>by
  rcases q with q|q|q
  . exact b.2.1 q
  . have:=b.1;omega
  . exact b.2.2.1 q)⟩
 have o:∀ k,(ar<k/\¬ F.has p A.n k/\¬ ps.bl k)->k<w.heap.size->(ar<k/\¬ F.has p A.n k/\¬ ps.bl k/\¬ ps'.bl k):=λk q f=>⟨q.1,q.2.1,q.2.2,λe=>(r k e).elim q.2.2 (by omega)⟩;have x:∀ k,ps'.bl k->3<=k/\k≠ar/\k≠v/\¬ F.has p A.n k:=λk c=>by
  rcases r k c with q|q
  . exact h.apt k q
  . have f:=h.arc.lt;have i:=h.vol.vol.lt;have l:=h.arK;exact ⟨by omega,by omega,by omega,λe=>by have:=h.vol.arr.has_lt e;omega⟩
 exact ⟨h.arc.keep (a.block _ h.arc.lt λq=>by
  rcases q with q|q|q
  . exact h.nar q
  . omega
  . exact (h.apt _ q).2.1 rfl),⟨by rw [k2];exact k4,y,h.vol.laid.keep (d _ s h.free.g h.vol.laid.lt),h.vol.tab.keep (d _ u h.free.t h.vol.tab.lt),Tn h.vol.room a.size⟩,h.free,h.nar,h.vlt,h.arK,⟨h.fit.n,h.fit.nb,h.fit.len,h.fit.byt⟩,h.par,h.disk.congr rfl rfl rfl (λ_=>rfl) (λ_ _=>rfl) (λ_ _ _=>rfl),((h.pgs.wk o).keep m).wk λk q _=>⟨q.1,q.2.1,q.2.2.2⟩,((h.cat.wk o).keep m).wk λk q _=>⟨q.1,q.2.1,q.2.2.2⟩,h.nb,h.turn,k3,x⟩
def OM (w:Z8) (ar v p:Nat) (Kind:dD->Prop) (ok:Nat->Prop) (ps:dD) (D L G t:Nat) (pg ob:Z7) (P:List Nat) (xs:bg) (A:aB) (F:bx) (d:List Nat) (e:Ending) (w':Z8):Prop:=
 ∃ u rs ps',e=.returned (.tuple #[u,.nilIface])/\w'.ownsRow w.heap.size 5 1 u d.length (aH d)/\bf w' ar v p ps' D L G t pg ob P xs (A.rd rs) F/\DV D L G Kind ok ps' (A.rd rs)/\BN A rs (iM D d.length) D/\ps'.ps=ps.ps/\(∀ k,ps'.bl k->ps.bl k\/w.heap.size<=k)/\aa (λj=>F.has p A.n j\/j=v\/ps.bl j) w w'
theorem ON {ok:Nat->Prop} (h:bf w ar v p ps D L G t pg ob P xs A F) (hv:DV D L G Kind ok ps A) (x:ByteArray) (hx:bB x=true) (m:Nat) (x4:m<xs.length) (hm:xs[m].1.name=x) :
 Calls Tryz.prog 48 #[.pointer (some ⟨ar,0,none⟩),Z9 x] w (OM w ar v p Kind ok ps D L G t pg ob P xs A F xs[m].2):=by
 obtain ⟨_,_,_,_,c8⟩:=h.arc.cells;have q5:=h.find x;have xj:xs.names.length=xs.length:=by rw [<- eu,bP];simp [bg.os]
 have qk:xs.names[m]'(by omega)=x:=by simp [bg.names,hm,aZ,bg.os]
 have q0:x∈xs.names:=by rw [<- qk];exact Tm _
 have x8:aF xs.names x=m:=fy h.disk.up (by omega) qk;rw [x8,h.there q0] at q5;have kf:=h.disk.fits _ (Tm x4);have hk:=h.disk.held _ (Tm x4);obtain ⟨oo,oc,rfl,hol,_⟩:=id h.cat;have qm:xs.os.length=xs.length:=by simp [bg.os]
 have ki:∀ hh:m<xs.os.length,xs.os[m]=xs[m].1:=λhh=>by simp [bg.os]
 obtain ⟨X,hX⟩:=nM (xs[m]);rw [hX] at kf hk hm ki ⊢;obtain ⟨nn,x5⟩:=nM (xs.os.length);have qx:X∈xs:=by rw [<- hX];exact Tm _
 have o:=hide6 h kf hk ki x5 qx;have V:=hide hv;have qh:m<nn:=by omega
 have xc:(m:Int)<(nn:Int):=by omega
 rw [x5] at q5 c8;clear h hv xj qk q0 x8 kf hk ki qm hol hX qx;go_enter Tryz.func48,Tryz.ntmps48;go_wp2_with fail;refine q5.mono ?_;rintro e w1 ⟨rfl,hb⟩;have H:=hide hb;clear hb q5 c8;go_wp2_with fail;refine (du x w1).mono ?_;rintro e w2 ⟨rfl,rfl⟩;rw [hx];dsimp only;have f:=o.out.1.below H.out;obtain ⟨d0,_,_,_,d8⟩:=f.arc.cells;rw [o.out.2.2.2.2.1] at d8;obtain ⟨ob0,off,sv,rfl,xk,xm,r1,r2,r3,r4⟩:=f.cat.at' (k:=m) (by rw [o.out.2.2.2.2.1];exact qh);rw [o.out.2.2.2.1 _] at r1 r2 r4;rw [hm] at r1;obtain ⟨n,hn⟩:=nM (X.1.size);rw [hn] at r2;obtain ⟨T,U,rfl,xb,_⟩:=id r4;obtain ⟨S,hS⟩:=nM (X.1.stripes);rw [hS] at r3 r4 xb;have J:=hide4 f r4 hn hS;clear f r4 hn hS;have qf:Below w2.heap.size w2 (w2.alloc (.cells #[Z9 x,.int .i64 (n:Nat),.slice T S.length U] 123)):=bA w2 _;have q2:aw (w2.alloc (.cells #[Z9 x,.int .i64 (n:Nat),.slice T S.length U] 123)) w2.heap.size 123 [Z9 x,.int .i64 (n:Nat),.slice T S.length U]:=heap_alloc_last w2 _;have qp:(w2.alloc (.cells #[Z9 x,.int .i64 (n:Nat),.slice T S.length U] 123)).heap.size=w2.heap.size+1:=by simp
 have xh:n<=1500:=by rw [<- J.out.2.2.1];exact o.out.2.1.fit.size
 obtain ⟨w3,xp⟩:=nM (w2.alloc (.cells #[Z9 x,.int .i64 (n:Nat),.slice T S.length U] 123));rw [xp] at qf q2 qp;have y1:=q2.cell (j:=1) (u:=.int .i64 (n:Nat)) rfl;obtain ⟨ib,x3,kx,ky,kz⟩:=info_parts Tryz.infoByteP;have H3:=hide3 qf q2 qp;clear qf q2 qp;go_wp2_with (at_make;refine wpList_make_own w3 rfl (.const (.int .i64 0)) (.tmp 41) 34 rfl w2.heap.size 5 ib (.int .u8 0) 1 Tryz.underlying34 x3 kx ky .i64 .i64 _ n (by rfl) (by rfl) rfl (by rw [kz];omega) (by unfold maxLen;omega) (by exact H3.out.1.size) ?_;intro w4 x6 qg;have qe:Below w2.heap.size w2 w4:=H3.out.1.grown qg H3.out.1.size (λk e=>by cases e);have e0:=(qe.cell (p:=⟨ar,0,none⟩) J.out.1.arc.lt).trans d0;have H4:=hide3 x6 qg qe;clear x6 qg qe);have Z:=J.out.1.below H4.out.2.2;have Q:=G1 Z.vol.vol Z.par.d Z.par.l4 Z.par.g Z.disk.n;have q7:=hide Z;clear Z d8 r1 r2 r3 y1;refine Q.mono ?_;rintro e w5 ⟨rfl,qb,hs,kp⟩;have q6:=q7.out.below kp;have qa:aw w4 w2.heap.size 123 _:=H3.out.2.1.keep (H4.out.2.1.block _ H3.out.2.1.lt (by simp));have hf:aw w5 w2.heap.size 123 _:=qa.keep (kp.block _ qa.lt);have x2:=hf.cell (j:=2) (u:=.slice T S.length U) rfl;have ko:Below w2.heap.size w2 w5:=H4.out.2.2.trans (kp.mono H4.out.2.2.size);obtain ⟨d,B⟩:=nM (X.2);obtain ⟨b,C⟩:=nM (D*44);have Y:d.length=n:=by rw [<- B,o.out.2.1.len,J.out.2.2.1]
 have O:S.length=iM D n:=by rw [<- J.out.2.2.2,o.out.2.1.st,J.out.2.2.1];rfl
 obtain ⟨r,s⟩:=nM (w4.heap.size+2);obtain ⟨g,hg⟩:=nM (w4.heap.size+1);have y3:=H4.out.2.2.size;rw [s,hg] at qb;rw [hg] at hs;have x9:P8 w2 w2.heap.size v p r g A.n b n D L G Kind ps A F d [Z9 x,.int .i64 (n:Nat),.slice T S.length U] 0 (.slice (some ⟨w3.heap.size,0,none⟩) 0 n) w5:=
  ⟨by rw [Nat.zero_mul,Nat.zero_min];exact aA H4.out.1 kp,⟨_,_,_,qb⟩,⟨_,hs⟩,⟨ps,V.out.kind,rfl,q6.kit,q6.vol.vol,V.out.ho,V.out.hol,λ_ q=>.inl q⟩,⟨A.reads,BN.zero A D,q6.vol.arr⟩,aa.of_all ko _,hf⟩
 have H5:=hide5 x9 B C Y O;have xn:r≠g:=by omega
 have xx:w2.heap.size<g:=by omega
 have y2:w2.heap.size<r:=by omega
 rw [s];clear x9 B C Y O qb hs hf qa q6 ko Q kp s hg;have xo:44<=b/\b<=528:=by rw [<- H5.out.2.2.1];have:=q7.out.par.d1;have:=q7.out.par.d;omega
 go_wp2_with fail;go_loopw [9,51] (λu i wr=>Sa w2 w2.heap.size v p r g A.n b n D L G Kind ps A F d [Z9 x,.int .i64 (n:Nat),.slice T S.length U] S.length u i wr) (λ_ i _=>S.length-(intOf i).toNat)
 case atStart=>exact ⟨0,Nat.zero_le _,rfl,H5.out.1⟩
 case round=>
  clear x2 e0;obtain ⟨k,xy,rfl,hI⟩:=hrel;by_cases kk:k<S.length
  . obtain ⟨l,⟨b0,gone,sp,Q⟩,⟨f0,hp⟩,⟨ps',c⟩,⟨rs,R,he⟩,M,kr⟩:=id hI;obtain ⟨_,B,C,Y,O⟩:=H5.out;obtain ⟨f,qv,xi,q3⟩:=J.out;have s:=f.par;have qi:k*b<=n:=(by rw [<- C];exact Bq s.d1 (by omega));have N:∀ j,F.has p A.n j->j<w2.heap.size:=λj I=>f.vol.arr.has_lt I;rw [Nat.min_eq_left qi] at l;obtain ⟨pa,pc,rfl⟩:=fh l;obtain ⟨a,K⟩:=nM (k*b);have qo:=f.vlt;have qs:eM (λk=>ar<k/\¬ F.has p A.n k/\¬ ps.bl k) w2 wr:=⟨M.size,λj I hK=>M.block j I (λq=>by rcases q with q|q|q;exact hK.2.1 q;omega;exact hK.2.2 q)⟩;obtain ⟨sb,so,y4,e1,qy⟩:=rj (qv.keep qs) (λe=>by rw [e] at kk;simp at kk);simp only [Value.slice.injEq] at e1;obtain ⟨rfl,_,rfl⟩:=e1;have g1:=qy k kk;obtain ⟨y,hy⟩:=nM (S[k]);rw [hy] at g1;have xq:y<A.nb:=by
     refine (f.disk.inb y (List.mem_append_right _ ?_)).2;unfold ai;refine List.mem_flatMap.2 ⟨X.1,List.mem_map_of_mem o.out.2.2.2.2.2,?_⟩;rw [q3,<- hy];exact Tm kk
    have kh:=f.got M rs he c;have qc:m6 wr.drew v p D L G ps'.ps ps'.ho (A.rd rs) F:=kh.vol.below ((Below.refl _ wr).drew) lR;obtain ⟨ca,_⟩:=kh.arc.cells;have cz:=kr.cell (j:=1) (u:=.int .i64 (n:Nat)) rfl;have qn:=dr qc.vol (by have:=s.d;omega);rw [C] at qn;obtain ⟨E,xe⟩:=nM (min (n-a) b);have xg:∀ qr ty w,(Builtin.min_ qr ty #[.int .i64 ((n:Int)-(a:Int)),.int .i64 (b:Nat)]).run Tryz.prog w=.ok (.int .i64 (E:Nat)) w:=λqr ty w=>by
     rw [iR];by_cases h1:((b:Nat):Int)<(n:Int)-(a:Int)
     . rw [if_pos h1,show E=b by omega]
     . rw [if_neg h1,show (E:Int)=(n:Int)-(a:Int) by omega]
    have qz:gG D d k=(d.drop a).take b:=(by unfold gG;rw [C,K]);have W:((d.drop a).take b).length=E:=(by rw [Tq,Tr];omega);have kc:∀ z∈(d.drop a).take b,z<256:=λz hz=>o.out.2.1.byt z (by rw [B];exact List.mem_of_mem_drop (List.mem_of_mem_take hz));have km:=f.disk.n;have qj:(E+43)/44<=D:=(by omega);have xa:=s.d;have hq:∀ i,i<A.n->(aW.shard ((aK D L G ((d.drop a).take b)).getD i [])).ok/\A.blk i y=(aW.shard ((aK D L G ((d.drop a).take b)).getD i [])).blk:=λi hi=>by
     constructor
     . have x1:i<(aK D L G ((d.drop a).take b)).length:=(by rw [gv];omega);have e:(aK D L G ((d.drop a).take b)).getD i []=(aK D L G ((d.drop a).take b))[i]:=(by simp [x1]);rw [e];exact ja s.d s.g _ i x1
     . have hh:=o.out.2.2.1 k (by rw [q3];exact kk) i hi;rw [q3,B,fD kk,hy,qz] at hh;exact hh
    have xv:=M.size;have kj:=J8 (D:=D) kc;have q1:GY wr.drew r v y g A.n p D L G Kind ok ps' (A.rd rs) F (di D ((d.drop a).take b)):=
     { vol:=qc,free:=f.free,fit:=kh.fit,n:=km,nN:=km,blt:=xq,wait:=by have:=f.disk.wait;show A.wait≠0;omega,par:=s,ho:=c.2.2.2.2.1,hol:=c.2.2.2.2.2.1,bad:=λi _=>f.disk.bad i y,len:=kj.1,byt:=kj.2,recs:=hq,kit:=ps'.keep _ _ c.2.2.1 (λ_ _=>rfl),kind:=c.1,apt:=λj I=>⟨(kh.apt j I).1,(kh.apt j I).2.2.1,(kh.apt j I).2.2.2⟩,one:=V.out.one,vr:=λe=>by have:=f.vol.vol.lt;omega,vg:=λe=>by have:=f.vol.vol.lt;omega,rg:=xn,gF:=λe=>by have:=N _ e;omega,rF:=λe=>by have:=N _ e;omega,rK:=by have:=f.vol.room;omega,vK:=f.vlt.1,gK:=by have:=f.vol.room;omega }
    have q4:=KO q1 V.out.sh (Q.keep rfl) (hp.of_block rfl) E ((E+43)/44) rfl qj;rw [show dB (aL D L G) (di D ((d.drop a).take b)) 44=aK D L G ((d.drop a).take b) from rfl] at q4;rw [Gs rfl qj (by rw [W];omega) kc (by rw [W];exact To _),Ts (by rw [W];exact To _)] at q4;have HR:=hide13 hI Q hp l q4 qn N W K c R km f.vol.vol.lt;rw [K] at qi l ⊢;have xf:E<=528:=(by omega);have xz:IntKind.i64.wrap ((k:Int)+1)=(k:Int)+1:=(by rw [IntKind.wrap_i64];omega);have y0:IntKind.i64.wrap ((n:Int)-(a:Int))=(n:Int)-(a:Int):=(by rw [IntKind.wrap_i64];omega);clear hI c R kh hq q1 kj xv qo Q hp l q4 qn N W K qz kc qc qs qy hy M kr he B C Y O f qv xi q3 s xe qj km;go_wp2;go_region_with (first
     | (go_at_call 77;refine HR.out.2.2.2.2.2.1.mono ?_;rintro e wq ⟨rfl,rfl⟩)
     | (go_at_call 76;refine HR.out.2.2.2.2.1.mono ?_;rintro e w6 ⟨u2,rfl,qq⟩;have H6:=hide qq;clear qq))
    all_goals (
     have k8:w6.ownsRow w2.heap.size 5 1 (.slice pa a pc) a (aH (d.take a)):=by
      obtain ⟨_,Q,hp,l,_,_,N,_,K,c,_⟩:=HR.out;rw [K] at l;exact OL (aA l ((Below.refl _ wr).drew)) (Q.keep rfl) (hp.of_block rfl) (by rw [c.2.1];exact c.2.2.2.1) (ps'.keep _ _ c.2.2.1 (λ_ _=>rfl)) H6.out N
     have kb:Src Tryz.prog 1 34 u2 E (aH ((d.drop a).take b)) w6:=by
      have:=G2 H6.out.bytes;rwa [HR.out.2.2.2.2.2.2.2.1] at this
     have HO:=hide3 k8 kb (Tn HR.out.1.out.size H6.out.out.size);clear k8 kb;go_wp2_with (at_builtin;refine af _ rfl (.tmp 75) (.tmp 76) 34 34 rfl w2.heap.size 5 ib (.int .u8 0) 1 1 Tryz.underlying34 x3 kx ky kz rfl (.slice pa a pc) a (aH (d.take a)) (by rfl) (by exact HO.out.1) _ (by rfl) E (aH ((d.drop a).take b)) (by exact HO.out.2.1) (by unfold maxLen;omega) (by omega) (by exact HO.out.2.2) ?_;intro v7 w7 x7 x0 qd;have H7:=hide2 x7 x0;clear x7 x0 qd);go_roundw
     case rel=>
      obtain ⟨hI,_,_,_,_,_,N,W,K,c,R,km,qo⟩:=HR.out;subst K;refine ⟨k+1,by omega,by go_num,My hI c rfl R (by have:=Nat.le_mul_of_pos_right k (show 0<b by omega);omega) H6.out ?_ H7.out.2 HO.out.1 N qo qi H5.out.2.2.2.1 lR (by omega) (by omega) (by omega) (by omega)⟩;rw [W];exact H7.out.1
     case measure=>simp only [intOf];omega)
  . have xd:k=S.length:=(by omega);subst xd;obtain ⟨l,_,_,⟨ps',c⟩,⟨rs,R,he⟩,M,_⟩:=hI;obtain ⟨_,B,C,Y,O⟩:=H5.out;have kv:n<=S.length*b:=(by rw [O,<- C];exact Mx J.out.1.par.d1);rw [Nat.min_eq_right kv,Ts (by omega)] at l;have q9:aa (λj=>F.has p A.n j\/j=v\/ps.bl j) w wr:=(aa.of_all H.out _).trans M;have q8:Mw w v p D L G Kind ps A ps' wr:=⟨c.1,c.2.1,c.2.2.1,c.2.2.2.1,c.2.2.2.2.1,c.2.2.2.2.2.1,λj I=>(c.2.2.2.2.2.2 j I).imp id λq=>Tn H.out.size q⟩;rw [O] at R;have HF:=hide6 (And.intro (cT l H.out.size) q9) (o.out.1.got q9 rs he q8) B Y q8 R;clear l he M B C Y O kv q9 c q8 R;go_wp2;go_ret2;obtain ⟨⟨h1,h2⟩,h3,h4,h5,h6,h7⟩:=HF.out;refine ⟨_,rs,ps',rfl,?_,h3,⟨V.out.sh,h6.1,h6.2.2.2.2.1,h6.2.2.2.2.2.1,V.out.one⟩,?_,h6.2.1,h6.2.2.2.2.2.2,h2⟩
    . rw [h4,h5];exact h1
    . rw [h4,h5];exact h7
end Go.Proofs.YtfbmmcnpjhmjaaaGreatDoor
