import Derived.Test.YtfbmmcnpjhmjaaaGreatDoorM52
set_option maxRecDepth 100000
set_option maxHeartbeats 8000000
open Go.IntKind renaming i64 -> Z9
open Go.Value renaming int -> Z8, pointer -> Z7, string -> Z5
open Go.Ending renaming returned -> Z6
open Option renaming none -> Z4, some -> Z3
open Go renaming World -> Z2, Value -> Z1
open Go.RowKit renaming Below -> Z0
open Nat renaming lt_of_lt_of_le -> Tm, le_refl -> Tn, le_trans -> Tp, eq_of_testBit_eq -> Tv, testBit_two_pow -> Tw
open Array renaming getElem?_eq_some_iff -> To
open List renaming getElem?_append_right -> Tq, getElem_mem -> Ts, length_append -> Tt, length_take -> Tu
open Option.some renaming injEq -> Tr
open Go.Proofs.Tryz renaming prog -> ZZ
namespace Go.Proofs.YtfbmmcnpjhmjaaaGreatDoor
open Go.RowKit Go.Deep Gf
variable {A:aB} {x:ByteArray} {F:bx} {n cache:Int} {ps:dD} {Kind:dD->Prop} {Q:List (ByteArray×Z1)} {l d P:List Nat} {os:List Ob} {B r rb sa q D t t' b wb L G nb p ar v:Nat} {ok:Nat->Prop} {xs xs':bg} {rv u out want pg ob:Z1} {w w' wz wx w0 wr:Z2}
section
structure MB (w0 w:Z2) (wb D L G nb t:Nat) (xs:bg) (p r sa ar v:Nat) (Kind:dD->Prop) (ok:Nat->Prop) (ps:dD) (pg ob:Z1) (P:List Nat) (A:aB) (F:bx) (out want:Z1) (cache:Int):Prop where
 wbA:nB w wb D L G (Z7 (Z3 ⟨p,0,Z4⟩)) (Z7 (Z3 ⟨sa,0,Z4⟩)) (Z7 (Z3 ⟨r,0,Z4⟩)) nb out want cache
 box:Boxed w sa 92 (Z7 (Z3 ⟨ar,0,Z4⟩))
 live:bf w ar v p ps D L G t pg ob P xs A F
 nb:A.nb=nb
 base:Z0 w0.heap.size w0 w
 glob:cE w0
 hK:3<=w0.heap.size
 wbB:w0.heap.size<=wb
 lt:wb<ar
 fB:∀ k,F.has p A.n k->w0.heap.size<=k
 vB:w0.heap.size<=v
 kB:∀ k,ps.bl k->w0.heap.size<=k
 shv:DV D L G Kind ok ps A
structure Dc (wz w:Z2) (r:Nat) (Q:List (ByteArray×Z1)) (xs:bg) (out want:Z1):Prop where
 op:Kd wz.heap.size 40 wz w
 ref:∃ rb rv,oN w r rb rv Q
 rel:jf w Q xs
 ow:∃ l,Ow w out l/\Ow w want l
def MS (Kind:dD->Prop) (ok:Nat->Prop) (X:bg->aB->Prop) (wz w0 w:Z2) (wb D L G nb T:Nat):Prop:=∃ t xs Q p r sa ar v ps pg ob P A F out want cache,MB w0 w wb D L G nb t xs p r sa ar v Kind ok ps pg ob P A F out want cache/\Dc wz w r Q xs out want/\t<=T/\X xs A
theorem gY.ref (h:oN w r rb rv Q) (b:gY B w w') (a:w.heap.size<=B):oN w' r rb rv Q:=
 ⟨(b _ (.inl rfl) r _ (Tm (To.1 h.top).1 a) h.top).trans h.top,KT h.own (b _ (.inr (.inl rfl))) a⟩
theorem gY.box (h:Boxed w sa 92 u) (b:gY B w w') (a:w.heap.size<=B):Boxed w' sa 92 u:=
 (b _ (.inr (.inr (.inl rfl))) sa _ (Tm h.lt a) h).trans h
theorem gY.ow (h:Ow w u l) (b:gY B w w') (a:w.heap.size<=B):Ow w' u l:=h.keep ((b _ (.inr (.inr (.inr (.inl rfl))))).mono a)
theorem Dc.keep (h:Dc wz w r Q xs out want) (b:gY B w w') (a:w.heap.size<=B):Dc wz w' r Q xs out want:=by
 obtain ⟨rb,rv,d⟩:=h.ref;obtain ⟨l,f,g⟩:=h.ow;exact ⟨λj cs c q=>by
  have e:=h.op j cs c q;exact (b _ (.inr (.inr (.inr (.inr rfl)))) j cs (Tm (To.1 (e.trans q)).1 a) (e.trans q)).trans e,⟨rb,rv,b.ref d a⟩,h.rel.keep λ_ _ o=>b.ow o a,⟨l,b.ow f a,b.ow g a⟩⟩
theorem cE.below (h:cE w) (b:Z0 w.heap.size w w'):cE w':=by
 have a:w.cell? ⟨0,0,Z4⟩=_:=h;exact (b.cell (block_lt_of_cell a)).trans a
section
variable {w0 w w':Z2} {wb D L G nb t:Nat} {xs:bg} {p r sa ar v:Nat} {Kind:dD->Prop} {ok:Nat->Prop} {ps:dD} {pg ob:Z1} {P:List Nat} {A:aB} {F:bx} {out want:Z1} {cache:Int}
theorem MB.gl (h:MB w0 w wb D L G nb t xs p r sa ar v Kind ok ps pg ob P A F out want cache):cE w:=h.glob.below h.base
theorem DV.same {B:aB} (h:DV D L G Kind ok ps A) (b:B.n=A.n) (a:B.lost=A.lost):DV D L G Kind ok ps B:=by
 refine ⟨h.sh,h.kind,?_,h.hol,?_⟩
 . rw [b,a];exact h.ho
 . rw [b,a];exact h.one
theorem MB.next (h:MB w0 w wb D L G nb t xs p r sa ar v Kind ok ps pg ob P A F out want cache) (f:gY w.heap.size w w') (l:w'.heap[wb]?=w.heap[wb]?) (d:Z0 w0.heap.size w0 w') {t':Nat} {xs':bg} {pg' a:Z1} {P':List Nat} {B:aB} {ps':dD} (g:bf w' ar v p ps' D L G t' pg' a P' xs' B F) (i:B.n=A.n) (c:B.nb=A.nb) (j:DV D L G Kind ok ps' B) (b:∀ k,ps'.bl k->ps.bl k\/w.heap.size<=k) :
 MB w0 w' wb D L G nb t' xs' p r sa ar v Kind ok ps' pg' a P' B F out want cache:=
 ⟨aw.keep h.wbA l,f.box h.box lR,g,c.trans h.nb,d,h.glob,h.hK,h.wbB,h.lt,by rw [i];exact h.fB,h.vB,λk q=>(b k q).elim (h.kB k) λe=>Tp h.base.size e,j⟩
theorem MB.below (h:MB w0 w wb D L G nb t xs p r sa ar v Kind ok ps pg ob P A F out want cache) (a:Z0 w.heap.size w w'):MB w0 w' wb D L G nb t xs p r sa ar v Kind ok ps pg ob P A F out want cache:=
 h.next (gY.below a _) (a.block _ (aw.lt h.wbA)) (h.base.trans (a.mono h.base.size)) (h.live.below a) rfl rfl h.shv λ_ q=>.inl q
theorem BF:¬ BM 36:=by unfold BM;decide
theorem MB.wbF (h:MB w0 w wb D L G nb t xs p r sa ar v Kind ok ps pg ob P A F out want cache):¬ F.has p A.n wb/\wb≠v:=by
 have c:w.heap[wb]?=Z3 (.cells _ 36 (0,0)):=h.wbA;refine ⟨λq=>?_,λe=>?_⟩
 . obtain ⟨cs,T,b,f⟩:=h.live.vol.arr.kind q;rw [c] at b;simp only [Tr,Obj.cells.injEq] at b;have d:=b.2.1;rcases f with k|k|k|k<;>exact absurd (d.trans k) (by decide)
 . have a:=h.live.vol.vol;unfold bq at a;rw [<- e,c] at a;cases a
theorem MB.callK (h:MB w0 w wb D L G nb t xs p r sa ar v Kind ok ps pg ob P A F out want cache) (c:aa (λj=>j=ar\/F.has p A.n j\/j=v\/ps.bl j) w w') {t':Nat} {xs':bg} {pg' a:Z1} {P':List Nat} {B:aB} {ps':dD} (f:bf w' ar v p ps' D L G t' pg' a P' xs' B F) (g:B.n=A.n) (e:B.nb=A.nb) (i:DV D L G Kind ok ps' B) (d:∀ k,ps'.bl k->ps.bl k\/w.heap.size<=k) :
 MB w0 w' wb D L G nb t' xs' p r sa ar v Kind ok ps' pg' a P' B F out want cache/\gY w.heap.size w w':=by
 have b:=gY.live (B:=w.heap.size) h.live.vol.arr h.live.arc h.live.vol.vol h.live.kit c;refine ⟨h.next b (c.block _ (aw.lt h.wbA) (λq=>?_)) (h.base.trans (c.below λk b=>⟨Tm b h.base.size,λq=>?_⟩)) f g e i d,b⟩
 . rcases q with q|q|q|q
   . have:=h.lt;omega
   . exact h.wbF.1 q
   . exact h.wbF.2 q
   . exact eG h.live.kit h.wbA BF q
 . have:=h.wbB;have:=h.lt;have:=h.vB;rcases q with q|q|q|q
   . omega
   . have:=h.fB k q;omega
   . omega
   . have:=h.kB k q;omega
theorem MB.call (h:MB w0 w wb D L G nb t xs p r sa ar v Kind ok ps pg ob P A F out want cache) (d:aa (λj=>j=ar\/F.has p A.n j) w w') {t':Nat} {xs':bg} {pg' a:Z1} {P':List Nat} {B:aB} (f:bf w' ar v p ps D L G t' pg' a P' xs' B F) (c:B.n=A.n) (b:B.nb=A.nb/\B.lost=A.lost) :
 MB w0 w' wb D L G nb t' xs' p r sa ar v Kind ok ps pg' a P' B F out want cache/\gY w.heap.size w w':=h.callK (d.mono λ_ _ q=>q.elim .inl λe=>.inr (.inl e)) f c b.1 (h.shv.same c b.2) λ_ q=>.inl q
theorem MB.write (h:MB w0 w wb D L G nb t xs p r sa ar v Kind ok ps pg ob P A F out want cache) (d:aa (λj=>j=wb) w w') {r':Nat} {out' a:Z1} {cache':Int}
 (n:nB w' wb D L G (Z7 (Z3 ⟨p,0,Z4⟩)) (Z7 (Z3 ⟨sa,0,Z4⟩)) (Z7 (Z3 ⟨r',0,Z4⟩)) nb out' a cache') :
 MB w0 w' wb D L G nb t xs p r' sa ar v Kind ok ps pg ob P A F out' a cache'/\gY w.heap.size w w':=by
 obtain ⟨i,l⟩:=h.wbF;have g:∀ j,j≠wb->j<w.heap.size->w'.heap[j]?=w.heap[j]?:=λj b f=>d.block j f b;have o:w.heap[wb]?=Z3 (.cells _ 36 (0,0)):=h.wbA;have c:gY w.heap.size w w':=λT m j cs f b=>g j (λe=>by
  subst e;rw [o] at b;simp only [Tr,Obj.cells.injEq] at b;have e:=b.2.1;rcases m with q|q|q|q|q<;>exact absurd (e.trans q) (by decide)) f
 exact ⟨⟨n,c.box h.box lR,h.live.other d.size g h.lt l i (by have:=h.hK;have:=h.wbB;omega) (eG h.live.kit h.wbA BF),h.nb,h.base.trans (d.below λk c=>⟨Tm c h.base.size,λq=>by have:=h.wbB;omega⟩),h.glob,h.hK,h.wbB,h.lt,h.fB,h.vB,h.kB,h.shv⟩,c⟩
end
end
def kN (w:Z2) (q:Nat) (o:oS) (dv:Z1):Prop:=aw w q 40 [Z8 Z9 o.kind,Z8 Z9 o.a,Z5 o.s,dv]
theorem kN.cells {o:oS} {dv:Z1} (h:kN w q o dv):w.cell? ⟨q,0,Z4⟩=Z3 (Z8 Z9 o.kind)/\w.cell? ⟨q,1,Z4⟩=Z3 (Z8 Z9 o.a)/\w.cell? ⟨q,2,Z4⟩=Z3 (Z5 o.s)/\w.cell? ⟨q,3,Z4⟩=Z3 dv:=
 ⟨aw.cell h rfl,aw.cell h rfl,aw.cell h rfl,aw.cell h rfl⟩
def P9 (x:Z1) (n:Int):Prop:=x=qQ n\/(x=.nilIface/\n=0)
theorem tZ {x:Z1} (b:P9 x n) {w:Z2} (a:cE w):Calls ZZ 18 #[x] w λe w'=>e=Z6 (Z8 Z9 n)/\Z0 w.heap.size w w':=by
 rcases b with rfl|⟨rfl,rfl⟩
 . exact CM n w a
 . exact se w
def OP (n:Int) (D t:Nat) (xs:bg) (A:aB) (x:ByteArray) (d:List Nat) (t':Nat) (xs':bg):Prop:=
 (n=6/\t'=t/\xs'=xs/\¬ bX x)\/(n=7/\t'=t/\xs'=xs/\bX x/\1500<d.length)\/(n=8/\t'=t/\xs'=xs/\bX x/\d.length<=1500/\x∈xs.names) \/
 (n=10/\t'=t/\xs'=xs/\bX x/\d.length<=1500/\x∉xs.names/\A.nb<(ai xs.os).length+iM D d.length+2*pL D (aC xs.os).length d.length+2) \/
 (n=0/\t'=t+1/\bX x/\d.length<=1500/\x∉xs.names/\∃ o,o.name=x/\xs'=xs.ins (o,d))
theorem MA {B:aB} {r:Z1} (h:DM D t xs A x d r t' xs' B w):∃ n,P9 r n/\OP n D t xs A x d t' xs':=by
 have i:=nD x;have k:bB x=false->¬ bX x:=λe q=>by rw [i,e] at q;cases q
 rcases h with ⟨a,b,f,c⟩|⟨a,b,f,c,g⟩|⟨a,b,f,c,g,j⟩|⟨a,b,f,c,g⟩|⟨a,b,c,g⟩
 . exact ⟨6,.inl a,.inl ⟨rfl,b,f,k c⟩⟩
 . exact ⟨7,.inl a,.inr (.inl ⟨rfl,b,f,i.2 c,g⟩)⟩
 . exact ⟨8,.inl a,.inr (.inr (.inl ⟨rfl,b,f,i.2 c,g,j⟩))⟩
 . exact ⟨10,.inl a,.inr (.inr (.inr (.inl ⟨rfl,b,f,i.2 c,g⟩)))⟩
 . exact ⟨0,.inr ⟨a,rfl⟩,.inr (.inr (.inr (.inr ⟨rfl,b,i.2 c,g⟩)))⟩
def Sd (w:Z2) (q:Nat) (Q:List (ByteArray×Z1)) (x:ByteArray) (d:List Nat) (n:Int) (e:Ending) (w':Z2):Prop:=
 (n≠0/\n≠10/\e=Z6 (Z8 Z9 n)/\w'=w)\/((n=0\/n=10)/\Kv w q Q x d e w')
theorem MC (i:oN w q rb rv Q) (s:Q.length<=1000) (r:jf wx Q xs) (k:∀ o∈Q,ld o.2) {ao:Option Addr} {c m:Nat} (l:d.length=m) (j:Bs w (.slice ao m c) d) (p:OP n D t xs A x d t' xs') :
 Calls ZZ 34 #[Z7 (Z3 ⟨q,0,Z4⟩),Z5 x,.slice ao m c] w (Sd w q Q x d n):=by
 subst l;have g:=kM r x;rcases p with ⟨rfl,_,_,a⟩|⟨rfl,_,_,a,b⟩|⟨rfl,_,_,a,b,f⟩|⟨rfl,_,_,a,b,f,_⟩|⟨rfl,_,a,b,f,_⟩
 . exact (GJ q x ao _ c a w).mono λe w' h=>.inl ⟨by decide,by decide,h.1,h.2⟩
 . exact (GK q x ao _ c a b w).mono λe w' h=>.inl ⟨by decide,by decide,h.1,h.2⟩
 . exact (Bj i (by omega) x ao _ c a b (λh=>g.1 h f)).mono λe w' h=>.inl ⟨by decide,by decide,h.1,h.2⟩
 . exact (ED i (by omega) k x ao c d j b a (g.2 f)).mono λe w' h=>.inr ⟨.inr rfl,h⟩
 . exact (ED i (by omega) k x ao c d j b a (g.2 f)).mono λe w' h=>.inr ⟨.inl rfl,h⟩
theorem G7 (h:aM w b l):tR w b:=λoff u c=>by
 have f:=h.heap;simp only [World.cell?,f] at c;have:u∈(l.map (λx=>Value.int .u8 ((x:Nat):Int))):=by
  have a:=c;simp at a;obtain ⟨x,g,rfl⟩:=a;obtain ⟨d,e⟩:=List.getElem?_eq_some_iff.1 g;exact List.mem_map.2 ⟨x,e▸Ts d,rfl⟩
 obtain ⟨x,_,rfl⟩:=List.mem_map.1 this;exact ⟨λy e=>(by cases e),λs e=>(by cases e)⟩
theorem aM.bs {m:Nat} (h:aM w b (l++[71,72])) (d:l.length=m) (f:l.length<=1000000) (e:∀ x∈l,x<256):Bs w (.slice (Z3 ⟨b,0,Z4⟩) m (m+2)) l:=by
 subst d;have:=Bs.of_row (n:=l.length) h (by simp) (by omega) (by intro x c;rcases List.mem_append.1 c with q|q;exact e x q;simp at q;omega);have a:(l++[71,72]).length=l.length+2:=by simp
 rw [a,List.take_left'] at this;exact this;rfl
theorem KU (a:jf w Q xs) {D nb m t t':Nat} {xs':bg} {A:aB} {x:ByteArray} {d:List Nat} (p:A.nb=nb) (o:d.length=m) (k:1<=D) (f:D<=6) (l:∀ x∈xs,kX D x) (h:OP 10 D t xs A x d t' xs'):(nb:Int)-8<(jz Q D (m:Int):Int):=by
 rcases h with ⟨e,_⟩|⟨e,_⟩|⟨e,_⟩|⟨_,_,_,_,i,_,j⟩|⟨e,_⟩
 . cases e
 . cases e
 . cases e
 . have g:=DA k f l (n:=d.length) (nb:=A.nb) i rfl rfl j;have b:bN Q (D*44) Q.length=qD D xs:=(by unfold bN;rw [List.take_length];exact a.stripes D);have c:jz Q D (m:Int)=qD D xs+(m/(D*44)+1)+2*((xs.length+1)*200/(D*44)+1):=by
    unfold jz;rw [if_pos (by omega),Int.toNat_natCast,b,a.len]
   rw [o] at g;rw [c];omega
 . cases e
theorem KV (h:MB w0 w wb D L G nb t xs p r sa ar v Kind ok ps pg ob P A F out want cache) (hc:Dc wz w r Q xs out want) (o:oS) (dv:Z1) (i:Bs w0 dv o.d) (xd:o.d.length<=100000) (xh:t+1<=1000000) (x9:D<=6) :
 Calls ZZ 16 #[Z7 (Z3 ⟨wb,0,Z4⟩),.agg #[Z8 Z9 o.kind,Z8 Z9 o.a,Z5 o.s,dv]] w λe w'=>e=Z6 (.bool true)/\MS Kind ok (λ_ _=>True) wz w0 w' wb D L G nb (t+1):=by
 obtain ⟨da,dc,xe,_⟩:=id i;subst xe;have x:=i.lt;obtain ⟨m,f⟩:=nM (o.d.length);rw [f] at i xd ⊢;obtain ⟨w1,qn⟩:=nM (w.alloc (.cells #[Z8 Z9 o.kind,Z8 Z9 o.a,Z5 o.s,.slice da m dc] 40));have C:kN w1 w.heap.size o (.slice da m dc):=by rw [<- qn];exact heap_alloc_last w _
 have qc:Z0 w.heap.size w w1:=by rw [<- qn];exact bA w _
 have l:=h.below qc;have N:=hc.keep (gY.below qc _) lR;obtain ⟨S,kk⟩:=nM (w.heap.size);have R:S<w1.heap.size:=by rw [<- kk];exact aw.lt C
 have W:ar<S:=by rw [<- kk];exact h.live.arc.lt
 have z:∀ k,F.has p A.n k->k<S:=λk hk=>by rw [<- kk];exact h.live.vol.arr.has_lt hk
 have X:v<S:=by rw [<- kk];exact h.live.vol.vol.lt
 rw [kk] at C;have x3:=C.cells.2.2.2;have qk:=EX _ o.d w1 (i.mono l.base) (by omega);rw [f] at qk;have H1:=hide10 C l N i x f R W z X;have HQ:=hide kk;clear C l N i x f R W z X h hc qc;go_enter Tryz.func16,Tryz.ntmps16;go_wp2_with fail;clear kk;refine qk.mono ?_;rintro e w2 ⟨rb,rfl,Z,ka,kb⟩;clear qk qn x3;obtain ⟨C,l,N,i,x,f,R,W,z,X⟩:=H1.out;have kr:kN w2 S o (.slice da m dc):=aw.keep C (kb.block _ R);have h2:=l.below kb;have y2:=kr.cells.2.2.1;have s2:=h2.wbA.cells.2.2.2.2.1;have kx:Z0 w2.heap.size w2 w2.drew:=(Below.refl _ w2).drew;have qa:=h2.below kx;have kj:=QM qa.box qa.live o.s rb 0 (m+2) o.d (λw' hO=>by
  rw [f];have x8:aM w' rb (o.d++[71,72]):=World.rowIs.of_block ka (hO.block rb ka.lt (λe=>by have:=z _ e;omega));exact x8.bs f (by omega) x) (by omega) xh
 rw [f] at kj;have H2:=hide6 kr h2 kb ka Z kx;clear C l N i x f R W z X kr h2 kb ka Z kx qa;go_upto_region 2 with fail;go_cut [6] from 12 to 82 (λv6 wx=>eI w2.drew ar v p ps D L G A F (DM D t xs A o.s o.d) (Z6 v6) wx)
 case first=>
  go_region_with (go_at_call 32;refine kj.mono ?_;rintro e w3 qh;obtain ⟨rr,_,_,_,_,_,_,rfl,_⟩:=id qh;have H3:=hide qh;clear qh);all_goals (go_wp2_with fail;go_meet;case rel=>exact H3.out)
 case rest=>
  obtain ⟨rr,t',xo,qr,P',xs',B,he,_,qy,kc,E,qp,qs⟩:=hcut;cases he;obtain ⟨n,hN,u⟩:=MA qs;obtain ⟨C,l,N,i,x,f,R,W,z,X⟩:=H1.out;obtain ⟨kr,h2,kb,ka,Z,kx⟩:=H2.out;have ko:=kb.size;have hs:aa (λj=>j=ar\/F.has p A.n j) w2 wc:=(aa.of_all kx _).trans qp;obtain ⟨h3,qx⟩:=h2.call hs qy kc E;have ks:kN wc S o (.slice da m dc):=aw.keep kr (hs.block _ (by omega) (λe=>by
   rcases e with e|e
   . omega
   . have:=z _ e;omega))
  have kz:aM wc rb (o.d++[71,72]):=World.rowIs.of_block ka (hs.block rb ka.lt (λe=>by
   rcases e with e|e
   . omega
   . have:=z _ e;omega))
  have x2:=tZ hN h3.gl;have x5:=hs.size;have k0:gY w1.heap.size w1 wc:=(gY.below kb _).trans (qx.mono ko);have H3:=hide8 ks h3 kz k0 u (Tp ko x5) kc E;clear hN u C l N i x f R W z X kr h2 kb ka Z kx ko hs h3 qx ks kz x5 k0 qy kc E qp qs kj y2 s2;go_wp2_with fail;refine x2.mono ?_;rintro e w4 ⟨rfl,kv⟩;clear x2;obtain ⟨C,l,N,i,x,f,R,W,z,X⟩:=H1.out;obtain ⟨ks,h3,kz,k0,u,q7,kc,E⟩:=H3.out;have Z:=H2.out.2.2.2.2.1;have c:=h3.below kv;have kg:kN w4 S o (.slice da m dc):=aw.keep ks (kv.block _ (aw.lt ks));have kf:aM w4 rb (o.d++[71,72]):=kz.below kv;have qm:=EY rb _ o.d w4 kf (i.mono c.base) (by omega);rw [f] at qm;have x4:=kg.cells.2.2.2;have H4:=hide5 kg c kf (k0.trans (gY.below kv _)) (Tp q7 kv.size);clear C l N i x f R W z X ks h3 kz k0 u q7 kc E Z kg kf c kv;go_wp2_with fail;refine qm.mono ?_;rintro e U ⟨rfl,ky,_⟩;clear qm x4;obtain ⟨C,l,N,i,x,f,R,W,z,X⟩:=H1.out;obtain ⟨kg,c,kf,q3,qo⟩:=H4.out;obtain ⟨_,_,_,_,u,_,kc,E⟩:=H3.out;have Z:=H2.out.2.2.2.2.1;have hf:∀ j,j≠rb->j<w4.heap.size->U.heap[j]?=w4.heap[j]?:=λj hj hl=>ky.block j hl (λe=>hj (by cases e;rfl));have kp:=ky.size;have qz:=c.live.aside (w':=U) (b:=rb) (B:=w1.heap.size) (G7 kf) (by obtain ⟨cs,xc,_⟩:=kf;exact eG c.live.kit xc zh) kp hf Z (λk hk=>by rw [kc] at hk;have:=z k hk;omega) (by omega) (by omega) (by have:=l.live.vol.room;exact this);have q4:gY w1.heap.size w4 U:=λT _ j cs hj hq=>hf j (by omega) (by omega);have q1:Z0 w0.heap.size w0 U:=c.base.trans ⟨ky.os,ky.tape,ky.output,kp,λj hj=>hf j (by have:=l.base.size;omega) (Tm hj c.base.size)⟩;have q6:U.heap[wb]?=w4.heap[wb]?:=hf wb (by have:=l.lt;omega) (aw.lt c.wbA);have K:MB w0 U wb D L G nb t' xs' p r sa ar v Kind ok ps xo qr P' B F out want cache:=⟨aw.keep c.wbA q6,(hf sa (by have:=l.box.lt;omega) c.box.lt).trans c.box,qz,c.nb,q1,c.glob,c.hK,c.wbB,c.lt,c.fB,c.vB,c.kB,c.shv⟩;have I:kN U S o (.slice da m dc):=aw.keep kg (hf S (by omega) (aw.lt kg));have y:=N.keep (q3.trans q4) lR;obtain ⟨y1,y4,x1⟩:=y.ref;have V:Q.length<=1000:=by
   rw [y.rel.len];have:=l.live.few.1;simpa [bg.os] using this
  have qv:=wB x1 (by omega) y.rel.sl;have r5:=K.wbA.cells.2.2.2.2.2.1;have H5:=hide4 I K y V;clear C l N i x f R W z X kg c kf q3 qo u kc E Z hf kp qz q4 q1 q6 K I y x1 V ky;go_wp2_with fail;refine qv.mono ?_;rintro e w6 ⟨rfl,⟨u6,ke⟩,M⟩;clear qv r5;obtain ⟨I,K,y,V⟩:=H5.out;obtain ⟨_,_,_,i,x,f,_,_,_,_⟩:=H1.out;have u:=H3.out.2.2.2.2.1;have h6:=K.below M;have kh:kN w6 S o (.slice da m dc):=aw.keep I (M.block _ (aw.lt I));have qi:=MC ke V y.rel y.rel.sl f (i.mono h6.base) u;obtain ⟨_,_,y6,x6⟩:=kh.cells;obtain ⟨q5,km⟩:=nM (U.heap.size);rw [km] at qi ke ⊢;have H6:=hide5 kh h6 ke M km;clear I K y V i x f u h6 kh ke M km;go_wp2_with fail;refine qi.mono ?_;rintro e g xg;clear qi y6 x6;obtain ⟨kh,h6,ke,M,km⟩:=H6.out;obtain ⟨I,K,y,V⟩:=H5.out;have u:=H3.out.2.2.2.2.1;have E:=H3.out.2.2.2.2.2.2.2;rcases xg with ⟨n0,xx,rfl,rfl⟩|⟨hn,rfl,u7,xm,qj,qf,qb⟩
  . have hh:t'=t/\xs'=xs:=by
     rcases u with ⟨_,J,Y,_⟩|⟨_,J,Y,_⟩|⟨_,J,Y,_⟩|⟨_,J,Y,_⟩|⟨e,_⟩
     . exact ⟨J,Y⟩
     . exact ⟨J,Y⟩
     . exact ⟨J,Y⟩
     . exact ⟨J,Y⟩
     . exact absurd e n0
    obtain ⟨rfl,rfl⟩:=hh;have hh:MS Kind ok (λ_ _=>True) wz w0 g wb D L G nb (t'+1):=⟨_,_,_,_,_,_,_,_,_,_,_,_,_,_,_,_,_,h6,y.keep (gY.below M _) lR,by omega,trivial⟩;have HF:=hide hh;clear hh kh h6 ke M km I K y V u E;go_wp2_with fail;refine (od n g).mono ?_;rintro e w8 ⟨rfl,rfl⟩;go_wp2;go_ret;exact ⟨rfl,HF.out⟩
  . have ki:Z0 U.heap.size w6 g:=qb.below λk hk=>⟨Tm hk M.size,by omega⟩;have hv:Z0 U.heap.size U g:=M.trans ki;have H:=K.below hv;have O:=y.keep (gY.below hv _) lR;rcases hn with rfl|rfl
    . have hb:t'=t+1/\∃ ob,ob.name=o.s/\xs'=xs.ins (ob,o.d)/\o.d.length<=1500:=by
       rcases u with ⟨e,_⟩|⟨e,_⟩|⟨e,_⟩|⟨e,_⟩|⟨_,J,_,e3,_,qr,e4,e5⟩
       . cases e
       . cases e
       . cases e
       . cases e
       . exact ⟨J,qr,e4,e5,e3⟩
      obtain ⟨rfl,xk,qg,rfl,qe⟩:=hb;have x:=H1.out.2.2.2.2.1;have q8:=H.wbA;have r7:=q8.cells.2.2.2.2.2.1;have f7:=aw.thaw q8 5;have hN:∀ w8,w8=g.setCell ⟨wb,5,Z4⟩ (Z7 (Z3 ⟨q5,0,Z4⟩))->MS Kind ok (λ_ _=>True) wz w0 w8 wb D L G nb (t+1):=by
       rintro w8 rfl;have xa:aa (λj=>j=wb) g (g.setCell ⟨wb,5,Z4⟩ (Z7 (Z3 ⟨q5,0,Z4⟩))):=aa.setCell _ _ _ rfl;have xb:nB (g.setCell ⟨wb,5,Z4⟩ (Z7 (Z3 ⟨q5,0,Z4⟩))) wb D L G (Z7 (Z3 ⟨p,0,Z4⟩)) (Z7 (Z3 ⟨sa,0,Z4⟩)) (Z7 (Z3 ⟨q5,0,Z4⟩)) nb out want cache:=aw.set q8 5 [Z7 (Z3 ⟨q5,0,Z4⟩)] (by simp [PP]);obtain ⟨h8,xf⟩:=H.write xa xb;have hrel:jf g (Q.take (aF (cy Q) o.s)++(o.s,xm)::Q.drop (aF (cy Q) o.s)) (xs.ins (xk,o.d)):=by
        unfold bg.ins;rw [O.rel.names,qg];exact (O.rel.take _).app ⟨⟨qg.symm,⟨_,qf⟩,x,qe⟩,O.rel.drop _⟩
       have qd:Dc wz g q5 (Q.take (aF (cy Q) o.s)++(o.s,xm)::Q.drop (aF (cy Q) o.s)) (xs.ins (xk,o.d)) out want:=⟨O.op,⟨_,u7,qj⟩,hrel,O.ow⟩;exact ⟨_,_,_,_,_,_,_,_,_,_,_,_,_,_,_,_,_,h8,qd.keep xf lR,Tn _,trivial⟩
      have HN:=hide hN;clear hN kh h6 ke M km I K y V u E qj qf qb ki hv H O q8 x qg;go_wp2_with fail;refine (od 0 _).mono ?_;rintro e w8 ⟨rfl,rfl⟩;go_wp2;go_ret;exact ⟨rfl,HN.out _ rfl⟩
    . have hb:t'=t/\xs'=xs:=by
       rcases u with ⟨e,_⟩|⟨e,_⟩|⟨e,_⟩|⟨_,J,Y,_⟩|⟨e,_⟩
       . cases e
       . cases e
       . cases e
       . exact ⟨J,Y⟩
       . cases e
      obtain ⟨rfl,rfl⟩:=hb;have f:=H1.out.2.2.2.2.2.1;have hh:MS Kind ok (λ_ _=>True) wz w0 g wb D L G nb (t'+1):=⟨_,_,_,_,_,_,_,_,_,_,_,_,_,_,_,_,_,H,O,by omega,trivial⟩;have xi:=KU O.rel (A:=A) (E.1.symm.trans H.nb) f H.live.par.d1 x9 H.live.disk.fits u;obtain ⟨c0,_,_,_,_,c5,c6,_⟩:=H.wbA.cells;have qq:kN g S o (.slice da m dc):=aw.keep I (hv.block _ (aw.lt I));have x7:=qq.cells.2.2.2;obtain ⟨y3,y5,q9⟩:=O.ref;have x0:∀ k,Calls ZZ 24 #[Z7 (Z3 ⟨r,0,Z4⟩),Z8 Z9 D,Z8 Z9 m] (g.drewN k) λe w'=>e=Z6 (Z8 Z9 (jz Q D (m:Int):Nat))/\w'=g.drewN k:=λk=>by
       have q2:Z0 g.heap.size g (g.drewN k):=⟨rfl,rfl,rfl,Tn _,λ_ _=>rfl⟩;exact (DI ⟨(q2.block _ (To.1 q9.top).1).trans q9.top,aA q9.own q2⟩ V O.rel.sl D H.live.par.d1 (by omega) (m:Int) (by omega) (by omega)).mono λe w' q=>⟨q.2,q.1⟩
      generalize jz Q D (m:Int)=nn at *;have HF:=hide2 hh x0;have xj:IntKind.i64.wrap ((nb:Int)-8)=(nb:Int)-8:=(by rw [IntKind.wrap_i64];have:=H.nb;have:=H.live.nb;omega);clear hh x0 kh h6 ke M km I K y V u E qj qf qb ki hv H O f qq q9;go_upto_region 8 with fail;go_quiet ((go_at_call 24;refine Calls.quiet_of_same (HF.out.2 _)));go_wp2;go_ret;obtain ⟨t1,y8,Q1,p1,r1,y7,xv,v1,y0,xz,xy,P1,A1,F1,xq,xp,xn,hM,hC,hT⟩:=HF.out.1;have q2:Z0 g.heap.size g (g.drewN nq):=⟨rfl,rfl,rfl,Tn _,λ_ _=>rfl⟩;exact ⟨rfl,_,_,_,_,_,_,_,_,_,_,_,_,_,_,_,_,_,hM.below q2,hC.keep (gY.below q2 _) lR,hT⟩
structure Se (wz w0 w w1:Z2) (wb D L G nb t:Nat) (xs:bg) (Q:List (ByteArray×Z1)) (p r sa ar v:Nat) (Kind:dD->Prop) (ok:Nat->Prop) (ps:dD) (pg ob:Z1) (P:List Nat) (A:aB) (F:bx) (out want:Z1) (cache:Int) (o:oS) (dv:Z1):Prop where
 op:kN w1 w.heap.size o dv
 b:MB w0 w1 wb D L G nb t xs p r sa ar v Kind ok ps pg ob P A F out want cache
 c:Dc wz w1 r Q xs out want
 ar:ar<w.heap.size
 f:∀ k,F.has p A.n k->k<w.heap.size
 lt:w.heap.size<w1.heap.size
theorem PX (h:MB w0 w wb D L G nb t xs p r sa ar v Kind ok ps pg ob P A F out want cache) (f:Dc wz w r Q xs out want) (o:oS) (b:Z1) {w1:Z2} (e:w.alloc (.cells #[Z8 Z9 o.kind,Z8 Z9 o.a,Z5 o.s,b] 40)=w1):Se wz w0 w w1 wb D L G nb t xs Q p r sa ar v Kind ok ps pg ob P A F out want cache o b:=by
 have d:Z0 w.heap.size w w1:=by rw [<- e];exact bA w _
 have c:kN w1 w.heap.size o b:=by rw [<- e];exact heap_alloc_last w _
 exact ⟨c,h.below d,f.keep (gY.below d _) lR,h.live.arc.lt,λk g=>h.live.vol.arr.has_lt g,aw.lt c⟩
theorem MS.mono {X:bg->aB->Prop} {T T':Nat} (h:MS Kind ok X wz w0 w wb D L G nb T) (e:T<=T'):MS Kind ok X wz w0 w wb D L G nb T':=by
 obtain ⟨t,xs,Q,p,r,sa,ar,v,ps,pg,ob,P,A,F,out,want,cache,a,b,d,c⟩:=h;exact ⟨t,xs,Q,p,r,sa,ar,v,ps,pg,ob,P,A,F,out,want,cache,a,b,by omega,c⟩
section
def PZ (n:Int) (t:Nat) (xs:bg) (x:ByteArray) (t':Nat) (xs':bg):Prop:=
 (n=6/\t'=t/\xs'=xs/\¬ bX x)\/(n=9/\t'=t/\xs'=xs/\bX x/\x∉xs.names)\/(n=0/\t'=t+1/\bX x/\x∈xs.names/\xs'=xs.del (aF xs.names x))
theorem MD {B:aB} {r:Z1} (h:DN t xs x r t' xs' B w):∃ n,P9 r n/\PZ n t xs x t' xs':=by
 have f:=nD x;rcases h with ⟨a,b,d,c⟩|⟨a,b,d,c,e⟩|⟨a,b,c,e⟩
 . exact ⟨6,.inl a,.inl ⟨rfl,b,d,λq=>by rw [f,c] at q;cases q⟩⟩
 . exact ⟨9,.inl a,.inr (.inl ⟨rfl,b,d,f.2 c,e⟩)⟩
 . exact ⟨0,.inr ⟨a,rfl⟩,.inr (.inr ⟨rfl,b,f.2 c,e⟩)⟩
theorem OR {n0:Nat} {e:Ending} (i:oN w q rb rv Q) (h:PR w q Q x e w') (r:PZ n t xs x t' xs') (d:jf wx Q xs) (l:Up xs.names) (s:n0<=q) (y:n0<=w.heap.size) :
 e=Z6 (Z8 Z9 n)/\Z0 n0 w w'/\n≠10/\∃ g,(∃ rb rv,oN w' q rb rv g)/\∀ f,jf f Q xs->jf f g xs':=by
 have p:=kM d x;rcases r with ⟨rfl,_,rfl,a⟩|⟨rfl,_,rfl,a,c⟩|⟨rfl,_,a,c,rfl⟩
 . rcases h with ⟨_,b,rfl⟩|⟨q,_⟩|⟨q,_⟩
   . exact ⟨b,Below.refl _ _,by decide,Q,⟨_,_,i⟩,λ_ z=>z⟩
   . exact absurd q a
   . exact absurd q a
 . rcases h with ⟨q,_⟩|⟨_,_,b,rfl⟩|⟨_,k,q,_⟩
   . exact absurd a q
   . exact ⟨b,Below.refl _ _,by decide,Q,⟨_,_,i⟩,λ_ z=>z⟩
   . exact absurd (fV d l q).2.2 c
 . rcases h with ⟨q,_⟩|⟨_,q,_⟩|⟨_,k,q,b,⟨u,o⟩,m⟩
   . exact absurd a q
   . exact absurd c (p.1 q)
   . refine ⟨b,m.below λj v=>⟨by omega,by omega⟩,by decide,_,⟨_,u,o⟩,λf z=>?_⟩;rw [(fV d l q).1];exact (z.take k).app (z.drop (k+1))
section
variable {wz w0 w:Z2} {wb D L G nb t:Nat} {xs:bg} {Q:List (ByteArray×Z1)} {p r sa ar v:Nat} {Kind:dD->Prop} {ok:Nat->Prop} {ps:dD} {pg ob:Z1} {P:List Nat} {A:aB} {F:bx} {out want:Z1} {cache:Int}
theorem KY (h:MB w0 w wb D L G nb t xs p r sa ar v Kind ok ps pg ob P A F out want cache) (hc:Dc wz w r Q xs out want) (o:oS) (dv:Z1) (km:∃ x m y,dv=.slice x m y) (ks:t+1<=1000000) (hk:o.kind=3) :
 Calls ZZ 11 #[Z7 (Z3 ⟨wb,0,Z4⟩),.agg #[Z8 Z9 o.kind,Z8 Z9 o.a,Z5 o.s,dv]] w λe w'=>e=Z6 (.bool true)/\MS Kind ok (λ_ _=>True) wz w0 w' wb D L G nb (t+1):=by
 obtain ⟨x,m,y,rfl⟩:=km;obtain ⟨w1,k6⟩:=nM (w.alloc (.cells #[Z8 Z9 o.kind,Z8 Z9 o.a,Z5 o.s,.slice x m y] 40));have d:=PX h hc o _ k6;have K:Z0 w1.heap.size w1 w1.drew:=(Below.refl _ w1).drew;have hz:=d.b.below K;have hn:=Mn hz.box hz.live o.s ks;obtain ⟨x0,x1,x2,x3⟩:=d.op.cells;have s1:=d.b.wbA.cells.2.2.2.2.1;obtain ⟨q0,H⟩:=nM (w.heap.size);have HS:=hide2 d H;clear d h hc K hz;rw [hk] at x0 k6 ⊢;rw [H] at x0 x1 x2 x3;have HK:=hide hk;clear hk;go_enter Tryz.func11,Tryz.ntmps11;go_upto_region 13 with fail;clear H k6 x0 x1 x3;go_cut [11] from 21 to 233 (λv11 wx=>eI w1.drew ar v p ps D L G A F (DN t xs o.s) (Z6 v11) wx)
 case first=>
  go_region_with (go_at_call 21;refine hn.mono ?_;rintro e w2 k0;obtain ⟨rr,_,_,_,_,_,_,rfl,_⟩:=id k0;have l:=hide k0;clear k0);all_goals (go_wp2_with fail;go_meet;case rel=>exact l.out)
 case rest=>
  obtain ⟨rr,t',hd,hb,P',xs',B,he,_,kg,kh,hq,k7,k9⟩:=hcut;cases he;obtain ⟨n,hN,N⟩:=MD k9;obtain ⟨d,H⟩:=HS.out;have K:Z0 w1.heap.size w1 w1.drew:=(Below.refl _ w1).drew;have Y:aa (λj=>j=ar\/F.has p A.n j) w1 wc:=(aa.of_all K _).trans k7;obtain ⟨z,kf⟩:=d.b.call Y kg kh hq;have E:=d.c.keep kf lR;have U:=d.b.live.disk.up;have J:Q.length<=1000000:=by
   rw [E.rel.len];have:=d.b.live.few.1;have e:xs.os.length=xs.length:=(by simp [bg.os]);omega
  have C:kN wc q0 o (.slice x m y):=by
   rw [<- H];exact aw.keep d.op (Y.block _ d.lt (λe=>by
    rcases e with e|e
    . have:=d.ar;omega
    . have:=d.f _ e;omega))
  have kj:=tZ hN z.gl;have l:=hide6 z E C N U J;clear d H K Y z kf E C hN N U J kg kh hq k7 k9 hn x2 s1;go_wp2_with fail;refine kj.mono ?_;rintro e V ⟨rfl,R⟩;clear kj;obtain ⟨z,E,C,N,U,J⟩:=l.out;have k:=z.below R;have g:=E.keep (gY.below R _) lR;have i:kN V q0 o (.slice x m y):=aw.keep C (R.block _ (aw.lt C));obtain ⟨kv,kx,ki⟩:=g.ref;have kc:=wB ki J g.rel.sl;have r3:=k.wbA.cells.2.2.2.2.2.1;have H3:=hide3 k g i;clear z E C N U J k g i ki R;go_wp2_with fail;refine kc.mono ?_;rintro e w4 ⟨rfl,⟨u4,u⟩,q⟩;clear kc r3;obtain ⟨k,g,i⟩:=H3.out;have k5:=Bi u l.out.2.2.2.2.2 g.rel.sl o.s;have k8:kN w4 q0 o (.slice x m y):=aw.keep i (q.block _ (aw.lt i));have y4:=k8.cells.2.2.1;obtain ⟨M,I⟩:=nM (V.heap.size);rw [I] at k5 u ⊢;have H4:=hide3 u q I;clear k g i k8 u q I;go_wp2_with fail;refine k5.mono ?_;rintro e W ke;clear k5 y4;obtain ⟨u,q,I⟩:=H4.out;obtain ⟨k,g,i⟩:=H3.out;obtain ⟨ko,kb,kr,Q',ka,h4⟩:=OR u ke l.out.2.2.2.1 g.rel l.out.2.2.2.2.1 (Nat.le_of_eq I) q.size;subst ko;have Z:Z0 V.heap.size V W:=q.trans kb;have X:=k.below Z;have T:=g.keep (gY.below Z _) lR;have O:=X.wbA;have r5:=O.cells.2.2.2.2.2.1;have f5:=aw.thaw O 5;have hp:MS Kind ok (λ_ _=>True) wz w0 (W.setCell ⟨wb,5,Z4⟩ (Z7 (Z3 ⟨M,0,Z4⟩))) wb D L G nb (t+1):=by
   have hW:nB (W.setCell ⟨wb,5,Z4⟩ (Z7 (Z3 ⟨M,0,Z4⟩))) wb D L G (Z7 (Z3 ⟨p,0,Z4⟩)) (Z7 (Z3 ⟨sa,0,Z4⟩)) (Z7 (Z3 ⟨M,0,Z4⟩)) nb out want cache:=aw.set O 5 [Z7 (Z3 ⟨M,0,Z4⟩)] (by simp [PP]);obtain ⟨h6,kp⟩:=X.write (aa.setCell (S:=λj=>j=wb) _ ⟨wb,5,Z4⟩ _ rfl) hW;have kk:Dc wz W M Q' xs' out want:=⟨T.op,ka,h4 _ T.rel,T.ow⟩;have ht:t'<=t+1:=by rcases l.out.2.2.2.1 with ⟨_,e,_⟩|⟨_,e,_⟩|⟨_,e,_⟩<;>omega
   exact ⟨_,_,_,_,_,_,_,_,_,_,_,_,_,_,_,_,_,h6,kk.keep kp lR,ht,trivial⟩
  have HF:=hide hp;clear hp u q I k g i kb ka h4 Z X T O ke;go_wp2_with fail;refine (od n _).mono ?_;rintro e w8 ⟨rfl,rfl⟩;go_wp2;go_ret;exact ⟨rfl,HF.out⟩
end
end
section
def M4 (w:Z2) (g:Nat) (os:List Ob) (i:Z1) (wr:Z2):Prop:=
 ∃ k:Nat,k<=os.length/\i=Z8 Z9 (k:Nat)/\Z0 w.heap.size w wr/\∃ cur:List Z1,aw wr g 78 cur/\os.length*2<=cur.length/\∀ j (hj:j<os.length),k<=j->cur[j*2]?=Z3 (Z5 os[j].name)/\cur[j*2+1]?=Z3 (Z8 Z9 (os[j].size:Nat))
theorem BG:∀ (os:List Ob) (j:Nat) (a:j<os.length),(lS os)[j*2]?=Z3 (Z5 os[j].name)/\(lS os)[j*2+1]?=Z3 (Z8 Z9 (os[j].size:Nat))
 | [],j,a=>absurd a (by simp)
 | o::os,0,_=>⟨rfl,rfl⟩
 | o::os,j+1,a=>by
  have e:lS (o::os)=[Z5 o.name,Z8 Z9 (o.size:Nat)]++lS os:=by unfold lS;rw [List.flatMap_cons];rfl
  obtain ⟨b,c⟩:=BG os j (by simpa using a);rw [e];refine ⟨?_,?_⟩
  . rw [Tq (by simp;omega),show (j+1)*2-[Value.string o.name,Z8 Z9 (o.size:Nat)].length=j*2 by simp;omega];exact b
  . rw [Tq (by simp;omega),show (j+1)*2+1-[Value.string o.name,Z8 Z9 (o.size:Nat)].length=j*2+1 by simp;omega];exact c
theorem M4.start {base n:Nat} (h:wr.ownsRow base 78 2 u n (lS os)) (p:os.length=n) (s:0<n) (m:Z0 w.heap.size w wr) (t:w.heap.size<=base):∃ g cap,u=.slice (Z3 ⟨g,0,Z4⟩) n cap/\w.heap.size<=g/\M4 w g os (Z8 Z9 0) wr:=by
 rcases h.2 with ⟨_,e⟩|⟨g,cap,cur,c,q,d,f,r,i,k⟩
 . omega
 . refine ⟨g,cap,c,by omega,0,Nat.zero_le _,rfl,m,cur.toList,?_,?_,λj o _=>?_⟩
   . unfold aw;rw [d,Array.toArray_toList]
   . have l:cur.toList.length=cap*2:=(by rw [Array.length_toList];exact i);rw [l,p];exact Nat.mul_le_mul_right 2 f
   . obtain ⟨a,b⟩:=BG os j o;have v:j*2+1<n*2:=(by omega);rw [<- k] at a b;rw [List.getElem?_take_of_lt (by omega)] at a b;exact ⟨a,b⟩
theorem M4.next {g k:Nat} {cur:List Z1} (x y:Z1) (s:k<os.length) (h:Z0 w.heap.size w wr) (a:w.heap.size<=g) (m:aw wr g 78 cur) (t:os.length*2<=cur.length) (l:∀ j (b:j<os.length),k<=j->cur[j*2]?=Z3 (Z5 os[j].name)/\cur[j*2+1]?=Z3 (Z8 Z9 (os[j].size:Nat))):M4 w g os (Z8 Z9 ((k:Int)+1)) ((wr.setCell ⟨g,k*2,Z4⟩ x).setCell ⟨g,k*2+1,Z4⟩ y):=by
 have d:=aw.set m (k*2) [x,y] (by simp;omega);have c:Z0 w.heap.size w ((wr.setCell ⟨g,k*2,Z4⟩ x).setCell ⟨g,k*2+1,Z4⟩ y):=(h.setCell (p:=⟨g,k*2,Z4⟩) a _).setCell (p:=⟨g,k*2+1,Z4⟩) a _;refine ⟨k+1,by omega,rfl,c,_,d,?_,λj b q=>?_⟩
 . simp only [Tt,Tu,List.length_drop,List.length_cons,List.length_nil];omega
 . obtain ⟨n,o⟩:=l j b (by omega);have e:∀ i,k*2+2<=i->(cur.take (k*2)++[x,y]++cur.drop (k*2+[x,y].length))[i]?=cur[i]?:=λi r=>by
    have f:(cur.take (k*2)++[x,y]).length=k*2+2:=(by rw [Tt,Tu];simp;omega);rw [Tq (by omega),f,List.getElem?_drop];congr 1;simp;omega
   exact ⟨(e _ (by omega)).trans n,(e _ (by omega)).trans o⟩
section
variable {wz w0 w:Z2} {wb D L G nb t:Nat} {xs:bg} {Q:List (ByteArray×Z1)} {p r sa ar v:Nat} {Kind:dD->Prop} {ok:Nat->Prop} {ps:dD} {pg ob:Z1} {P:List Nat} {A:aB} {F:bx} {out want:Z1} {cache:Int}
theorem G8 (h:MB w0 w wb D L G nb t xs p r sa ar v Kind ok ps pg ob P A F out want cache) (hc:Dc wz w r Q xs out want) (o:oS) (dv:Z1) (kc:∃ V m W,dv=.slice V m W) (H:o.kind=4) {X:bg->aB->Prop} (hX:X xs A) :
 Calls ZZ 11 #[Z7 (Z3 ⟨wb,0,Z4⟩),.agg #[Z8 Z9 o.kind,Z8 Z9 o.a,Z5 o.s,dv]] w λe w'=>e=Z6 (.bool true)/\MS Kind ok X wz w0 w' wb D L G nb (t+1):=by
 obtain ⟨V,m,W,rfl⟩:=kc;obtain ⟨w1,hz⟩:=nM (w.alloc (.cells #[Z8 Z9 o.kind,Z8 Z9 o.a,Z5 o.s,.slice V m W] 40));have d:=PX h hc o _ hz;have k8:=PW d.b.box d.b.live;obtain ⟨x0,x1,x2,x3⟩:=d.op.cells;have s1:=d.b.wbA.cells.2.2.2.2.1;have l:∀ w',Z0 w1.heap.size w1 w'->MS Kind ok X wz w0 w' wb D L G nb (t+1):=λw' hb=>⟨_,_,_,_,_,_,_,_,_,_,_,_,_,_,_,_,_,d.b.below hb,d.c.keep (gY.below hb _) lR,by omega,hX⟩;obtain ⟨rb,rv,n⟩:=d.c.ref;obtain ⟨N,f⟩:=nM (xs.os.length);have j:Q.length=N:=by rw [d.c.rel.len,<- f];simp [bg.os]
 have kb:N<=1000:=by rw [<- f];exact d.b.live.few.1
 have HS:=hide5 d l n f j;clear d h hc l n f j;rw [H] at x0 hz ⊢;have HK:=hide H;clear H;go_enter Tryz.func11,Tryz.ntmps11;go_wp2_with fail;clear hz x0 x1 x2 x3;refine k8.mono ?_;rintro e w2 ⟨u,rfl,x,E⟩;clear k8 s1;have H2:=hide2 x E;clear x E;go_wp2_with fail;refine (se w2).mono ?_;rintro e w3 ⟨rfl,S⟩;obtain ⟨d,l,n,f,j⟩:=HS.out;obtain ⟨x,E⟩:=H2.out;have B:Z0 w1.heap.size w1 w3:=x.trans (S.mono x.size);have J:=aA E S;rw [f] at J;have hq:nB w3 wb D L G (Z7 (Z3 ⟨p,0,Z4⟩)) (Z7 (Z3 ⟨sa,0,Z4⟩)) (Z7 (Z3 ⟨r,0,Z4⟩)) nb out want cache:=aw.keep d.b.wbA (B.block _ (aw.lt d.b.wbA));have r3:=hq.cells.2.2.2.2.2.1;have K:oN w3 r rb rv Q:=gY.ref n (gY.below B _) lR;have t3:=K.cell.1;by_cases O:N=0
 . have hu:∃ T U,u=.slice T 0 U:=by
    obtain ⟨T,U,e⟩:=fh J;exact ⟨T,U,by rw [e,O]⟩
   have kf:∃ y I,rv=.slice y 0 I:=by
    obtain ⟨y,I,e⟩:=fh K.own;exact ⟨y,I,by rw [e,j,O]⟩
   obtain ⟨T,U,rfl⟩:=hu;obtain ⟨y,I,rfl⟩:=kf;have M:=hide (l _ B);clear d l n f j x E S B J hq K O kb;go_wp2;refine wp_loop_rounds 1 ?_;rw [rounds_succ];go_wp2;go_ret;exact ⟨rfl,M.out⟩
 . obtain ⟨g,cap,rfl,hg,k0⟩:=M4.start J f (by omega) B lR;obtain ⟨y,I,ka⟩:=fh K.own;rw [j] at ka;subst ka;have M:=hide2 k0 hg;clear k0 hg d l n f j x E S B J hq K O;go_wp2_with fail;go_loopw [19] (λi wr=>M4 w1 g xs.os i wr) (λi _=>N-(intOf i).toNat)
   case atStart=>exact M.out.1
   case round=>
    clear r3 t3;obtain ⟨k,H,rfl,C,cur,q,Z,R⟩:=hrel;obtain ⟨d,l,n,f,j⟩:=HS.out;rw [f] at H;by_cases ki:k<N
    . have kh:(k:Int)<(N:Int):=(by omega);have hx:k<xs.os.length:=(by omega);have Y:k<xs.length:=by
       have e:xs.os.length=xs.length:=(by simp [bg.os]);omega
      obtain ⟨q1,q2⟩:=R k hx lR;have e1:=aw.cell q q1;have e2:=aw.cell q q2;have g1:=aw.thaw q (k*2);have g2:=aw.thaw q (k*2+1);have k6:nB wr wb D L G (Z7 (Z3 ⟨p,0,Z4⟩)) (Z7 (Z3 ⟨sa,0,Z4⟩)) (Z7 (Z3 ⟨r,0,Z4⟩)) nb out want cache:=aw.keep d.b.wbA (C.block _ (aw.lt d.b.wbA));have rr:=k6.cells.2.2.2.2.2.1;have hy:oN wr r rb (.slice y N I) Q:=gY.ref n (gY.below C _) lR;have tr:=hy.cell.1;obtain ⟨qn,qo⟩:=d.c.rel.at k (by omega) Y;obtain ⟨⟨ba,bn,bc,hs,_⟩,hv⟩:=qo.sl;rw [hs] at hv;have k7:bn=xs.os[k].size:=by
       have h1:=(d.b.live.disk.fits _ (Ts Y)).len;have h2:xs.os[k]=xs[k].1:=(by simp [bg.os]);rw [h2,<- h1];exact hv
      have k9:Q[k].1=xs.os[k].name:=(by rw [qn];simp [bg.os]);obtain ⟨z,kg,d1,d2⟩:∃ z,y=Z3 ⟨z,0,Z4⟩/\wr.cell? ⟨z,k*2,Z4⟩=Z3 (Z5 xs.os[k].name)/\wr.cell? ⟨z,k*2+1,Z4⟩=Z3 (.slice ba bn bc):=by
       rcases hy.shape with ⟨_,e⟩|⟨z,hd,e,_,_,hh⟩
       . rw [e] at j;simp at j;omega
       . simp only [Value.slice.injEq] at e;obtain ⟨c1,c2⟩:=hh k (by omega);rw [k9] at c1;rw [hs] at c2;exact ⟨z,e.1,c1,c2⟩
      subst kg;rw [k7] at d2;have k5:∀ m,M4 w1 g xs.os (Z8 Z9 ((k:Int)+1)) (((wr.drewN m).setCell ⟨g,k*2,Z4⟩ (.string ⟨#[109,105,110,101]⟩)).setCell ⟨g,k*2+1,Z4⟩ (Z8 Z9 0)):=λm=>M4.next _ _ hx (C.trans ⟨rfl,rfl,rfl,Tn _,λ_ _=>rfl⟩) M.out.2 (aw.keep q rfl) Z R;obtain ⟨nm,hi⟩:=nM (xs.os[k].name);obtain ⟨sz,hn⟩:=nM (xs.os[k].size);rw [hi] at e1 d1;rw [hn] at e2 d2;have HN:=hide k5;clear k5 C q Z R q1 q2 d l n f j k6 hy qn qo hs hv k7 k9 hi hn hx Y H;go_upto_region 30 with fail;go_quiet (fail);go_wp2;exact ⟨HN.out _,by simp [intOf];omega⟩
    . have ke:k=N:=(by omega);subst ke;have HB:=hide (l _ C);clear C q Z R d l n f j;go_wp2;go_ret;exact ⟨rfl,HB.out⟩
end
end
section
section
variable {wz w0 w:Z2} {wb D L G nb t:Nat} {xs:bg} {Q:List (ByteArray×Z1)} {p r sa ar v:Nat} {Kind:dD->Prop} {ok:Nat->Prop} {ps:dD} {pg ob:Z1} {P:List Nat} {A:aB} {F:bx} {out want:Z1} {cache:Int}
theorem G9 (h:MB w0 w wb D L G nb t xs p r sa ar v Kind ok ps pg ob P A F out want cache) (l:Dc wz w r Q xs out want) (o:oS) (i:Z1) (u:∃ f m g,i=.slice f m g) (n:o.kind<1) {X:bg->aB->Prop} (x:X xs A) :
 Calls ZZ 11 #[Z7 (Z3 ⟨wb,0,Z4⟩),.agg #[Z8 Z9 o.kind,Z8 Z9 o.a,Z5 o.s,i]] w λe w'=>e=Z6 (.bool true)/\MS Kind ok X wz w0 w' wb D L G nb (t+1):=by
 obtain ⟨f,m,g,rfl⟩:=u;obtain ⟨kd,j⟩:=nM (o.kind);obtain ⟨w1,k⟩:=nM (w.alloc (.cells #[Z8 Z9 o.kind,Z8 Z9 o.a,Z5 o.s,.slice f m g] 40));have d:=PX h l o _ k;obtain ⟨y,J,K,M⟩:=d.op.cells;have q:=hide (show MS Kind ok X wz w0 w1 wb D L G nb (t+1) from ⟨_,_,_,_,_,_,_,_,_,_,_,_,_,_,_,_,_,d.b,d.c,by omega,x⟩);clear d h l;rw [j] at y k n ⊢;have z:¬ kd=1:=by omega
 have B:¬ kd=2:=by omega
 have C:¬ kd=3:=by omega
 have E:¬ kd=4:=by omega
 have H:¬ kd=5:=by omega
 have I:¬ kd=6:=by omega
 clear n j;go_enter Tryz.func11,Tryz.ntmps11;go_wp2;go_ret;exact ⟨rfl,q.out⟩
end
end
theorem MB.zero (h:MB w0 w wb D L G nb t xs p r sa ar v Kind ok ps pg ob P A F out want cache) (a:aa (F.has p A.n) w w') (c:aq w' p (A.rd λ_=>0) F) :
 MB w0 w' wb D L G nb t xs p r sa ar v Kind ok ps pg ob P (A.rd λ_=>0) F out want cache/\gY w.heap.size w w':=
 h.callK (a.mono λ_ _ q=>.inr (.inl q)) (h.live.got (a.mono λ_ _ q=>.inl q) _ c ⟨h.shv.kind,rfl,ps.keep _ _ h.live.kit λk b=>a.block k (ps.lt _ h.live.kit k b) (h.live.apt k b).2.2.2,h.live.vol.vol.keep (a.block _ h.live.vol.vol.lt h.live.free.v),h.shv.ho,h.shv.hol,λ_ q=>.inl q⟩) rfl rfl (h.shv.same rfl rfl) λ_ q=>.inl q
theorem BH {sb d:Nat} (a:yT D L G) (v:A.n=D+L+G) (u:d<A.n) (f:∀ i,A.lost i=true->i=d):DV D L G (tE sb 8 D L G (2^d)) (λl=>l=2^d) (tC sb 8 0) A:=by
 have t:ae (2^d)=[d]:=by
  have o:=AB (n:=D+L+G) (k:=d) (by omega) a.s;have e:av (D+L+G) (2^d)=2^d:=Tv λi=>by
   rw [gV,Tw];by_cases q:d=i
   . subst q;rw [decide_eq_true (show d<D+L+G by omega),Bool.and_true]
   . rw [decide_eq_false q,Bool.false_and]
  rwa [e] at o
 refine ⟨Gz D L G (2^d) a.r a.d1 a.d a.l1 a.l4 a.g a.div a.s (Nat.pow_lt_pow_right (by decide) (by omega)) (by rw [t];exact AC a.div (by omega)) (by decide),.inl ⟨0,rfl⟩,(λi b=>by have q:(0:Nat).testBit i=true:=b;rw [Nat.zero_testBit] at q;cases q),(by show 0<65536;decide),λl m h=>?_⟩;obtain ⟨i,b⟩:=Nat.exists_testBit_of_ne_zero m;have c:=f i (h i b).2;subst c;refine ⟨Tv λj=>?_,λj _ p=>by rw [f j p];exact b⟩;rw [Tw];by_cases q:i=j
 . subst q;rw [b,decide_eq_true rfl]
 . rw [decide_eq_false q];cases e:l.testBit j
   . rfl
   . exact absurd (f j (h j e).2).symm q
end Go.Proofs.YtfbmmcnpjhmjaaaGreatDoor
