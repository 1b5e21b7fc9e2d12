import Derived.Test.YthibhmemkhmocaaGreatDoorM07
import Derived.SizedLaws
set_option maxRecDepth 100000
set_option linter.all false
set_option maxHeartbeats 8000000
open Go.IntKind renaming i64 -> Z9, u64 -> Z8
open Go.Value renaming int -> Z7, pointer -> Z6, slice -> Z5, bool -> Z2, string -> Z0, tuple -> ZZ
open Go.Obj renaming cells -> Z4
open Go.Ending renaming returned -> Z3
open Go.Operand renaming tmp -> Z1
open Option renaming none -> ZY, some -> ZX
open Bool renaming true -> ZW, false -> ZV
open Go renaming World -> ZU, Value -> ZT, Calls -> ZS, Addr -> ZR, Ending -> ZQ, TypeId -> ZP, Boxed -> ZO
open List renaming range -> YF, getElem_range -> YI
open ByteArray renaming empty -> YG
open Int renaming natCast_emod -> YH
open Go.Proofs.YthibhmemkhmocaaGreatDoor renaming pgs -> YJ
open Go.Proofs.Tryz renaming prog -> ZN
open Go.Proofs.Tryz
namespace Go.Proofs.YthibhmemkhmocaaGreatDoor
def U3:=@Go.Proofs.Tryz.underlying36
def acj:=@Go.World.cell?_spot
def WJ:=@Go.WideShapes.add_plain
def Xu:=@Go.DataW.trod_int
end Go.Proofs.YthibhmemkhmocaaGreatDoor
namespace Go.Proofs.YthibhmemkhmocaaGreatDoor
open Go.RowKit Go.Deep Go.Shelf Gf
variable {off:Bool} {x:ByteArray} {e:ZQ} {F F':aH} {cache:Int} {ps ps':bf} {Kind:bf->Prop} {Q:List (ByteArray×ZT)} {M:List (Nat×Nat)} {page P l dl d:a8} {os:List Ob} {ys:List ZT} {D n po sk c v p r g N sz n1 f1 L G y D1 L1 G1 t1 k ar D' L' G' t f nn ho b S i tt wb a blocks size m nb sa B T B' rb q len0 cap0:Nat} {R:Nat->Option bz} {X:Ob×a8} {o:Obj} {xs':aX} {ao:Option ZR} {H:Type} {up uq pg ob u s out want rv rr fv:ZT} {w w' wr w5 w6 w0 w1 w3 w4 KW wx W:ZU}
section
structure wB (w:ZU) (ar v p:Nat) (ps:bf) (D L G:Nat) (A:aC) (F:aH):Prop where
 vol:pH w v p D L G ps.ps ps.ho A F
 nar:¬ F.S ar
 vlt:3<=v/\v<ar
 arl:ar<w.heap.size
 kit:ps.S w
 apt:∀ k,ps.bl k->3<=k/\k≠ar/\k≠v/\¬ F.S k
 hl:ps.ho<2^(D+L+G)
 fine:A.fine D L G
section
variable {w w':ZU} {ar v p D L G:Nat} {ps ps':bf} {A:aC} {F:aH}
def wB.below (h:wB w ar v p ps D L G A F) (a:bW w w'):wB w' ar v p ps D L G A F:=
 { h with vol:=h.vol.below a lR,arl:=T9 h.arl a.size,kit:=ps.keep _ _ h.kit λk b=>a.block k (ps.lt _ h.kit k b) }
def wB.got (h:wB w ar v p ps D L G A F) {Kind:bf->Prop} (a:aa (λj=>F.S j\/j=v\/ps.bl j) w w') (m:az w' p A F) (hK:oV w v p D L G Kind ps A ps' w'):wB w' ar v p ps' D L G A F:=by
 have i:2<3:=by decide
 have l:1<3:=by decide
 have:=h.vlt;have b:∀ k,k<3->¬ F.S k->k<w.heap.size->w'.heap[k]?=w.heap[k]?:=λk d f c=>a.block k c (λq=>by
  rcases q with q|q|q
  . exact f q
  . omega
  . have:=(h.apt k q).1;omega)
 exact { h with
  vol:={ h.vol with vol:=by rw [hK.psE];exact hK.vol,arr:=m,laid:=h.vol.laid.keep (b _ i h.vol.g h.vol.laid.lt),tab:=h.vol.tab.keep (b _ l h.vol.t h.vol.tab.lt),room:=TZ h.vol.room a.size }
  arl:=T9 h.arl a.size
  kit:=hK.kit
  apt:=λk n=>by
   rcases hK.bl k n with q|q
   . exact h.apt k q
   . have:=h.arl;have:=h.vol.room;exact ⟨by omega,by omega,by omega,λe=>by have:=h.vol.arr.RS e;omega⟩
  hl:=hK.hol }
def wB.arc (h:wB w ar v p ps D L G A F) (a:aa (λj=>F.S j\/j=v\/ps.bl j) w w') {D' L' G' t f n:Nat} {pg ob:ZT} {off:Bool} (b:bC w ar v D' L' G' t f n pg ob off):bC w' ar v D' L' G' t f n pg ob off:=
 b.keep (a.block _ h.arl λq=>by
  rcases q with q|q|q
  . exact h.nar q
  . have:=h.vlt;omega
  . exact (h.apt _ q).2.1 rfl)
end
structure PZ (A:aC) (D L G:Nat) (P l:a8):Prop where
 on:A.holds D L G P (cG D P l)
 pl:P.length=YJ D l.length
 nb:∀ x∈P,x<A.nb
 le:P.length<=A.nb
 byt:∀ x∈l,x<256
def Pg (f:1<=D) {k:Nat} (d:k<pgs D n):k*(D*44-4)<=n:=by
 unfold pgs at d;by_cases a:k=0
 . subst a;omega
 . have b:k<(n+(D*44-4)-1)/(D*44-4):=(by omega);have e:0<D*44-4:=(by omega);have c:=(acg e).1 (Nat.succ_le_of_lt b);rw [WY] at c;omega
def Ph (d:1<=D):n<=pgs D n*(D*44-4):=by
 have c:0<D*44-4:=by omega
 have a:(n+(D*44-4)-1)/(D*44-4)<=pgs D n:=acf _ _;have:=WV (D*44-4) a;have b:=Nat.div_add_mod (n+(D*44-4)-1) (D*44-4);have:=Wd (n+(D*44-4)-1) c;rw [Ww] at b;omega
def FX (P l:a8) (k:Nat):(cG D P l k).length=4+min (l.length-k*(D*44-4)) (D*44-4):=by
 unfold cG;rw [Uc,aD,Us,Ur,Nat.min_comm]
def JV (w:ZU) (pb po n:Nat) (page:a8):Prop:=∀ q,q<n->w.cell? ⟨pb,po+q,ZY⟩=ZX (Z7 .u8 ((page.getD q 0:Nat):Int))
def JV.grown {pb:Nat} {row:Option Nat} (h:JV w pb po n page) (b:w.grownBy w' row) (a:row≠ZX pb):JV w' pb po n page:=λq c=>b.cell (h q c) (λe=>a e.symm)
def JV.alloc {pb:Nat} (h:JV w pb po n page) (o:Obj):JV (w.alloc o) pb po n page:=h.grown (ace w o ZY) (λe=>by cases e)
theorem JV.src {pb:Nat} (h:JV w pb po (4+sk) page) (hl:page.length=4+sk):Src ZN 1 40 (Z5 (ZX ⟨pb,po+4,ZY⟩) sk sk) sk (aI (page.drop 4)) w:=by
 refine Vk w Uq ⟨pb,po+4,ZY⟩ sk sk (aI (page.drop 4)) (by rw [aW,Ur,hl];omega) (λq u a=>?_) (λu f=>by obtain ⟨x,_,rfl⟩:=Ua.1 f;rfl);have g:q<sk:=by
  have:=(Vc.1 a).1;rw [aW,Ur,hl] at this;omega
 have d:=h (4+q) (by omega);have e:(Value.int .u8 ((page.getD (4+q) 0:Nat):Int))=u:=by
  unfold aI at a;rw [UE,Wg,Ue (by omega)] at a;simp at a;rw [<- a];simp [Ub,show 4+q<page.length by omega]
 have b:w.cell? ⟨pb,po+4+q,ZY⟩=ZX u:=by rw [<- e,Vx];exact d
 unfold Addr.add;split
 . rename_i c;subst c;exact b
 . exact b
def JV.src0 {pb:Nat}:Src ZN 1 40 (Z5 (ZX ⟨pb,po,ZY⟩) 0 0) 0 [] w:=Vk w Uq ⟨pb,po,ZY⟩ 0 0 [] rfl (λq u a=>by simp at a) (λu b=>by cases b)
def JV.head {pb x:Nat} (h:JV w pb po n page) (e:4<=n) (b:4<=c) (d:page.take 4=be x 4):Bs w (Z5 (ZX ⟨pb,po,ZY⟩) 4 c) (be x 4):=by
 refine ⟨ZX ⟨pb,po,ZY⟩,c,by rw [aD],by rw [aD];exact b,by rw [aD];decide,qI _ _,λ_=>⟨pb,po,rfl,λq a=>?_⟩⟩;rw [aD] at a;rw [h q (by omega),<- d];have:(page.take 4).getD q 0=page.getD q 0:=by
  rw [Ub,Ub,VR a]
 rw [this]
structure RpG (w:ZU) (v p r g N sz n1 f1 D L G:Nat) (Kind:bf->Prop) (ps:bf) (A:aC) (F:aH) (P l:a8) (D1 L1 G1 t1 k:Nat) (up uq:ZT) (wr:ZU):Prop where
 pk:wr.ownsRow w.heap.size 5 1 up (min (k*sz) n1) (aI (l.take (k*sz)))
 pg:wr.ownsRow w.heap.size 3 1 uq k (jV (P.take k))
 rd:∃ b gone sp,eY wr r v b g N gone sp
 row:∃ f,wr.rowIs g 40 N f
 kit:∃ ps',oV w v p D L G Kind ps A ps' wr
 arr:az wr p A F
 out:aa (λj=>F.S j\/j=v\/ps.bl j) w wr
 box:wr.heap[w.heap.size]?=ZX (Z4 (aq D1 L1 G1 t1 f1 n1) 142 (0,0))
def abm (w:ZU) (v p r g N sz n1 f1 D L G:Nat) (Kind:bf->Prop) (ps:bf) (A:aC) (F:aH) (P l:a8) (D1 L1 G1 t1 K:Nat) (up uq nx i:ZT) (wr:ZU):Prop:=∃ k:Nat,k<=K/\i=Z7 Z9 k/\nx=Z7 Z9 ((P.getD k 0:Nat):Int)/\RpG w v p r g N sz n1 f1 D L G Kind ps A F P l D1 L1 G1 t1 k up uq wr
def FY:¬ rM 3:=by unfold rM;decide
def Pi:¬ rM 142:=by unfold rM;decide
def Ni {A:aC} (a:RpG w v p r g N sz n1 f1 D L G Kind ps A F P l D1 L1 G1 t1 k up uq wr) (hK:oV w v p D L G Kind ps A ps' wr) (d:mM wr.drew r v y g N p D L G Kind ps' A F dl e w5) (C:N=D+L+G) (re:∀ ps h,Kind ps->Kind (ps.TB h)) (m:∀ k,F.S k->k<w.heap.size) (K:v<w.heap.size) (R:w.heap.size<r) (Q:w.heap.size<g):aa (λj=>F.S j\/j=v\/ps.bl j) w w5/\(∃ b,oV w v p D L G Kind ps A b w5)/\w5.heap[w.heap.size]?=ZX (Z4 (aq D1 L1 G1 t1 f1 n1) 142 (0,0))/\(∀ {T:ZP} {s n:Nat} {u:ZT} {xs:List ZT},wr.ownsRow w.heap.size T s u n xs->¬ rM T->T≠200->T≠40->w5.ownsRow w.heap.size T s u n xs):=by
 have:w.heap.size<=wr.heap.size:=a.out.size;have:wr.drew.heap.size=wr.heap.size:=rfl;obtain ⟨_,_,_,B⟩:=a.rd;obtain ⟨J,t⟩:=a.row;refine ⟨(a.out.trans (aa.drew _)).later d.out λj o h=>?_,?_,?_,?_⟩
 . rcases h with h|h|h|h|h
   . omega
   . omega
   . exact .inr (.inl h)
   . exact .inl h
   . rcases hK.bl j h with q|q
     . exact .inr (.inr q)
     . omega
 . obtain ⟨b,hl,k1,k2,k3,k4,H,I⟩:=d.kit;refine ⟨b.TB hl,re _ _ k1,k2.trans hK.psE,k3,by rw [<- hK.psE];exact k4,by rw [<- C];exact H,λj o=>?_⟩;rcases I j o with q|q
   . exact hK.bl j q
   . exact .inr (by omega)
 . refine (d.out.block _ (T5.1 a.box).1 (λh=>?_)).trans a.box;rcases h with h|h|h|h|h
   . omega
   . omega
   . omega
   . have:=m _ h;omega
   . exact cP hK.kit a.box Pi h
 . intro T s n u xs ho f i x;refine bR (show wr.drew.ownsRow w.heap.size T s u n xs from ho) d.out λq c h=>?_;rcases h with h|h|h|h|h
   . subst h;obtain ⟨cs,z,_⟩:=t;exact bH ho z x c
   . subst h;exact bH ho B i c
   . subst h;have:=dK ho c;omega
   . have f:=m q h;have:=dK ho c;omega
   . obtain ⟨cur,E⟩:=bu ho c;exact cP hK.kit E f h
theorem Nj {w7:ZU} {x pl:Nat} {A:aC} {v6 v7:ZT} (X:RpG w v p r g N sz n1 f1 D L G Kind ps A F P l D1 L1 G1 t1 k up uq wr) (hK:oV w v p D L G Kind ps A ps' wr) (E:mM wr.drew r v y g N p D L G Kind ps' A F dl e w5) (Y:N=D+L+G) (re:∀ ps h,Kind ps->Kind (ps.TB h)) (R:∀ k,F.S k->k<w.heap.size) (k0:v<w.heap.size) (hr:w.heap.size<r) (H:w.heap.size<g)
 (V:k<P.length) (hx:P.getD k 0=x) (M:w5.ownsRow w.heap.size 3 1 uq k (jV (P.take k))) (W:w6.ownsRow w.heap.size 3 1 v6 (k+1) (jV (P.take k)++[Z7 Z9 (x:Int)])) (m:(w5.alloc o).grownBy w6 uq.ownBlock) (C:w6.ownsRow w.heap.size 5 1 up pl (aI (l.take pl))) (hv:w7.ownsRow w.heap.size 5 1 v7 (pl+sk) (aI (l.take pl)++aI ((l.drop pl).take sz))) (c:w6.grownBy w7 up.ownBlock)
 (hy:k*sz=pl) (k7:min (n1-pl) sz=sk) (k5:pl<=n1):RpG w v p r g N sz n1 f1 D L G Kind ps A F P l D1 L1 G1 t1 (k+1) v7 v6 w7:=by
 obtain ⟨U,⟨n,i⟩,J,_⟩:=Ni X hK E Y re R k0 hr H;have k8:w.heap.size<=w5.heap.size:=U.size;have k9:w5.heap.size+1<=w6.heap.size:=by have:=m.size;simp at this;omega
 have O:=M.alloc o;have u:∀ {q:Nat} {cs:Array ZT} {T:ZP} {z:Nat×Nat},w5.heap[q]?=ZX (Z4 cs T z)->3≠T->5≠T->w7.heap[q]?=w5.heap[q]?:=by
  intro q cs T z s t B;have hz:q<w5.heap.size:=(T5.1 s).1;have b:(w5.alloc o).heap[q]?=w5.heap[q]?:=Uy _ _ _ hz;have d:w6.heap[q]?=(w5.alloc o).heap[q]?:=m.block q (by simp;omega) (λe=>by
   obtain ⟨cur,a⟩:=bu O e.symm;rw [b.trans s] at a;simp only [US,Vl] at a;exact t a.2.1.symm)
  refine (c.block q (by omega) (λe=>?_)).trans (d.trans b);obtain ⟨cur,a⟩:=bu C e.symm;rw [(d.trans b).trans s] at a;simp only [US,Vl] at a;exact B a.2.1.symm
 have K:∀ q,q<w.heap.size->w7.heap[q]?=w5.heap[q]?:=λq s=>by
  have b:(w5.alloc o).heap[q]?=w5.heap[q]?:=Uy _ _ _ (by omega);have d:w6.heap[q]?=(w5.alloc o).heap[q]?:=m.block q (by simp;omega) (λe=>by have:=dK O e.symm;omega);exact (c.block q (by omega) (λe=>by have:=dK C e.symm;omega)).trans (d.trans b)
 have hi:(k+1)*sz=pl+sz:=by rw [WY,hy]
 obtain ⟨gone,sp,Q⟩:=E.rd;refine ⟨?_,?_,⟨y,gone,sp,Q.keep (u Q (by decide) (by decide))⟩,?_,⟨n,{ i with kit:=n.keep _ _ i.kit (λj I=>?_),vol:=i.vol.keep (u i.vol (by decide) (by decide)) }⟩,E.arr.keep λq s=>K q (R q s),?_,(u J (by decide) (by decide)).trans J⟩
 . rw [hi,acb,bO,show min (pl+sz) n1=pl+sk by omega];exact hv
 . have e:jV (P.take (k+1))=jV (P.take k)++[Z7 Z9 (x:Int)]:=by
    have H:P.getD k 0=P[k]:=(by simp [Ub,V]);rw [Vg,Ue V,<- hx,H];unfold jV;rw [UD];rfl
   rw [e];refine W.kept c ?_;cases h8:v6.ownBlock with
   | none=>exact .inl rfl
   | some q=>
    refine .inr λe=>?_;obtain ⟨cur,Z⟩:=bu W h8;exact bH C Z (by decide) e.symm
 . obtain ⟨f,cs,t,B⟩:=E.row;exact ⟨f,cs,(u t (by decide) (by decide)).trans t,B⟩
 . have hs:=n.lt _ i.kit j I;have b:(w5.alloc o).heap[j]?=w5.heap[j]?:=Uy _ _ _ hs;have d:w6.heap[j]?=(w5.alloc o).heap[j]?:=m.block j (by simp;omega) (λe=>by
    obtain ⟨cur,a⟩:=bu M e.symm;exact cP i.kit a FY I)
   refine (c.block j (by omega) (λe=>?_)).trans (d.trans b);obtain ⟨cur,a⟩:=bu C e.symm;rw [d.trans b] at a;exact cP i.kit a oW I
 . exact U.later (T:=λq=>w.heap.size<=q) ⟨c.os.trans (m.os.trans rfl),c.tape.trans (m.tape.trans rfl),c.output.trans (m.output.trans rfl),by have:=c.size;omega,λq _ k6=>K q (by omega)⟩ (λq t B=>by omega)
structure Pj (w:ZU) (v p D L G:Nat) (Kind:bf->Prop) (ps:bf) (A:aC) (F:aH) (P l:a8) (e:ZQ) (w':ZU):Prop where
 kit:∃ ps',oV w v p D L G Kind ps A ps' w'
 arr:az w' p A F
 out:aa (λj=>F.S j\/j=v\/ps.bl j) w w'
 ans:∃ up uq,e=Z3 (ZZ #[up,uq,.nilIface])/\Bs w' up l/\w'.ownsRow w.heap.size 3 1 uq P.length (jV P)
structure RpD (w w4 w5:ZU) (r v y g N p D L G:Nat) (Kind:bf->Prop) (ps':bf) (A:aC) (F:aH) (sk pl k sz nx' pb po pc:Nat) (pa:Option ZR) (u5:ZT) (page l P:a8) (e:ZQ):Prop where
 dt:mM w4 r v y g N p D L G Kind ps' A F page e w5
 pk5:w5.ownsRow w.heap.size 5 1 (.slice pa pl pc) pl (aI (l.take pl))
 pg5:w5.ownsRow w.heap.size 3 1 u5 k (jV (P.take k))
 cell:JV w5 pb po (4+sk) page
 len:page.length=4+sk
 pg1:page.take 4=be nx' 4
 pg2:page.drop 4=(l.drop pl).take sz
 bq:(Value.slice pa pl pc).ownBlock=ZY\/(Value.slice pa pl pc).ownBlock≠u5.ownBlock
 pq:u5.ownBlock≠ZX pb
 pp:(Value.slice pa pl pc).ownBlock≠ZX pb
 mul:k*sz=pl
theorem wC {A:aC} (ho:wB w ar v p ps D L G A F) (y:bC w ar v D' L' G' t f nn pg ob off) (hv:A2 D L G Kind ps) (x8:A.nb<=1000) (hP:PZ A D L G P l) :
 ZS ZN 154 #[Z6 (ZX ⟨ar,0,ZY⟩),.agg (aq D1 L1 G1 t1 (P.getD 0 0) l.length)] w (Pj w v p D L G Kind ps A F P l):=by
 obtain ⟨ib,x6,ki,kj,kk⟩:=Uu Tryz.Sc;obtain ⟨ii,xn,qf,qg,qh⟩:=Uu Tryz.Sk;have q1:=ho.vol.par.d1;have qb:=ho.vol.par.d;have ky:=ho.vol.vol.lt;have xd:=ho.vol.room;have Z:=ho.vol.n;have c:∀ k,F.S k->k<w.heap.size:=λk hk=>ho.vol.arr.RS hk;have h:=Ph (n:=l.length) q1;have x0:P.length<=1000:=TZ hP.le x8;have qn:l.length<=524000:=by
  rw [<- hP.pl] at h;exact TZ h (TZ (Xm x0 (show D*44-4<=524 by omega)) (by decide))
 obtain ⟨n1,q2⟩:=nM (l.length);obtain ⟨f1,qc⟩:=nM (P.getD 0 0);obtain ⟨K,kc⟩:=nM (P.length);have hK:pgs D n1=K:=by rw [<- kc,hP.pl,q2]
 rw [q2] at h qn ⊢;rw [qc];rw [kc] at x0;have a:=a5 hP q2 qc kc;clear hP q2;have H:(w.alloc (Z4 (aq D1 L1 G1 t1 f1 n1) 142)).heap[w.heap.size]?=ZX (Z4 (aq D1 L1 G1 t1 f1 n1) 142 (0,0)):=Uk _ _;have E:bW w (w.alloc (Z4 (aq D1 L1 G1 t1 f1 n1) 142)):=bA w _;have q4:(w.alloc (Z4 (aq D1 L1 G1 t1 f1 n1) 142)).heap.size=w.heap.size+1:=by simp
 obtain ⟨w1,qy⟩:=nM (w.alloc (Z4 (aq D1 L1 G1 t1 f1 n1) 142));rw [qy] at H E q4;have cl:w1.cell? ⟨w.heap.size,5,ZY⟩=ZX (Z7 Z9 n1):=by simp [World.cell?,H,aq]
 have cf:w1.cell? ⟨w.heap.size,4,ZY⟩=ZX (Z7 Z9 f1):=by simp [World.cell?,H,aq]
 have X:=y.keep (E.block _ y.lt);have I:=ho.below E;obtain ⟨d0,_⟩:=X.cells;have qq:=jf X I.vol.vol q1 (by omega) n1 (by omega);have q9:=jw I.vol.vol I.vol.arr (by omega);obtain ⟨NB,z⟩:=nM (A.nb);rw [z] at x8;have xj:K<=NB:=by rw [<- z,<- kc];exact a.o.1.le
 rw [hK] at qq;rw [z] at q9;have R:=hide9 X I H E q4 qq q9 hK z;have y0:w.alloc (Z4 #[Z7 Z9 D1,Z7 Z9 L1,Z7 Z9 G1,Z7 Z8 t1,Z7 Z9 f1,Z7 Z9 n1] 142)=w1:=qy;have HV:=a5 ho y c ky;clear ho y H E X I qq q9 q4 qy hK z c kc qc;unfold aq;go_enter func154,ntmps154;go_wp2_with fail;refine R.o.2.2.2.2.2.1.mono ?_;rintro e w2 ⟨rfl,N⟩;obtain rfl:w1=w2:=N.symm;clear N;go_wp2_with fail;refine R.o.2.2.2.2.2.2.1.mono ?_;rintro e w2 ⟨rfl,N⟩;obtain rfl:w1=w2:=N.symm;clear N;have y3:¬ NB<K:=by omega
 have y4:¬ (K:Int)>(NB:Int):=by omega
 have ks:=yQ (R.o.2.1.vol.vol.keep (w':=w1.drew) rfl) qb R.o.2.1.vol.par.l4 R.o.2.1.vol.par.g Z;go_upto_region 4 with fail;go_cut [8,9] from 25 to 31 (λv8 v9 wx=>v8=Z7 Z9 (f1:Int)/\v9=Z6 (ZX ⟨w1.heap.size+2,0,ZY⟩)/\eY wx (w1.heap.size+2) v 0 (w1.heap.size+1) A.n 0 0/\wx.rowIs (w1.heap.size+1) 40 A.n AG/\bW w1 wx)
 case first=>
  go_region_with (go_at_call 83;refine ks.mono ?_;rintro e w3 ⟨rfl,xb,V,Q⟩;have T:=aE xb V Q;clear xb V Q;have hd:w3.cell? ⟨w.heap.size,4,ZY⟩=ZX (Z7 Z9 f1):=(T.o.2.2.cell (p:=⟨w.heap.size,4,ZY⟩) (Ui cf)).trans cf);all_goals (go_wp2_with fail;go_meet;case rel=>exact ⟨rfl,rfl,T.o.1,T.o.2.1,(T6 _ w1).drew.trans T.o.2.2⟩)
 case rest=>
  obtain ⟨rfl,rfl,k9,V,Q⟩:=hcut;rename ZU=>w3;obtain ⟨X,I,H,E,q4,y1,y2,hK,z⟩:=R.o;clear y1 y2 ks;have kf:=(Q.block _ (by omega)).trans H;obtain ⟨ho,y,c,_⟩:=HV.o;have x1:aa (λj=>F.S j\/j=v\/ps.bl j) w w3:=aa.RT (E.trans (Q.mono (by omega))) _;have kp:=I.below Q;obtain ⟨r,qv⟩:=nM (w1.heap.size+2);obtain ⟨g,qe⟩:=nM (w1.heap.size+1);rw [qv,qe] at k9;rw [qe] at V;rw [qv];have xk:r≠g:=by omega
  have y5:w.heap.size+1<g:=by omega
  have y7:w.heap.size+1<r:=by omega
  obtain ⟨sz,kx⟩:=nM (D*44-4);have qz:RpG w v p r g A.n sz n1 f1 D L G Kind ps A F P l D1 L1 G1 t1 0 (Z5 ZY 0 0) (Z5 ZY 0 0) w3:=
   ⟨by rw [abw,Nat.zero_min,Wn];exact UP _ _ _ _,UP _ _ _ _,⟨0,0,0,k9⟩,⟨_,V⟩,⟨ps,hv.kind,rfl,kp.kit,kp.vol.vol,kp.hl,λ_ q=>.inl q⟩,kp.vol.arr,x1,kf⟩
  have T:=ak qz;have xz:40<=sz/\sz<=524:=by omega
  rw [hK,kx] at h;have km:∀ k,k<K->k*sz<=n1:=λk hk=>by
   have:=Pg (n:=n1) q1 (k:=k) (by omega);rw [kx] at this;exact this
  have HK:=a5 hK z h km;clear X I H E k9 V kp kf x1 Q qz cl cf d0 qv qe hK z h km ho y c;go_wp2_with fail;go_loopw [4,5,8,33] (λup uq nx i wr=>abm w v p r g A.n sz n1 f1 D L G Kind ps A F P l D1 L1 G1 t1 K up uq nx i wr) (λ_ _ _ i _=>K-(intOf i).toNat)
  case atStart=>exact ⟨0,T7 _,rfl,by rw [a.o.2.2.1],T.o⟩
  case round=>
   obtain ⟨k,y6,rfl,rfl,C⟩:=hrel;by_cases qk:k<K
   . have qj:=HK.o.2.2.2 k qk;obtain ⟨B,kr,⟨b0,gone,sp,xc⟩,⟨f0,kv⟩,⟨ps',kz⟩,hh,hO,ke⟩:=id C;rw [Wm qj] at B;have x7:k<P.length:=(by rw [a.o.2.2.2];exact qk);obtain ⟨x,M⟩:=nM (P.getD k 0);have xh:x<A.nb:=(by rw [<- M];exact a.o.1.nb _ (lZ x7));rw [M];obtain ⟨pa,pc,rfl⟩:=aT B;obtain ⟨pl,J⟩:=nM (k*sz);obtain ⟨ho,y,c,_⟩:=HV.o;have qp:=ho.got hO hh kz;have q5:=ho.arc hO y;obtain ⟨ca,_⟩:=q5.cells;have cn:wr.cell? ⟨w.heap.size,5,ZY⟩=ZX (Z7 Z9 n1):=(by simp [World.cell?,ke,aq]);have qs:=kK (w:=wr.drew) (q5.keep rfl) (qp.vol.vol.keep rfl) q1 (by omega);rw [kx] at qs;obtain ⟨sk,xe⟩:=nM (min (n1-pl) sz);rw [J] at qj B ⊢;have qm:∀ Y ty w,(Builtin.min_ Y ty #[Z7 Z9 ((n1:Int)-(pl:Int)),Z7 Z9 (sz:Nat)]).run ZN w=.ok (Z7 Z9 (sk:Nat)) w:=λY ty w=>by
      rw [gJ];by_cases h1:((sz:Nat):Int)<(n1:Int)-(pl:Int)
      . rw [TX h1,show sk=sz by omega]
      . rw [TW h1,show (sk:Int)=(n1:Int)-(pl:Int) by omega]
     have xq:IntKind.i64.wrap ((n1:Int)-(pl:Int))=(n1:Int)-(pl:Int):=(by rw [UF];omega);have hm:(cG D P l k).length=4+sk:=(by rw [FX,kx,J,a.o.2.1,<- xe]);have s:=qp.below ((T6 _ wr).drew);have xf:vq wr.drew r v x g A.n p D L G Kind ps' A F (cG D P l k):=
      { vol:=s.vol,nN:=Z,hol:=by rw [Z];exact s.hl,kit:=s.kit,kind:=kz.kind,apt:=λj hj=>⟨(s.apt j hj).1,(s.apt j hj).2.2.1,(s.apt j hj).2.2.2⟩,vr:=by omega,vg:=by omega,rg:=xk,gF:=λe=>by have:=c _ e;omega,rF:=λe=>by have:=c _ e;omega,rK:=by omega,vK:=s.vlt.1,gK:=by omega,nb:=xh,cw:=by rw [<- M];exact a.o.1.on k x7,len:=by rw [hm];omega,fine:=s.fine,byt:=Cw a.o.1.byt P k }
     have x4:=DB xf hv.sh (xc.keep rfl) (kv.of_block rfl) hm.symm (m:=(4+sk+43)/44) rfl (by omega);have U:=a5 C kz c ky;have HR:=hide7 x4 B kr J hm M qs;clear C kz c x4 B kr J qs xf qp s q5 ho y xc kv hh hO ke hm M xh;go_upto_region 7 with fail;go_cut [10] from 35 to 42 (λv10 wx=>v10=Z7 Z9 (sk:Int)/\wx=wr.drew)
     case first=>
      go_region_with (go_at_call 141;refine HR.o.2.2.2.2.2.2.mono ?_;rintro e wq ⟨rfl,rfl⟩);all_goals (go_wp2_with fail;go_meet;case rel=>exact ⟨rfl,rfl⟩)
     case rest=>
      obtain ⟨rfl,rfl⟩:=hcut;clear ca cn qm xq;have y8:IntKind.i64.wrap ((4:Int)+(sk:Int))=(4:Int)+(sk:Int):=(by rw [UF];omega);go_wp2_with fail;rw [show (4:Int)+(sk:Int)=((4+sk:Nat):Int) by omega];refine HR.o.1.mono ?_;intro e w5 kb;have ko:=Ni U.o.1 U.o.2.1 kb Z hv.re U.o.2.2.1 ky (by omega) (by omega);obtain ⟨u,rfl,x3,x5,kg⟩:=kb.ans;obtain ⟨_,k7,k5,J,W,M,_⟩:=HR.o;obtain ⟨ao,uc,hu,xg,_,qa,h7⟩:=id x3;rw [W] at hu xg h7;obtain ⟨pb,po,rfl,he⟩:=h7 (λe=>by rw [e] at W;have h0:(0:Nat)=4+sk:=W;omega);subst hu;have qx:uc=4+sk:=by
       obtain ⟨hb,n',xp⟩:=kg;injection xp with h1 h2 h3;omega
      subst qx;obtain ⟨x2,_,_,k0⟩:=ko;have xv:wr.heap.size<=pb:=x5 pb rfl;have k8:=k0 k7 oW (by decide) (by decide);have k6:=k0 k5 FY (by decide) (by decide);have yb:=x2.size;have q0:(cG D P l k).take 4=be (P.getD (k+1) 0) 4:=(by unfold cG;rw [V2 (by rw [aD];exact TY _),UJ (by rw [aD];exact TY _)]);have q6:(cG D P l k).drop 4=(l.drop pl).take sz:=by
       unfold cG;rw [W5 (by rw [aD];exact TY _),WN (by rw [aD];exact TY _),kx,J];rfl
      obtain ⟨x',q3⟩:=nM (P.getD (k+1) 0);rw [q3] at q0;have y9:x'<4294967296:=by
       rw [<- q3];by_cases h9:k+1<P.length
       . have:=a.o.1.nb _ (lZ h9);have h8:=HK.o.2.1;omega
       . simp [Ub,Vm (by omega:P.length<=k+1)]
      have qo:fT (be x' 4)=x':=lx x' 4 (by omega) (by omega);obtain ⟨page,hr⟩:=nM (cG D P l k);rw [hr] at kb q0 q6 W he;have b:cJ (RpD w wr.drew w5 r v x g A.n p D L G Kind ps' A F sk pl k sz x' pb po pc pa u5 page l P _):=ak ⟨kb,k8,k6,he,W,q0,q6,by
       cases h8:(Value.slice pa pl pc).ownBlock with
       | none=>exact .inl rfl
       | some q=>
        refine .inr λe=>?_;obtain ⟨cur,hf⟩:=bu k8 h8;exact bH k6 hf (by decide) e.symm,λe=>by
       obtain ⟨cur,hf⟩:=bu k5 e;have:=(T5.1 hf).1;omega,λe=>by
       obtain ⟨cur,hf⟩:=bu k7 e;have:=(T5.1 hf).1;omega,J⟩
      have HX:=al M q3;clear kb k8 k6 he W qa q3 M x2 k0 k7 k5 J x3 h7 x5 kg xg HR q0 q6 hr;have ya:IntKind.i64.wrap (x':Int)=(x':Int):=(by rw [UF];omega);have xy:sk<=1000000:=(by omega);by_cases xx:sk=0;subst xx;rotate_left
      all_goals (
       go_wp2_with (first
        | (show wpList _ _ _ ({ dst:=ZX 57,op:=_,type:=_,pos:=_,after:=_,guard:=_ }::_) _ _;refine XZ _ rfl (Z1 54) (Z1 56) 48 rfl w.heap.size 3 ii (Z7 Z9 0) 1 8 Yi xn qf qg qh rfl (by decide) u5 k (jV (P.take k)) rfl (by exact b.o.pg5.alloc _) ⟨w5.heap.size,0,ZY⟩ 1 1 _ rfl rfl (lB w5 _ _) (by intro u hu;simp at hu;subst hu;rfl) (by unfold maxLen;omega) (by omega) (by simp;omega) ?_;intro v6 w6 x9 kh xm q7;have O:=a5 x9 kh ((b.o.pk5.alloc _).kept kh b.o.bq) ((b.o.cell.alloc _).grown kh b.o.pq);have xi:=kh.size;clear x9 kh xm q7)
        | (show wpList _ _ _ ({ dst:=ZX 61,op:=_,type:=_,pos:=_,after:=_,guard:=_ }::_) _ _;(first|(refine ae _ rfl (Z1 58) (Z1 60) 40 40 rfl w.heap.size 5 ib (Z7 .u8 0) 1 1 Uq x6 ki kj kk rfl (.slice pa pl pc) pl (aI (l.take pl)) (by rfl) (by exact O.o.2.2.1) _ (by rfl) 0 ([]) (by exact JV.src0) (by unfold maxLen;omega) (by omega) (by simp at xi;omega) ?_)|(refine ae _ rfl (Z1 58) (Z1 60) 40 40 rfl w.heap.size 5 ib (Z7 .u8 0) 1 1 Uq x6 ki kj kk rfl (.slice pa pl pc) pl (aI (l.take pl)) (by rfl) (by exact O.o.2.2.1) _ (by rfl) sk (aI (page.drop 4)) (by exact O.o.2.2.2.src b.o.len) (by unfold maxLen;omega) (by omega) (by simp at xi;omega) ?_));intro v7 w7 xa qd q8;have H7:=aE xa qd (O.o.2.2.2.grown qd b.o.pp);clear xa qd q8))
       refine (zA _ (be x' 4) w7 (H7.o.2.2.head (by omega) (by omega) b.o.pg1)).mono ?_;rintro e w8 ⟨rfl,N⟩;obtain rfl:w7=w8:=N.symm;clear N;rw [qo];go_wp2;go_roundw
       case rel=>
        obtain ⟨C,hK,c,ky⟩:=U.o;rw [b.o.mul] at C;exact ⟨k+1,by omega,by go_num,by rw [HX.o.2],Nj C hK b.o.dt Z hv.re c ky (by omega) (by omega) (by rw [a.o.2.2.2];exact qk) HX.o.1 b.o.pg5 O.o.1 O.o.2.1 O.o.2.2.1 (by have h9:=H7.o.1;rw [<- b.o.pg2];first|exact h9|(rw [show page.drop 4=[] from Xc.1 (by rw [Ur,b.o.len])];exact h9)) H7.o.2.1 b.o.mul xe qj⟩
       case measure=>simp [intOf];omega)
   . have xo:k=K:=(by omega);subst xo;have U:=ak C;clear C;go_wp2;go_ret3
     obtain ⟨B,kr,_,_,qi,hh,hO,_⟩:=U.o;obtain ⟨hK,z,h,_⟩:=HK.o;rw [acd h,UJ (by rw [a.o.2.1];exact h)] at B;rw [UJ (by rw [a.o.2.2.2];exact TY _)] at kr;refine ⟨qi,hh,hO,_,_,rfl,?_,by rw [a.o.2.2.2];exact kr⟩;rw [<- a.o.2.1] at B;exact Bs.Sm B a.o.1.byt (by rw [a.o.2.1];omega)
end
def JW {base:Nat} (h:w.ownsRow base 3 1 u n (jV l)) (hll:l.length<=1000000) {K:Nat->Prop} (hK:∀ k,u.ownBlock=ZX k->K k):bg K w u l:=by
 have e:n=l.length:=by have:=h.1;unfold jV at this;rw [Ud,Wf] at this;omega
 rcases h.2 with ⟨c,j⟩|⟨g,cap,cur,a,f,b,_⟩
 . have:l=[]:=UY (by omega);subst this;rw [c];exact ⟨ZY,0,rfl,T7 _,λh=>absurd rfl h⟩
 . refine ⟨ZX ⟨g,0,ZY⟩,cap,by rw [a,e],hll,λ_=>⟨g,0,rfl,hK g (by rw [a];rfl),⟨_,_,_,b,by decide⟩,λi d=>?_⟩⟩;have:=h.cells (g:=g) (by rw [a];rfl) i (Z7 Z9 ((l[i]:Nat):Int)) (by unfold jV;simp [d]);rw [jm] at this;rw [Um];exact this
structure Pm (w:ZU) (ar v p D L G t:Nat) (Kind:bf->Prop) (ps:bf) (P:a8) (xs:aX) (A:aC) (F:aH) (e:ZQ) (w':ZU):Prop where
 out:aa (λj=>F.S j\/j=v\/ps.bl j\/j=ar) w w'
 ans:∃ ps' pg ob,e=Z3 .nilIface/\(Kind ps'/\∀ k,ps'.bl k->ps.bl k\/w.heap.size<=k)/\a9 w' ar v p ps' D L G t pg ob P xs A F
def aaU {A:aC} {xs:aX} (h:du A D L G t P xs):PZ A D L G P (aj xs.os):=⟨h.page,h.pl,λx a=>(h.TM x (UO _ a)).2,by have:=h.room;omega,vv _⟩
theorem rQ {xs:aX} {A:aC} (ho:wB w ar v p ps D L G A F) (K:bC w ar v D' L' G' t f nn pg ob ZV) (hv:A2 D L G Kind ps) (q2:A.nb<=1000) (qg:t1<=1000000) (g:du A D L G t1 P xs) :
 ZS ZN 121 #[Z6 (ZX ⟨ar,0,ZY⟩),.agg (aq D L G t1 (P.getD 0 0) (aj xs.os).length)] w (Pm w ar v p D L G t1 Kind ps P xs A F):=by
 have N:∀ k,F.S k->k<w.heap.size:=λk c=>ho.vol.arr.RS c;have qa:=ho.arl;have qb:=ho.vol.par.d1;have qd:=ho.vol.par.d;have hP:=aaU g;have km:=uQ g.fits;have kc:=g.room;have hU:Dv D (aj xs.os) xs.os:=AX D ⟨qb,by omega⟩ (λo ho=>by obtain ⟨x,hx,rfl⟩:=Ua.1 ho;exact (g.fits x hx).fit) (λo ho=>by obtain ⟨x,hx,rfl⟩:=Ua.1 ho;exact (g.fits x hx).st) (Ao (by rw [eJ];exact g.up)) (by omega);have ke:(tk A.nb (P++ah xs.os)).2=ZW:=(L6 g.nod g.TM).1;obtain ⟨f1,k9⟩:=nM (P.getD 0 0);obtain ⟨n1,ka⟩:=nM ((aj xs.os).length);have X:(w.alloc (Z4 (aq D L G t1 f1 n1) 142)).heap[w.heap.size]?=ZX (Z4 (aq D L G t1 f1 n1) 142 (0,0)):=Uk _ _;have z:bW w (w.alloc (Z4 (aq D L G t1 f1 n1) 142)):=bA w _;have ki:(w.alloc (Z4 (aq D L G t1 f1 n1) 142)).heap.size=w.heap.size+1:=by simp
 obtain ⟨w1,kx⟩:=nM (w.alloc (Z4 (aq D L G t1 f1 n1) 142));rw [kx] at X z ki;have W:=K.keep (z.block _ K.lt);have R:=ho.below z;have kp:=wC (D1:=D) (L1:=L) (G1:=G) (t1:=t1) R W hv q2 hP;rw [k9,ka] at kp ⊢;have H1:=a7 W R X z ki kp;have qh:w.alloc (Z4 #[Z7 Z9 D,Z7 Z9 L,Z7 Z9 G,Z7 Z8 t1,Z7 Z9 f1,Z7 Z9 n1] 142)=w1:=kx;have H:=hide8 ho K N g hU ke k9 ka;clear ho K X z W R ki kx kp N g hU ke k9 ka hP km kc;show ZS ZN 121 #[Z6 (ZX ⟨ar,0,ZY⟩),.agg #[Z7 Z9 D,Z7 Z9 L,Z7 Z9 G,Z7 Z8 t1,Z7 Z9 f1,Z7 Z9 n1]] w _;go_enter func121,ntmps121;go_wp2_with (show wpList _ _ _ ({ dst:=ZX 14,op:=_,type:=_,pos:=_,after:=_,guard:=_ }::_) _ _;refine kR (D:=D) (L:=L) (G:=G) (t:=t1) (f:=f1) (n:=n1) (b:=w.heap.size) rfl (Z1 3) rfl rfl (by rfl) (by exact H1.o.2.2.1) ?_);refine H1.o.2.2.2.2.2.mono ?_;intro e w2 u;obtain ⟨W,R,X,z,ki,hx⟩:=H1.o;clear hx;have k7:=u.arr;obtain ⟨ps',r⟩:=u.kit;have i:=R.got u.out k7 r;have y:=R.arc u.out W;have q1:aa (λj=>F.S j\/j=v\/ps.bl j) w w2:=(aa.RT z _).trans u.out;have I:aa (λj=>F.S j\/j=v\/ps.bl j\/j=ar) w w2:=q1.mono λj _ q=>by
  rcases q with q|q|q
  . exact .inl q
  . exact .inr (.inl q)
  . exact .inr (.inr (.inl q))
 obtain ⟨up,uq,rfl,kk,m⟩:=u.ans;have E:w2.heap[w.heap.size]?=ZX (Z4 (aq D L G t1 f1 n1) 142 (0,0)):=(u.out.block _ (by omega) (λq=>by
  rcases q with q|q|q
  . have:=H.o.2.2.1 _ q;omega
  . have:=H.o.1.vol.vol.lt;omega
  . have:=ps.lt _ H.o.1.kit _ q;omega)).trans X
 obtain ⟨d0,_⟩:=y.cells;have kr:=dJ i.vol.vol (by omega);have ks:=H.o.2.2.2.2.1 w2 up kk;obtain ⟨hb,hj⟩:=nM (D*44);rw [hj] at kr ks;have qm:=u.out.size;obtain ⟨qn,uc,kf,_⟩:=id kk;rw [H.o.2.2.2.2.2.2.2] at kf;obtain ⟨l,qc,kg⟩:=aT m;obtain ⟨Z,O⟩:=nM (P.length);rw [O] at kg;have Y:=hide10 y i E kr ks m I r O hj;clear W R X z u y i E kr ks q1 I k7 r O m kk;subst kf;subst kg;go_wp2_with fail;refine Y.o.2.2.2.1.mono ?_;rintro e w3 ⟨rfl,q7⟩;obtain rfl:w2=w3:=q7.symm;clear q7;go_wp2_with fail;refine Y.o.2.2.2.2.1.mono ?_;rintro e w3 ⟨o,rfl,V,s⟩;obtain ⟨y,i,E,kz,q0,m,I,r,O,hj⟩:=Y.o;clear kz q0;have kj:=y.keep (s.block _ y.lt);have a:=i.below s;have k6:aa (λj=>F.S j\/j=v\/ps.bl j\/j=ar) w w3:=I.trans (aa.RT s _);obtain ⟨B,oc,q4,_⟩:=id V;have k8:=(s.block _ (T5.1 E).1).trans E;have q5:=kj.there;have Q:=Cy (D:=D) (L:=L) (G:=G) (t:=t1) (f:=f1) (n:=n1) kj;have U:aa (λk=>k=ar) w3 (w3.setCells ar 1 (aq D L G t1 f1 n1).toList):=aa.setCells _ ar 1 _ rfl;obtain ⟨w8,ky⟩:=nM (w3.setCells ar 1 (aq D L G t1 f1 n1).toList);rw [ky] at Q U;obtain ⟨c7,f7,c8,f8⟩:=Q.tail;have qj:=s.size;have H3:=hide9 Q U q5 k8 ky k6 V a s;clear y i E m I r O kj a k8 k6 q5 Q U ky V s d0;obtain ⟨no,q3⟩:=nM (xs.os.length);rw [q3] at q4;clear q3;subst q4;go_wp2_with (first|(show wpList _ _ _ ({ dst:=ZX 38,op:=_,type:=_,pos:=_,after:=_,guard:=_ }::_) _ _;refine kR (D:=D) (L:=L) (G:=G) (t:=t1) (f:=f1) (n:=n1) (b:=w.heap.size) rfl (Z1 3) rfl rfl (by rfl) (by exact H3.o.2.2.2.1) ?_)|(show wpList _ _ _ ({ dst:=ZY,op:=Op.store 142 (Z1 42) (Z1 38),type:=_,pos:=_,after:=_,guard:=_ }::_) _ _;refine wpList_store_mid rfl 142 (Z1 42) (Z1 38) rfl ar 1 (aq D L G t1 f1 n1) (by rfl) (by rfl) (by exact H3.o.2.2.1) (kQ _ _ _ _ _ _) (pT _ _ _ _ _ _) ?_;rw [H3.o.2.2.2.2.1]));obtain ⟨Q,U,kz,q0,qi,k6,V,a,s⟩:=H3.o;clear kz q0 qi;obtain ⟨y,i,E,_,_,m,I,r,O,hj⟩:=Y.o;obtain ⟨ho,K,N,g,_,ke,_⟩:=H.o;have M:=Q.late (.slice l Z qc) (.slice B no oc);have h:aa (λk=>k=ar) w3 ((w8.setCell ⟨ar,7,ZY⟩ (.slice l Z qc)).setCell ⟨ar,8,ZY⟩ (.slice B no oc)):=(U.trans (aa.setCell _ _ _ rfl)).trans (aa.setCell _ _ _ rfl);obtain ⟨w9,q6⟩:=nM ((w8.setCell ⟨ar,7,ZY⟩ (.slice l Z qc)).setCell ⟨ar,8,ZY⟩ (.slice B no oc));rw [q6] at M h ⊢;have kv:v≠ar:=by have:=ho.vlt;omega
 have T:wB w9 ar v p ps' D L G A F:=by
  have qk:=a.vlt;exact { a with vol:={ a.vol with vol:=a.vol.vol.keep (h.block _ a.vol.vol.lt kv),arr:=a.vol.arr.keep λk c=>h.block k (a.vol.arr.RS c) (λe=>a.nar (e▸c)),laid:=a.vol.laid.keep (h.block _ a.vol.laid.lt (by omega)),tab:=a.vol.tab.keep (h.block _ a.vol.tab.lt (by omega)),room:=TZ a.vol.room h.size },arl:=T9 a.arl h.size,kit:=ps'.keep _ _ a.kit λk c=>h.block k (ps'.lt _ a.kit k c) (a.apt k c).2.1 }
 have kb:bg (λk=>w.heap.size<k/\¬ ps'.bl k) w2 (.slice l Z qc) P:=JW m (by have:=g.room;omega) (λk c=>⟨by have:=dK m c;omega,by obtain ⟨cur,hc⟩:=bu m c;exact cP i.kit hc FY⟩);have hf:bg (λk=>w.heap.size<k/\¬ ps'.bl k) w9 (.slice l Z qc) P:=kb.keep ⟨TZ qj h.size,λk c qf=>(h.block k (by omega) (λe=>by omega)).trans (s.block k c)⟩;have h6:fa (λk=>w2.heap.size<=k) w9 (.slice B no oc) xs.os:=V.keep ⟨h.size,λk c qf=>h.block k c (λe=>by omega)⟩;have kh:aa (λj=>F.S j\/j=v\/ps.bl j\/j=ar) w w9:=k6.trans (h.mono λ_ _ q=>.inr (.inr (.inr q)));have hz:=xQ M T.vol.vol T.vol.arr (by have:=T.vol.n;omega) P xs.os hf.ltS h6.ltS;rw [ke] at hz;have H9:=a7 hz M T hf h6 kh;clear Q U k6 V a s M h q6 T hf h6 kh hz c7 f7 c8 f8 y i E m I r O ho K N kb g ke;refine H9.o.1.mono ?_;rintro e qo ⟨gt,rfl,qe,ko,C⟩;have q8:=ak C;clear C ko qe;obtain ⟨NB,q9⟩:=nM (A.nb);rw [q9];go_wp2;go_ret;obtain ⟨_,M,T,hf,h6,kh⟩:=H9.o;obtain ⟨_,i,_,_,_,_,_,r,_⟩:=Y.o;obtain ⟨ho,K,N,g,_,_,k9,ka⟩:=H.o;have C:=q8.out;have J:=T.below C;have z:=H1.o.2.2.2.2.1;refine ⟨kh.trans (aa.RT C _),⟨ps',_,_,rfl,⟨r.kind,λk c=>(r.bl k c).imp id λq=>by omega⟩,{ arc:=by rw [k9,ka];exact M.keep (C.block _ M.lt),vol:=J.vol,nar:=J.nar,vlt:=J.vlt,disk:=g,pgs:=(hf.keep (eN.RU C)).wk λk c _=>⟨by omega,λe=>by have:=N k e;omega,c.2⟩,cat:=(h6.keep (eN.RU C)).wk λk c _=>⟨by omega,λe=>by have:=N k e;omega,λe=>by have:=ps'.lt _ i.kit _ e;omega⟩,nb:=q2,turn:=qg,kit:=J.kit,apt:=J.apt,hl:=J.hl,fine:=J.fine }⟩⟩
structure FZ (w:ZU) (ar v p D L G t:Nat) (Kind:bf->Prop) (ps:bf) (xs:aX) (A:aC) (F:aH) (e:ZQ) (w':ZU):Prop where
 out:aa (λj=>F.S j\/j=v\/ps.bl j\/j=ar) w w'
 ans:∃ ps' pg ob P B,e=Z3 .nilIface/\(Kind ps'/\∀ k,ps'.bl k->ps.bl k\/w.heap.size<=k)/\fj A B/\a9 w' ar v p ps' D L G t pg ob P xs B F
def sE (h:bC w ar v D L G t f n pg ob off):w.cell? ⟨ar,0,ZY⟩=ZX (Z6 (ZX ⟨v,0,ZY⟩)):=h.cells.1
def Pn {ps:Nat} (h:bt w v p D L G ps ho):w.cell? ⟨v,5,ZY⟩=ZX (Z7 Z8 ho)/\w.frozen? ⟨v,5,ZY⟩=ZV:=by
 have a:w.heap[v]?=ZX (Z4 #[Z6 (ZX ⟨p,0,ZY⟩),Z7 Z9 D,Z7 Z9 L,Z7 Z9 G,Z6 (ZX ⟨ps,0,ZY⟩),Z7 Z8 ho] 139 (0,0)):=h;simp [World.cell?,World.frozen?,a]
def aaV {ps:Nat} (h:bt w v p D L G ps ho) (x:Nat):bt (w.setCell ⟨v,5,ZY⟩ (Z7 Z8 x)) v p D L G ps x:=af (j:=5) h (Z7 Z8 x)
def wB.TB {A:aC} (h:wB w ar v p ps D L G A F) {b:Nat} (d:b<2^(D+L+G)):wB (w.setCell ⟨v,5,ZY⟩ (Z7 Z8 (b:Nat))) ar v p (ps.TB b) D L G A F:=by
 have:=h.vlt;have a:aa (λk=>k=v) w (w.setCell ⟨v,5,ZY⟩ (Z7 Z8 (b:Nat))):=aa.setCell _ _ _ rfl;exact { h with vol:={ h.vol with vol:=aaV h.vol.vol b,arr:=h.vol.arr.keep λk c=>a.block k (h.vol.arr.RS c) (λe=>h.vol.v (e▸c)),laid:=h.vol.laid.keep (a.block _ h.vol.laid.lt (by omega)),tab:=h.vol.tab.keep (a.block _ h.vol.tab.lt (by omega)),room:=TZ h.vol.room a.size },arl:=T9 h.arl a.size,kit:=ps.keep _ _ h.kit λk c=>a.block k (ps.lt _ h.kit k c) (h.apt k c).2.2.1,hl:=d }
def wB.same {A:aC} (h:wB w ar v p ps D L G A F) (a:aa F.S w w') (c:az w' p A F):wB w' ar v p ps D L G A F:=
 { h with vol:=h.vol.turn a c rfl,arl:=T9 h.arl a.size,kit:=ps.keep _ _ h.kit λk b=>a.block k (ps.lt _ h.kit k b) (h.apt k b).2.2.2 }
def F0 {A:aC} {r:bz} (h:A.at b (λ_=>r)) {i:Nat} (a:i<A.n):Fnd (A.R5 i b) r:=by
 cases hg:gnB A b i
 . exact .inr (.inr (by rw [Mo hg,h i a]))
 . exact (Mp hg).elim (λq=>.inl q.2) λq=>q.elim (λq=>.inl q.2) λq=>.inr (.inl q.2)
theorem F2 {A:aC} {xs:aX} (h:du A D L G t P xs) (ds:a8) (a:∀ i∈ds,i<A.n):du (A.putAt ds 0 (λ_=>.root D L G t (P.getD 0 0) (aj xs.os).length)) D L G t P xs/\fj A (A.putAt ds 0 (λ_=>.root D L G t (P.getD 0 0) (aj xs.os).length)):=by
 refine ⟨h.off rfl rfl λb _ i=>?_,fj.put _ _ _ _⟩;show (if b=0/\i∈ds then _ else _)=_;split
 . rename_i q
   rw [q.1];exact (h.root i (a i q.2)).symm
 . rfl
def Nk (h:S<2^N) {i:Nat} (b:i∈ab S):i<N:=by
 by_cases q:i<N
 . exact q
 . have a:=(cZ.1 b).2;rw [Xb (T9 h (U9 (by decide) (by omega)))] at a;cases a
theorem F3 {xs:aX} {A:aC} (ho:wB w ar v p ps D L G A F) (z:bC w ar v D' L' G' t f nn pg ob ZV) (hv:A2 D L G Kind ps) (q9:A.nb<=1000) (qb:t1<=1000000) (m:du A D L G t1 P xs) (a:w.rowIs g 215 A.n (λi=>fU (A.R5 i 0))) (M:¬ F.S g) :
 ZS ZN 91 #[Z6 (ZX ⟨ar,0,ZY⟩),.agg (aq D L G t1 (P.getD 0 0) (aj xs.os).length),Z5 (ZX ⟨g,0,ZY⟩) A.n A.n] w (FZ w ar v p D L G t1 Kind ps xs A F):=by
 have J:∀ k,F.S k->k<w.heap.size:=λk hk=>ho.vol.arr.RS hk;have q4:=ho.arl;have q6:=ho.vol.par.d;have kk:A.n<=16:=by rw [ho.vol.n];exact ho.vol.par.s
 have qa:2<=A.nb:=by have:=m.room;omega
 obtain ⟨f1,u⟩:=nM (P.getD 0 0);obtain ⟨n1,x⟩:=nM ((aj xs.os).length);rw [u,x];have K:(w.alloc (Z4 (aq D L G t1 f1 n1) 142)).heap[w.heap.size]?=ZX (Z4 (aq D L G t1 f1 n1) 142 (0,0)):=Uk _ _;have l:bW w (w.alloc (Z4 (aq D L G t1 f1 n1) 142)):=bA w _;have Z:(w.alloc (Z4 (aq D L G t1 f1 n1) 142)).heap.size=w.heap.size+1:=by simp
 obtain ⟨w1,ko⟩:=nM (w.alloc (Z4 (aq D L G t1 f1 n1) 142));rw [ko] at K l Z;have I:=z.keep (l.block _ z.lt);have C:=ho.below l;have k9:=C.below ((T6 _ w1).drew);have q0:=lJ k9.vol 1 (by omega);obtain ⟨H,kr⟩:=nM (cB (λi=>A.R5 i 1) A.n);have q5:H<2^(D+L+G):=by rw [<- kr,<- ho.vol.n];exact iY _ _ (by omega)
 have ca:=sE I;have qc:w.alloc (Z4 #[Z7 Z9 D,Z7 Z9 L,Z7 Z9 G,Z7 Z8 t1,Z7 Z9 f1,Z7 Z9 n1] 142)=w1:=ko;have c:=a7 I C K l Z q0;have HV:=hide8 ho z J a M m u x;clear z K l I C k9 Z ko q0 J a M ho m u x;show ZS ZN 91 #[Z6 (ZX ⟨ar,0,ZY⟩),.agg #[Z7 Z9 D,Z7 Z9 L,Z7 Z9 G,Z7 Z8 t1,Z7 Z9 f1,Z7 Z9 n1],Z5 (ZX ⟨g,0,ZY⟩) A.n A.n] w _;go_enter func91,ntmps91;go_upto_region 1 with fail;go_cut [19] from 8 to 18 (λ_v wx=>∃ X,wx=X.setCell ⟨v,5,ZY⟩ (Z7 Z8 (H:Nat))/\az X p A F/\aa F.S w1 X)
 case first=>
  go_region_with (first
   | (go_at_call 89;refine c.o.2.2.2.2.2.mono ?_;rintro e w2 ⟨g2,rfl,q7,hx,hm,kg⟩;have H2:=aE hx hm kg;have qf:=sE (c.o.1.keep (kg.block _ c.o.1.lt c.o.2.1.nar));clear hx hm kg q7)
   | (go_at_call 93;refine (u9 (λi=>A.R5 i 1) (by omega) H2.o.1).mono ?_;rw [kr];rintro e w3 ⟨rfl,ki⟩;have kb:aa (F.S) w1.drew w3:=H2.o.2.2.trans (aa.RT ki _);have qg:=sE (c.o.1.keep (kb.block _ c.o.1.lt c.o.2.1.nar));obtain ⟨qh,qi⟩:=Pn (c.o.2.1.vol.vol.keep (kb.block _ c.o.2.1.vol.vol.lt c.o.2.1.vol.v));have H3:=al ki kb;clear ki kb))
  all_goals (go_wp2_with fail;go_meet;case rel=>(
   exact ⟨w3,rfl,H2.o.2.1.below H3.o.1 lR,(aa.drew w1).trans H3.o.2⟩))
 case rest=>
  obtain ⟨X,rfl,hp,V⟩:=hcut;obtain ⟨I,C,K,l,Z,_⟩:=c.o;obtain ⟨ho,z,J,a,M,m,u,x⟩:=HV.o;have k0:aa (λj=>F.S j\/j=v\/ps.bl j) w1 X:=V.mono λ_ _ q=>.inl q;have ky:=C.same V hp;have km:=ky.TB q5;have k8:aa (λk=>k=v) X (X.setCell ⟨v,5,ZY⟩ (Z7 Z8 (H:Nat))):=aa.setCell _ _ _ rfl;have ka:v≠ar:=by have:=ho.vlt;omega
  have ke:=C.arc k0 I;have kf:=ke.keep (k8.block _ ke.lt (λe=>ka e.symm));have U:(X.setCell ⟨v,5,ZY⟩ (Z7 Z8 (H:Nat))).heap[w.heap.size]?=ZX (Z4 (aq D L G t1 f1 n1) 142 (0,0)):=(k8.block _ (by have:=V.size;omega) (by have:=ho.vol.vol.lt;omega)).trans ((V.block _ (by omega) (λe=>by have:=J _ e;omega)).trans K);have Q:aa (λj=>F.S j\/j=v\/ps.bl j) w1 (X.setCell ⟨v,5,ZY⟩ (Z7 Z8 (H:Nat))):=k0.trans (k8.mono λ_ _ q=>.inr (.inl q));have O:(X.setCell ⟨v,5,ZY⟩ (Z7 Z8 (H:Nat))).rowIs g 215 A.n (λi=>fU (A.R5 i 0)):=((a.of_block (l.block _ a.lt)).of_block (V.block _ (by have:=a.lt;omega) M)).of_block (k8.block _ (by have:=a.lt;have:=V.size;omega) (λe=>by
   obtain ⟨cs,W,_⟩:=a;have h2:=ho.vol.vol;rw [<- e] at h2;have h:w.heap[g]?=ZX (Z4 #[Z6 (ZX ⟨p,0,ZY⟩),Z7 Z9 D,Z7 Z9 L,Z7 Z9 G,Z6 (ZX ⟨ps.ps,0,ZY⟩),Z7 Z8 ps.ho] 139 (0,0)):=h2;rw [W] at h;simp only [US,Vl] at h;exact absurd h.2.1 (by decide)))
  obtain ⟨Y,hY⟩:=nM (X.setCell ⟨v,5,ZY⟩ (Z7 Z8 (H:Nat)));rw [hY] at km kf U Q O ⊢;have kj:=rQ (t1:=t1) km kf (⟨hv.sh,hv.re,hv.pk,hv.re _ _ hv.kind⟩:A2 D L G Kind (ps.TB H)) q9 qb m;rw [u,x] at kj;have HL:=a5 kj U Q O;clear I C K l Z ho z J a M k0 ky km k8 ke kf U Q kj ca hY hp V O ka m u x;go_wp2_with (show wpList _ _ _ ({ dst:=ZX 21,op:=_,type:=_,pos:=_,after:=_,guard:=_ }::_) _ _;refine kR (D:=D) (L:=L) (G:=G) (t:=t1) (f:=f1) (n:=n1) (b:=w.heap.size) rfl (Z1 4) rfl rfl (by rfl) (by exact HL.o.2.1) ?_);refine HL.o.1.mono ?_;rintro e w4 ⟨kc,kh⟩;obtain ⟨_,U,Q,O⟩:=HL.o;obtain ⟨ho,z,J,a,M,m,u,x⟩:=HV.o;obtain ⟨I,C,K,l,Z,_⟩:=c.o;have k7:aa (λj=>F.S j\/j=v\/ps.bl j\/j=ar) w w4:=((aa.RT l _).trans (Q.mono λj _ q=>by
   rcases q with q|q|q
   . exact .inl q
   . exact .inr (.inl q)
   . exact .inr (.inr (.inl q)))).trans kc
  obtain ⟨E,qd,hb,rfl,kx,N⟩:=kh;have q2:cJ (∀ k,E.bl k->ps.bl k\/w.heap.size<=k):=ak λk hk=>(kx.2 k hk).imp id λq=>TZ (TZ l.size Q.size) q;have kv:w4.rowIs g 215 A.n (λi=>fU (A.R5 i 0)):=O.of_block (kc.block _ O.lt (λq=>by
   rcases q with q|q|q|q
   . exact M q
   . obtain ⟨cs,W,_⟩:=a;have h:w.heap[v]?=ZX (Z4 #[Z6 (ZX ⟨p,0,ZY⟩),Z7 Z9 D,Z7 Z9 L,Z7 Z9 G,Z6 (ZX ⟨ps.ps,0,ZY⟩),Z7 Z8 ps.ho] 139 (0,0)):=ho.vol.vol;rw [<- q,W] at h;simp only [US,Vl] at h;exact absurd h.2.1 (by decide)
   . obtain ⟨cs,W,_⟩:=a;exact cP ho.kit W (by unfold rM;decide) q
   . obtain ⟨cs,W,_⟩:=a;have h:w.heap[ar]?=ZX (Z4 _ 146 (0,0)):=z;rw [<- q,W] at h;simp only [US,Vl] at h;exact absurd h.2.1 (by decide)))
  have T:w4.heap[w.heap.size]?=ZX (Z4 (aq D L G t1 f1 n1) 142 (0,0)):=(kc.block _ (T5.1 U).1 (λq=>by
   rcases q with q|q|q|q
   . have:=J _ q;omega
   . have:=ho.vol.vol.lt;omega
   . have q':ps.bl w.heap.size:=q;have:=ps.lt _ ho.kit _ q';omega
   . omega)).trans U
  have q1:=FP (w:=w4.drew) (R:=λi=>A.R5 i 0) (r:=.root D L G t1 f1 n1) (by omega) trivial (λi hi=>by rw [<- u,<- x];exact F0 m.root hi) (kv.of_block rfl);have kz:(bz.root D L G t1 f1 n1).ok:=by
   have h1:=ho.vol.par.d;have h2:=ho.vol.par.l4;have h:=ho.vol.par.g;have h4:=N.packL_le;have h5:f1<A.nb:=by
    rw [<- u];exact (m.TM _ (UO _ (lZ (by rw [m.pl];unfold pgs;omega)))).2
   exact ⟨by omega,by omega,by omega,by omega,by omega,by omega⟩
  have ks:∀ y,y<2^A.n->∀ wx,az wx p (A.putAt (ab y) 0 (λ_=>.root D L G t1 f1 n1)) F->aa F.S w4 wx->∃ B,fj A B/\a9 wx ar v p E D L G t1 qd hb P xs B F:=λy hy wx hB hO=>by
   have hg:=F2 m (ab y) λi hi=>Nk hy hi;rw [u,x] at hg;exact ⟨_,hg.2,Jv N (N.arc.keep (hO.block _ N.arc.lt N.nar)) hB (hO.mono λ_ _ q=>.inr q) hg.2 hg.1⟩
  have z0:w4.cell? ⟨w.heap.size,0,ZY⟩=ZX (Z7 Z9 D):=by simp [World.cell?,T,aq]
  have z1:w4.cell? ⟨w.heap.size,1,ZY⟩=ZX (Z7 Z9 L):=by simp [World.cell?,T,aq]
  have z2:w4.cell? ⟨w.heap.size,2,ZY⟩=ZX (Z7 Z9 G):=by simp [World.cell?,T,aq]
  have z3:w4.cell? ⟨w.heap.size,3,ZY⟩=ZX (Z7 Z8 t1):=by simp [World.cell?,T,aq]
  have z4:w4.cell? ⟨w.heap.size,4,ZY⟩=ZX (Z7 Z9 f1):=by simp [World.cell?,T,aq]
  have z5:w4.cell? ⟨w.heap.size,5,ZY⟩=ZX (Z7 Z9 n1):=by simp [World.cell?,T,aq]
  have qe:=sE N.arc;have H4:=a6 N q1 kz k7 ks;clear U Q O ho z J a M I C K l Z k7 kc kv T q1 kz N ks m u x;go_upto_region 5 with fail;go_cut [36] from 26 to 35 (λ_v wx=>(∃ B,fj A B/\a9 wx ar v p E D L G t1 qd hb P xs B F)/\aa F.S w4 wx)
  case first=>
   go_region_with (first
    | (go_at_call 117;refine H4.o.2.1.mono ?_;rintro e w5 ⟨y,rfl,hy,rfl⟩;have HY:=ak hy;clear hy)
    | (go_at_call 118;refine (gT (H4.o.1.vol.below ((T6 _ w4).drew) lR) 0 y (by omega) (T9 HY.o (m6 kk)) (λi hi=>Nk HY.o hi) (.root D L G t1 f1 n1) H4.o.2.2.1).mono ?_;rintro e w6 ⟨rfl,hn,kp⟩;have H6:=al hn kp;clear hn kp))
   all_goals (go_wp2_with fail;go_meet;case rel=>exact ⟨H4.o.2.2.2.2 y HY.o _ H6.o.1 ((aa.drew w4).trans H6.o.2),(aa.drew w4).trans H6.o.2⟩)
  case rest=>
   have HF:=ak hcut;clear hcut qe;go_wp2;go_ret;obtain ⟨⟨B,hB,q8⟩,q3⟩:=HF.o;exact ⟨H4.o.2.2.2.1.trans (q3.mono λ_ _ q=>.inl q),⟨E,_,_,_,B,rfl,⟨kx.1,q2.out⟩,hB,q8⟩⟩
def oX:∀ k,(∀ i,i<k->R i=ZY\/R i=ZX .blank)->bx R k=⟨0,0,0,0,0,0⟩
 | 0,_=>rfl
 | k+1,h=>by
  show l9 (bx R k) (R k)=_;rw [oX k λi a=>h i (by omega)];rcases h k (by omega) with e|e<;>rw [e]<;>rfl
def rj (h:R i=ZX .blank):∀ k,i<k->(cB R k).testBit i=ZW
 | 0,hi=>absurd hi (XH _)
 | k+1,hi=>by
  show (FK (cB R k) k (R k)).testBit i=ZW;by_cases e:i=k
  . subst e;rw [h];show (cB R i|||2^i).testBit i=ZW;simp
  . have ih:=rj h k (by omega);cases hb:sC (R k)
    . rw [G7 hb];exact ih
    . have a:FK (cB R k) k (R k)=cB R k|||2^k:=by
       cases hR:R k with
       | none=>rw [hR] at hb;cases hb
       | some r=>cases r<;>first|rfl|(rw [hR] at hb;cases hb)
      rw [a,VZ,ih,Bool.true_or]
def JX {lost:Nat} (b:D<=12) (c:G<=4) (h:∀ i,i<D+L+G->lost/2^i%2=0):gW D L G lost:=
 mP.units (nI (λl hl=>oG D L G b c l (tj _ _ _ (by rw [cO];omega) l hl)) 0) λj a=>aV.mem (jX j) ((nZ _ _ _ _).2 ⟨j,by omega,h j (by omega),by rw [KV D L G j a,KU D j a]⟩)
def Po (x:Nat) (h:x<2^64):(2^64-1)^^^x=2^64-1-x:=by
 refine XR λi=>?_;rw [abM,Xz,show 2^64-1-x=2^64-(x+1) by omega,Xy h];by_cases a:i<64
 . simp [a]
 . have:x.testBit i=ZV:=Xb (T9 h (U9 (by decide) (by omega)));simp [a,this]
def Pp (x:Nat) (h:x<18446744073709551616):bits .xor .u64 IntKind.u64.max (x:Int)=((18446744073709551615-x:Nat):Int):=by
 have:=bits_xor_u64_nat 18446744073709551615 x (by decide) h;rw [show (18446744073709551615:Nat)=2^64-1 by decide,Po x (by omega)] at this;exact this
def rk (c:0<t):∀ k,(∀ i,i<k->Fnd (R i) (.root D L G t f n))->(bx R k=⟨D,L,G,t,f,n⟩)\/(bx R k=⟨0,0,0,0,0,0⟩/\∀ i,i<k->R i=ZY\/R i=ZX .blank)
 | 0,_=>.inr ⟨rfl,λ_ h=>absurd h (XH _)⟩
 | k+1,h=>by
  show (l9 (bx R k) (R k)=_)\/(l9 (bx R k) (R k)=_/\_);have ih:=rk c k λi b=>h i (by omega);rcases h k (by omega) with e|e|e
  . rw [e];refine ih.imp id λq=>⟨q.1,λi b=>?_⟩;by_cases a:i=k
    . rw [a];exact .inl e
    . exact q.2 i (by omega)
  . rw [e];refine ih.imp id λq=>⟨q.1,λi b=>?_⟩;by_cases a:i=k
    . rw [a];exact .inr e
    . exact q.2 i (by omega)
  . rw [e];refine .inl ?_;rcases ih with q|q
    . rw [q];exact TW (Nat.lt_irrefl _)
    . rw [q.1];exact TX c
def Beg (A:aC) (D L G t:Nat) (xs:aX):Prop:=(t=1/\xs=[]/\∀ i,i<A.n->A.rc i 0=.blank)\/(t<=1000000/\∃ P,du A D L G t P xs)
def Nl {A:aC} (h:¬ A.S6 i) (b:Nat):A.R5 i b=ZX (A.rc i b):=by
 cases hg:gnB A b i
 . exact Mo hg
 . exact absurd (M9 hg) h
def G9 {l:Nat}:l/2^i%2=0↔l.testBit i=ZV:=by
 rw [Wy,decide_eq_false_iff_not];omega
def Nn {A:aC} {xs:aX} (h:Beg A D L G t xs) (y:A.n=D+L+G) (w:A.n<=16) (r:1<=D) (s:A.fine D L G):(∃ P,t<=1000000/\du A D L G t P xs/\bx (λi=>A.R5 i 0) A.n=⟨D,L,G,t,P.getD 0 0,(aj xs.os).length⟩) \/
 (bx (λi=>A.R5 i 0) A.n=⟨0,0,0,0,0,0⟩/\t=1/\xs=[]/\gW D L G (18446744073709551615-cB (λi=>A.R5 i 0) A.n)):=by
 obtain ⟨S,l,j⟩:=s;rcases h with ⟨p,f,g⟩|⟨u,P,d⟩
 . refine .inr ⟨oX _ λi a=>(F0 g a).imp id λq=>q.elim id id,p,f,xu _ S _ _ D (λi a o=>?_) l⟩;have c:=rj (R:=λi=>A.R5 i 0) (i:=i) (by rw [Nl (λq=>by have:=j i q;rw [G9.1 o] at this;cases this),g i (by omega)]) A.n (by omega);have hl:=iY (λi=>A.R5 i 0) A.n (by omega);have f:=BY (k:=A.n) (by omega);rw [G9];have e:=Xy (x:=cB (λi=>A.R5 i 0) A.n) (n:=64) (by omega) i;rw [show 2^64-(cB (λi=>A.R5 i 0) A.n+1)=18446744073709551615-cB (λi=>A.R5 i 0) A.n by omega,c] at e;rw [e];simp
 . rcases rk d.turn A.n (λi a=>F0 d.root a) with q|⟨q,v⟩
   . exact .inl ⟨P,u,d,q⟩
   . refine absurd l (Ib _ _ _ _ r λi a=>?_);have c:=j i (by
      by_cases m:A.S6 i
      . exact m
      . have b:=v i (by omega);simp only [Nl m,d.root i (by omega)] at b;rcases b with b|b<;>cases b)
     rw [Wy] at c;exact Wx c
def F4 {A:aC} (ho:wB w ar v p ps D L G A F) (q:5<=A.nb) (d:A.nb<=1000) (h:az w' p (nB A D L G) F) (j:bC w' ar v D L G 1 2 0 u (Z5 ZY 0 0) ZV) (o:bg (λk=>w.heap.size<=k) w' u [2]) (b:aa (λk=>k=ar\/F.S k) w w'):a9 w' ar v p ps D L G 1 u (Z5 ZY 0 0) [2] [] (nB A D L G) F/\fj A (nB A D L G):=by
 have r:=ho.vlt;have f:pgs D 0=1:=by
  unfold pgs;have:=ho.vol.par.d1;rw [Um,Xv (by omega)];rfl
 have a:fj A (nB A D L G):=fj.trans (B:=A.putAt (YF A.n) 1 (λ_=>.filled)) (fj.put _ _ _ _) (AS (A.putAt (YF A.n) 1 (λ_=>.filled)) D L G 1 [2] []);have l:du (nB A D L G) D L G 1 [2] []:=qw (B:=A.putAt (YF A.n) 1 (λ_=>.filled)) (P':=[2]) (xs':=[]) (λi m=>uJ _ _ _ m) (show [2].length=pgs D 0 from f.symm) (by decide) (λx c=>by
  have:x=2:=by simpa [ah,aX.os] using c
  rw [this];show 2<=2/\2<A.nb;omega) (λx c=>by cases c) List.Pairwise.nil (λx c=>by cases c) (by show 0+2*1+2<=A.nb;omega) (by decide)
 exact ⟨{ arc:=j,fine:=a.fine ho.fine,vol:={ ho.vol with vol:=ho.vol.vol.keep (b.block _ ho.vol.vol.lt (λe=>e.elim (by omega) ho.vol.v)),arr:=h,laid:=ho.vol.laid.keep (b.block _ ho.vol.laid.lt (λe=>e.elim (by omega) ho.vol.g)),tab:=ho.vol.tab.keep (b.block _ ho.vol.tab.lt (λe=>e.elim (by omega) ho.vol.t)),room:=TZ ho.vol.room b.size,n:=a.n.trans ho.vol.n },nar:=ho.nar,vlt:=ho.vlt,disk:=l,pgs:=o.wk λk a _=>⟨by have:=ho.arl;omega,λe=>by have:=ho.vol.arr.RS (k:=k) e;omega,λe=>by have:=ps.lt _ ho.kit _ e;omega⟩,cat:=fa.nil _ _,nb:=by rw [a.nb];exact d,turn:=by decide,kit:=ps.keep _ _ ho.kit λk a=>b.block k (ps.lt _ ho.kit k a) (λe=>e.elim (ho.apt k a).2.1 (ho.apt k a).2.2.2),apt:=ho.apt,hl:=ho.hl },a⟩
theorem No {xs:aX} {A:aC} (ho:wB w ar v p ps D L G A F) (T:bC w ar v 0 0 0 0 0 0 (Z5 ZY 0 0) (Z5 ZY 0 0) ZV) (hv:A2 D L G Kind ps) (qb:5<=A.nb) (ke:A.nb<=1000) (hS:Beg A D L G tt xs) :
 ZS ZN 68 #[Z6 (ZX ⟨ar,0,ZY⟩)] w (FZ w ar v p D L G tt Kind ps xs A F):=by
 obtain ⟨c0,_⟩:=T.cells;have O:=ho.vol.par;have qa:=ho.vol.n;have kc:A.n<=16:=by rw [ho.vol.n];exact O.s
 have x:=Nn hS qa kc O.d1 ho.fine;have k6:∀ k,F.S k->k<w.heap.size:=λk hk=>ho.vol.arr.RS hk;have q6:=lJ ho.vol 0 (by omega);have HV:=a5 ho T k6 hS;clear ho T k6 hS;go_enter func68,ntmps68;go_wp2_with fail;refine q6.mono ?_;rintro e w1 ⟨g,rfl,hg,R,kx,U⟩;obtain ⟨ho,T,k6,_⟩:=HV.o;have kf:=ho.same U kx;have hz:=T.keep (U.block _ T.lt ho.nar);have W:¬ F.S g:=λe=>by have:=k6 _ e;omega
 have kb:=AZ (N:=A.n) (λi=>A.R5 i 0) (by omega) (w:=w1) R;obtain ⟨⟨a,l,c,rt,H,I⟩,q7⟩:∃ r,bx (λi=>A.R5 i 0) A.n=r:=⟨_,rfl⟩;rw [q7] at kb x;rw [show JF ⟨a,l,c,rt,H,I⟩=aq a l c rt H I from rfl] at kb;have hj:(0<rt/\a=D/\l=L/\c=G)\/rt=0:=by
  rcases x with ⟨P,_,hd,q⟩|⟨q,_⟩
  . simp only [Rt.mk.injEq] at q;exact .inl ⟨by rw [q.2.2.2.1];exact hd.turn,q.1,q.2.1,q.2.2.1⟩
  . simp only [Rt.mk.injEq] at q;exact .inr q.2.2.2.1
 obtain ⟨N,y⟩:=nM (A.n);have H1:=hide7 hz kf U R y W x;rw [y] at kb kc;clear hz kf U R kx q6 ho T k6 W q7 x;rw [y];clear y;go_wp2_with fail;refine kb.mono ?_;rintro e w2 ⟨rfl,ko⟩;have qg:=xV;obtain ⟨hz,kf,U,R,y,W,x⟩:=H1.o;have k5:bW w1 (fR w2 a l c rt H I):=ko.trans ((eZ w2 a l c rt H I).mono ko.size);have M:=hz.keep (k5.block _ hz.lt);have Y:=kf.below k5;have V:=R.of_block (k5.block g R.lt);have C:=uZ w2 a l c rt H I;obtain ⟨w3,kv⟩:=nM (fR w2 a l c rt H I);rw [kv] at k5 M Y V C;have x0:w3.cell? ⟨w2.heap.size,0,ZY⟩=ZX (Z7 Z9 a):=by simp [World.cell?,C,aq]
 have x1:w3.cell? ⟨w2.heap.size,1,ZY⟩=ZX (Z7 Z9 l):=by simp [World.cell?,C,aq]
 have x2:w3.cell? ⟨w2.heap.size,2,ZY⟩=ZX (Z7 Z9 c):=by simp [World.cell?,C,aq]
 have x3:w3.cell? ⟨w2.heap.size,3,ZY⟩=ZX (Z7 Z8 rt):=by simp [World.cell?,C,aq]
 obtain ⟨d0,_⟩:=M.cells;have k7:aa (F.S) w w3:=U.trans (aa.RT k5 _);have q8:=kJ (w:=w3.drew) (Y.vol.vol.keep rfl);have H3:=hide7 M Y V k7 kv C q8;clear hz kf U R ko k5 M Y V C k7 kv c0 y W kb q8 x;have qc:∀ w:ZU,(binOp .neq 27 (.agg #[Z7 Z9 D,Z7 Z9 L,Z7 Z9 G]) (.agg #[Z7 Z9 D,Z7 Z9 L,Z7 Z9 G])).run ZN w=.ok (Z2 ZV) w:=λw=>by
  have h:=MY D L G D L G w;rw [U1 (by exact ⟨rfl,rfl,rfl⟩)] at h;simp only [binOp];simp [Op.equal,Op.maxDepth,h]
 go_upto_region 3 with (show wpList _ _ _ ({ dst:=ZY,op:=Op.store 142 (Z1 4) (Z1 11),type:=_,pos:=_,after:=_,guard:=_ }::_) _ _;refine AY (w:=w2) (D:=a) (L:=l) (G:=c) (t:=rt) (f:=H) (n:=I) rfl (Z1 4) (Z1 11) rfl (by rfl) (by rfl) ?_;rw [H3.o.2.2.2.2.1]);simp only [Act.put];go_cut [12] from 13 to 25 (λqj wx=>bW w3 wx/\qj=Z2 ZV)
 case first=>
  rcases hj with ⟨q5,rfl,rfl,rfl⟩|h0
  . have ks:(rt:Int)>0:=(by omega);have km:cJ (w2.heap.size<w3.drew.heap.size):=ak (Ui x0);go_region_with (go_at_call 77;refine H3.o.2.2.2.2.2.2.mono ?_;rintro e w4 ⟨rfl,k9,_,_⟩;have K:=ak k9;have y0:w4.cell? ⟨w2.heap.size,0,ZY⟩=ZX (Z7 Z9 a):=(k9.cell (p:=⟨w2.heap.size,0,ZY⟩) km.out).trans x0;have y1:w4.cell? ⟨w2.heap.size,1,ZY⟩=ZX (Z7 Z9 l):=(k9.cell (p:=⟨w2.heap.size,1,ZY⟩) km.out).trans x1;have y2:w4.cell? ⟨w2.heap.size,2,ZY⟩=ZX (Z7 Z9 c):=(k9.cell (p:=⟨w2.heap.size,2,ZY⟩) km.out).trans x2;clear k9);all_goals (go_wp2_with fail;go_meet;case rel=>exact ⟨(T6 _ w3).drew.trans K.o,by simp⟩)
  . have qk:w3.cell? ⟨w2.heap.size,3,ZY⟩=ZX (Z7 Z8 0):=(by rw [x3,h0];rfl);clear x3;go_quiet (fail);go_wp2_with fail;go_meet
    case rel=>exact ⟨⟨rfl,rfl,rfl,TY _,λ_ _=>rfl⟩,rfl⟩
 case rest=>
  rename ZU=>w4;obtain ⟨h6,rfl⟩:=hcut;obtain ⟨M,Y,V,k7,_,C,_⟩:=H3.o;have m:=M.keep (h6.block _ M.lt);have E:=Y.below h6;have z:=V.of_block (h6.block g V.lt);have ky:aa (F.S) w w4:=k7.trans (aa.RT h6 _);have hy:=(h6.block _ (T5.1 C).1).trans C;have c3:w4.cell? ⟨w2.heap.size,3,ZY⟩=ZX (Z7 Z8 rt):=by simp [World.cell?,hy,aq]
  obtain ⟨d4,_⟩:=m.cells;have J:aa (λj=>F.S j\/j=v\/ps.bl j\/j=ar) w w4:=ky.mono λ_ _ q=>.inl q;have K:=a6 m E z J hy;clear M Y V k7 C m E z ky J hy h6 x0 x1 x2 x3 d0 qc;rcases hj with ⟨ks,rfl,rfl,rfl⟩|rfl
  . have qf:(rt:Int)>0:=(by omega);obtain ⟨m,E,z,J,hy⟩:=K.o;obtain ⟨_,_,_,_,y,W,x⟩:=H1.o;obtain ⟨P,ht,hd,q⟩:∃ P,tt<=1000000/\du A a l c tt P xs/\(⟨a,l,c,rt,H,I⟩:Rt)=⟨a,l,c,tt,P.getD 0 0,(aj xs.os).length⟩:=by
     rcases x with h|⟨q,_⟩
     . exact h
     . simp only [Rt.mk.injEq] at q;omega
    simp only [Rt.mk.injEq,true_and] at q;obtain ⟨rfl,rfl,rfl⟩:=q;have kj:=F3 E m hv ke ht hd z W;rw [y] at kj;obtain ⟨H,qd⟩:=nM (P.getD 0 0);obtain ⟨I,qe⟩:=nM ((aj xs.os).length);rw [qd,qe] at hy kj;have HR:=al kj hy;clear m E z J hy y W x kj hd;go_wp2_with (show wpList _ _ _ ({ dst:=ZX 32,op:=_,type:=_,pos:=_,after:=_,guard:=_ }::_) _ _;refine kR (D:=a) (L:=l) (G:=c) (t:=rt) (f:=H) (n:=I) (b:=w2.heap.size) rfl (Z1 4) rfl rfl (by rfl) (by exact HR.o.2) ?_);refine HR.o.1.mono ?_;intro e w5 hp;obtain ⟨ev,he⟩:∃ ev,e=Z3 ev:=by
     obtain ⟨_,_,_,_,_,rfl,_⟩:=hp.ans;exact ⟨_,rfl⟩
    subst he;have Q:=ak hp;clear hp;go_wp2;go_ret;obtain ⟨qi,pg5,qh,P5,B,k0,k1,k2⟩:=Q.o.ans;exact ⟨K.o.2.2.2.1.trans Q.o.out,qi,pg5,qh,P5,B,k0,⟨k1.1,λk hk=>(k1.2 k hk).imp id λq=>TZ K.o.2.2.2.1.size q⟩,k2⟩
  . have hb:w4.cell? ⟨w2.heap.size,3,ZY⟩=ZX (Z7 Z8 0):=c3;clear c3;go_wp2_with fail;refine (vX K.o.2.1.vol.vol).mono ?_;rintro e w5 ⟨rfl,kp⟩;obtain ⟨m,E,z,J,_⟩:=K.o;have kz:=z.of_block (kp.block g z.lt);obtain ⟨_,_,_,_,y,_,x⟩:=H1.o;have kr:=u9 (N:=A.n) (λi=>A.R5 i 0) (by omega) (w:=w5) kz;obtain ⟨X,hX⟩:=nM (cB (λi=>A.R5 i 0) A.n);have q9:X<18446744073709551616:=by
     have h1:=iY (λi=>A.R5 i 0) A.n (by omega);have h2:=BY (k:=A.n) (by omega);omega
    have hT:tt=1/\xs=[]/\gW D L G (18446744073709551615-X):=by
     rcases x with ⟨_,_,hd,q⟩|⟨_,h1,h2,h3⟩
     . simp only [Rt.mk.injEq] at q;have:=hd.turn;omega
     . exact ⟨h1,h2,by rw [<- hX];exact h3⟩
    have key:=Pp X q9;rw [hX,y] at kr;have Q:=aE kp kr hT;clear m E z J kp kz kr hX hT y x;go_wp2_with fail;refine Q.o.2.1.mono ?_;rintro e w6 ⟨rfl,q1⟩;have ka:bW w4 w6:=Q.o.1.trans (q1.mono Q.o.1.size);have H6:=ak ka;clear ka q1;go_wp2_with fail;refine (lf D L G (18446744073709551615-X) O.r O.d O.l1 O.l4 O.g O.div (by omega) w6).mono ?_;rintro e w7 ⟨bb,rfl,q3,q2⟩;obtain ⟨m,E,z,J,_⟩:=K.o;have hh:bW w4 w7:=H6.o.trans (q2.mono H6.o.size);have q0:=m.keep (hh.block _ m.lt);have Z:=E.below hh;have kh:aa (λj=>F.S j\/j=v\/ps.bl j\/j=ar) w w7:=J.trans (aa.RT hh _);obtain ⟨rfl,rfl,hT⟩:=Q.o.2.2;obtain rfl:bb=ZW:=q3.2 hT;have q4:=I0 q0 Z.vol Z.nar (by omega) Z.fine;have H7:=aE q4 Z kh;clear m E z J hh q0 Z q4 kh q3 q2 key hb d4 hT;go_wp2_with fail;refine H7.o.1.mono ?_;rintro e w8 ⟨rfl,kg,⟨u,ki,kk⟩,k8⟩;have H8:=a5 kg ki kk k8;clear kg ki kk k8;go_wp2;go_ret;obtain ⟨kg,ki,kk,k8⟩:=H8.o;obtain ⟨_,Z,kh⟩:=H7.o;obtain ⟨hl,hk⟩:=F4 Z qb ke kg ki kk k8;exact ⟨kh.trans (k8.mono λk _ q=>q.elim (λe=>.inr (.inr (.inr e))) .inl),ps,_,_,_,_,rfl,⟨hv.kind,λ_ q=>.inl q⟩,hk,hl⟩
def aaa {sb:Nat} {room:Int} (h:pM w sb room) (D L G:Nat):gP w sb room D L G [] []:=by
 obtain ⟨d,⟨n,f⟩,g,_⟩:=h.parts;refine ⟨d,h.R7,⟨n,f⟩,⟨λ_=>⟨0,0,0,0,ZV,0,Z5 ZY 0 0⟩,λ_=>sb,λ_=>sb,λa c=>?_,⟨rfl,rfl⟩,λq b=>by cases b⟩,by simp [jW],by simp [cT],λe i=>(by cases i),λq b=>(by cases b),rfl,λq b=>(by cases b),λq b=>(by cases b),λq b=>(by cases b),λq b=>(by cases b)⟩;rcases c with rfl|c
 . exact g
 . cases c
def Np (w:ZU) (p D L G t:Nat) (cache:Int) (xs:aX) (A:aC) (F:aH) (ar:Nat) (w':ZU):Prop:=∃ v sb ps pg ob P B,a9 w' ar v p ps D L G t pg ob P xs B F/\fj A B/\m9 sb cache D L G ps/\w.heap.size<=v/\w.heap.size<=ar/\∀ k,ps.bl k->w.heap.size<=k
structure aab (w:ZU) (p D L G t:Nat) (cache:Int) (xs:aX) (A:aC) (F:aH) (e:ZQ) (w':ZU):Prop where
 out:aa F.S w w'
 ans:∃ ar,e=Z3 (ZZ #[Z6 (ZX ⟨ar,0,ZY⟩),.nilIface])/\Np w p D L G t cache xs A F ar w'
structure JY (w:ZU) (p D L G t:Nat) (cache:Int) (xs:aX) (A:aC) (F:aH):Prop where
 arr:az w p A F
 n:A.n=D+L+G
 par:zQ D L G
 c0:0<=cache
 c1:cache<=64
 nb:8<=A.nb
 nb2:A.nb<=1000
 laid:bh w
 tab:aJ w
 room:3<=w.heap.size
 g:¬ F.S 2
 gt:¬ F.S 1
 beg:Beg A D L G t xs
 fine:A.fine D L G
def JY.below {xs:aX} {A:aC} (h:JY w p D L G t cache xs A F) (a:bW w w'):JY w' p D L G t cache xs A F:=
 { h with arr:=h.arr.below a lR,laid:=h.laid.below a h.laid.lt,tab:=h.tab.keep (a.block _ h.tab.lt),room:=TZ h.room a.size }
theorem Nq {xs:aX} {A:aC} (HP:JY w p D L G tt cache xs A F) :
 ZS ZN 44 #[Z6 (ZX ⟨p,0,ZY⟩),.agg #[Z7 Z9 D,Z7 Z9 L,Z7 Z9 G],.agg #[Z7 Z9 cache]] w (aab w p D L G tt cache xs A F):=by
 obtain ⟨h,hn,u,qz,x0,x1,kr,hv,ht,hK,qf,qg,hS,qj⟩:=HP;have qh:∀ (args:Array ZT) (w:ZU),(callFunc 68 args).run ZN w=.ok (.enter 68 args) w:=VC func68 (by kernel_rfl) rfl;have f:((w.alloc (Z4 #[Z7 Z9 (D:Int),Z7 Z9 (L:Int),Z7 Z9 (G:Int)] 27)).alloc (Z4 #[Z7 Z9 cache] 86)).heap[w.heap.size]?=ZX (Z4 #[Z7 Z9 (D:Int),Z7 Z9 (L:Int),Z7 Z9 (G:Int)] 27 (0,0)):=(Uy _ _ _ (by simp)).trans (Uk _ _);have ho:((w.alloc (Z4 #[Z7 Z9 (D:Int),Z7 Z9 (L:Int),Z7 Z9 (G:Int)] 27)).alloc (Z4 #[Z7 Z9 cache] 86)).heap[w.heap.size+1]?=ZX (Z4 #[Z7 Z9 cache] 86 (0,0)):=by
  have:=Uk (w.alloc (Z4 #[Z7 Z9 (D:Int),Z7 Z9 (L:Int),Z7 Z9 (G:Int)] 27)) (Z4 #[Z7 Z9 cache] 86);rwa [Uw] at this
 have m:bW w ((w.alloc (Z4 #[Z7 Z9 (D:Int),Z7 Z9 (L:Int),Z7 Z9 (G:Int)] 27)).alloc (Z4 #[Z7 Z9 cache] 86)):=(bA w _).alloc (by simp) _;have U:((w.alloc (Z4 #[Z7 Z9 (D:Int),Z7 Z9 (L:Int),Z7 Z9 (G:Int)] 27)).alloc (Z4 #[Z7 Z9 cache] 86)).heap.size=w.heap.size+2:=by simp
 obtain ⟨w2,qp⟩:=nM ((w.alloc (Z4 #[Z7 Z9 (D:Int),Z7 Z9 (L:Int),Z7 Z9 (G:Int)] 27)).alloc (Z4 #[Z7 Z9 cache] 86));rw [qp] at f ho m U;have p0:w2.cell? ⟨w.heap.size,0,ZY⟩=ZX (Z7 Z9 D):=by simp [World.cell?,f]
 have p1:w2.cell? ⟨w.heap.size,1,ZY⟩=ZX (Z7 Z9 L):=by simp [World.cell?,f]
 have p2:w2.cell? ⟨w.heap.size,2,ZY⟩=ZX (Z7 Z9 G):=by simp [World.cell?,f]
 have H2:=a5 f ho m U;clear f ho m U;go_enter func44,ntmps44;go_wp2_with fail;refine (pB D L G _).mono ?_;rw [u.r];rintro e w3 ⟨rfl,J⟩;obtain ⟨f,ho,m,U⟩:=H2.o;have Q:=(J.block _ (by omega)).trans f;have H:=(J.block _ (by omega)).trans ho;have z:bW w w3:=m.trans (J.mono m.size);have kx:=J.size;have o0:w3.cell? ⟨w.heap.size+1,0,ZY⟩=ZX (Z7 Z9 cache):=by simp [World.cell?,H]
 have y:=a5 Q H z (show w.heap.size+2<=w3.heap.size by omega);clear f ho m U Q H z J kx p0 p1 p2;obtain ⟨N,kj⟩:=nM (A.n);have fY:=EJ (h.below (y.o.2.2.1.trans ((T6 _ w3).drew.mono y.o.2.2.1.size)) lR);rw [kj] at fY;have R:∀ X,ZS ZN 9 #[.agg #[Z7 Z9 D,Z7 Z9 L,Z7 Z9 G]] X λe w'=>e=Z3 (Z7 Z9 (N:Nat))/\bW X w':=λX=>by
  rw [<- kj,hn,show ((D+L+G:Nat):Int)=(D:Int)+L+G by omega];have:=u.d;have:=u.l4;have:=u.g;exact dQ (D:Int) (L:Int) (G:Int) X ⟨by omega,by omega⟩ ⟨by omega,by omega⟩ ⟨by omega,by omega⟩
 have HD:=al fY R;have p0:w3.cell? ⟨w.heap.size,0,ZY⟩=ZX (Z7 Z9 D):=by simp [World.cell?,y.o.1]
 have p1:w3.cell? ⟨w.heap.size,1,ZY⟩=ZX (Z7 Z9 L):=by simp [World.cell?,y.o.1]
 have p2:w3.cell? ⟨w.heap.size,2,ZY⟩=ZX (Z7 Z9 G):=by simp [World.cell?,y.o.1]
 clear fY R kj;go_upto_region 6 with fail;go_cut [21] from 24 to 28 (λhb wx=>hb=Z2 ZV/\bW w3 wx)
 case first=>
  go_region_with (first
   | (go_at_call 66;refine HD.o.1.mono ?_;rintro e w' ⟨rfl,rfl⟩)
   | (go_at_call 9;refine (HD.o.2 _).mono ?_;rintro e a ⟨rfl,q4⟩;have V:=ak (((T6 _ w3).drew).trans q4);clear q4))
  all_goals (go_wp2_with fail;go_meet;case rel=>exact ⟨by simp,V.o⟩)
 case rest=>
 rename ZU=>w4;obtain ⟨rfl,K⟩:=hcut;clear HD p0 p1 p2;obtain ⟨Q,H,z,kx⟩:=y.o;have kh:=(K.block _ (by omega)).trans Q;have q7:=(K.block _ (by omega)).trans H;have h8:bW w w4:=z.trans (K.mono z.size);have qy:=K.size;have q5:=tV (h.below h8 lR) (by have:=u.d1;omega);have kp:¬ ((A.nb:Nat):Int)<8:=by omega
 have q0:w4.cell? ⟨w.heap.size,0,ZY⟩=ZX (Z7 Z9 D):=by simp [World.cell?,kh]
 have q1:w4.cell? ⟨w.heap.size,1,ZY⟩=ZX (Z7 Z9 L):=by simp [World.cell?,kh]
 have q2:w4.cell? ⟨w.heap.size,2,ZY⟩=ZX (Z7 Z9 G):=by simp [World.cell?,kh]
 have o4:w4.cell? ⟨w.heap.size+1,0,ZY⟩=ZX (Z7 Z9 cache):=by simp [World.cell?,q7]
 have H4:=aE h8 q5 (show w.heap.size+2<=w4.heap.size by omega);clear Q H z kx kh q7 h8 qy q5 K o0;obtain ⟨NB,kz⟩:=nM (A.nb);rw [kz] at H4 kp;clear kz;go_wp2_with fail;refine H4.o.2.1.mono ?_;rintro e w5 ⟨rfl,qq⟩;subst qq;go_wp2_with fail;refine (EH p D L G cache w5).mono ?_;rintro e w6 ⟨v,sb,rfl,qn,kf,kb,kk⟩;obtain ⟨h9,_,qd⟩:=H4.o;have ha:bW w w6:=h9.trans (kk.mono h9.size);have qe:=kk.size;have M:bW w6 (w6.alloc (Z4 (nv v 0 0 0 0 0 0 (Z5 ZY 0 0) (Z5 ZY 0 0) ZV) 146)):=bA w6 _;have E:bC (w6.alloc (Z4 (nv v 0 0 0 0 0 0 (Z5 ZY 0 0) (Z5 ZY 0 0) ZV) 146)) w6.heap.size v 0 0 0 0 0 0 (Z5 ZY 0 0) (Z5 ZY 0 0) ZV:=Uk _ _;obtain ⟨a,ks⟩:=nM (w6.alloc (Z4 (nv v 0 0 0 0 0 0 (Z5 ZY 0 0) (Z5 ZY 0 0) ZV) 146));rw [ks] at M E;have i:bW w a:=ha.trans (M.mono ha.size);have q3:pH a v p D L G (sb+1+1+1) 0 A F:=⟨kf.keep (M.block _ kf.lt),h.below i lR,hv.below i hv.lt,ht.keep (i.block _ ht.lt),TZ hK i.size,λq=>by have:=h.RS q;omega,qf,qg,hn,u⟩;have C:∀ k,F.S k->k<w.heap.size:=λk c=>h.RS c;have hs:¬ F.S w6.heap.size:=λq=>by have:=C _ q;omega
 have ki:w6.heap.size<a.heap.size:=E.lt;have qb:v<w6.heap.size:=kf.lt;have qk:=kb.2.2.lt;obtain ⟨hf,hg,R⟩:=kb;have k7:(m8 sb cache D L G [] [] 0).S a:=aaa (R.below M) D L G;have s:∀ k,(m8 sb cache D L G [] [] 0).bl k->sb<=k/\k<=sb+1+1+1:=λk c=>by
  rcases c with q|q|⟨q,f,_⟩
  . exact q
  . cases q
  . cases f
 have q8:wB a w6.heap.size v p (m8 sb cache D L G [] [] 0) D L G A F:=⟨q3,hs,⟨by omega,qb⟩,ki,k7,λk c=>by
  have:=s k c;exact ⟨by omega,by omega,by omega,λe=>by have:=C _ e;omega⟩,Wh _,qj⟩
 have qa:A2 D L G (m9 sb cache D L G) (m8 sb cache D L G [] [] 0):=⟨yS u,λps x c=>by
  obtain ⟨es,qs,ho,rfl⟩:=c;exact ⟨es,qs,x,rfl⟩,G8,⟨[],[],0,rfl⟩⟩
 have q9:=lY 68 #[Z6 (ZX ⟨w6.heap.size,0,ZY⟩)] #[] qh a w6.heap.size _ E rfl
  (λw1 x w2=>w2.heap[a.heap.size]?=ZX (Z4 #[.nilIface] 64 (0,0))/\FZ w1 w6.heap.size v p D L G tt (m9 sb cache D L G) (m8 sb cache D L G [] [] 0) xs A F (Z3 x) w2)
  (λw1 I qc qi=>(No (q8.below I) (E.keep (I.block _ E.lt)) qa (by omega) kr hS).mono (by
   intro e w2 t;have q6:w2.heap[a.heap.size]?=w1.heap[a.heap.size]?:=t.out.block _ (by omega) (λq=>by
    rcases q with q|q|q|q
    . have:=C _ q;omega
    . omega
    . have:=s _ q;omega
    . omega)
   obtain ⟨ps',pg,ob,P,B,rfl,_,_,hl⟩:=id t.ans;exact ⟨_,rfl,.inl rfl,⟨q6.trans qi,t⟩,q6,_,hl.arc,rfl⟩))
 have kv:w6.alloc (Z4 #[Z6 (ZX ⟨v,0,ZY⟩),Z7 Z9 0,Z7 Z9 0,Z7 Z9 0,Z7 Z8 0,Z7 Z9 0,Z7 Z9 0,Z5 ZY 0 0,Z5 ZY 0 0,Z2 ZV] 146)=a:=ks;have V:=hide10 i C q9 s hf hg qb ki qd qe;have qm:w.heap.size<=v:=by omega
 clear qk hf hg R k7 s q8 qa q9 h9 ha M E i q3 kf kk hs q0 q1 q2 o4 ks;go_wp2_with fail;clear kv;refine V.o.2.2.1.mono ?_;rintro e w8 ⟨x,w1,l,rfl,_,I,qc,⟨ko,t⟩,rfl⟩;obtain ⟨i,C,_,s,hf,hg,qo,ki,qd,qe⟩:=V.o;have h7:bW w w1:=i.trans (I.mono i.size);have qx:=i.size;have hO:aa (F.S) w l:=(aa.RT h7 _).later t.out (λk c q=>by
  rcases q with q|q|q|q
  . exact q
  . omega
  . have:=s _ q;omega
  . omega)
 obtain ⟨ps',pg,ob,P,B,qv,O,Y,hl⟩:=t.ans;obtain rfl:x=.nilIface:=by injection qv
 have h4:∀ k,k≠a.heap.size->k≠w6.heap.size->((l.setCell ⟨a.heap.size,0,ZY⟩ .nilIface).setCell ⟨w6.heap.size,9,ZY⟩ (Z2 ZV)).heap[k]?=l.heap[k]?:=λk W h2=>(Uj _ _ _ _ h2).trans (Uj _ _ _ _ W);have ky:((l.setCell ⟨a.heap.size,0,ZY⟩ .nilIface).setCell ⟨w6.heap.size,9,ZY⟩ (Z2 ZV)).heap.size=l.heap.size:=by simp [World.setCell]
 have Z:aa (F.S) w ((l.setCell ⟨a.heap.size,0,ZY⟩ .nilIface).setCell ⟨w6.heap.size,9,ZY⟩ (Z2 ZV)):=hO.later (T:=λk=>w.heap.size<=k) ⟨rfl,rfl,rfl,by rw [ky];exact TY _,λk _ c=>h4 k (by omega) (by omega)⟩ (λk W h2=>by omega);have hx:(l.setCell ⟨a.heap.size,0,ZY⟩ .nilIface).heap[w6.heap.size]?=ZX (Z4 (nv v D L G tt (P.getD 0 0) (aj xs.os).length pg ob ZV) 146 (0,0)):=(Uj _ _ _ _ (by show w6.heap.size≠a.heap.size;omega)).trans hl.arc;have k9:=af (j:=9) hx (Z2 ZV);have h5:∀ k,k≠a.heap.size->((l.setCell ⟨a.heap.size,0,ZY⟩ .nilIface).setCell ⟨w6.heap.size,9,ZY⟩ (Z2 ZV)).heap[k]?=l.heap[k]?:=λk W=>by
  by_cases e:k=w6.heap.size
  . subst e;exact k9.trans hl.arc.symm
  . exact h4 k W e
 have kg:=hl.aside (w':=(l.setCell ⟨a.heap.size,0,ZY⟩ .nilIface).setCell ⟨w6.heap.size,9,ZY⟩ (Z2 ZV)) (b:=a.heap.size) (B:=a.heap.size) (yK ko) (hl.Tt ko) (by rw [ky];exact TY _) (λj hj _=>h5 j hj) lR (λk c=>by have:=C k c;omega) (by omega) ki (by omega);have HF:=a6 Z Y kg O.1 (show ∀ k,ps'.bl k->w.heap.size<=k from λk c=>by
  rcases O.2 k c with q|q
  . have:=s k q;omega
  . have:=h7.size;omega)
 clear hO t ko h4 ky Z hl hx k9 h5 kg Y O I qc h7;go_wp2;go_ret2;obtain ⟨Z,Y,kg,O,km⟩:=HF.o;exact ⟨Z,w6.heap.size,rfl,v,sb,ps',pg,ob,P,B,kg,Y,O,qm,by omega,km⟩
structure aac (w w2:ZU) (D L G cache:Int):Prop where
 par:w2.heap[w.heap.size]?=ZX (Z4 #[Z7 Z9 D,Z7 Z9 L,Z7 Z9 G] 27 (0,0))
 opt:w2.heap[w.heap.size+1]?=ZX (Z4 #[Z7 Z9 cache] 86 (0,0))
 below:bW w w2
 size:w2.heap.size=w.heap.size+2
def aad (w:ZU) (D L G cache:Int):aac w ((w.alloc (Z4 #[Z7 Z9 D,Z7 Z9 L,Z7 Z9 G] 27)).alloc (Z4 #[Z7 Z9 cache] 86)) D L G cache:=by
 refine ⟨(Uy _ _ _ (by simp)).trans (Uk _ _),?_,(bA w _).alloc (by simp) _,by simp⟩;have:=Uk (w.alloc (Z4 #[Z7 Z9 D,Z7 Z9 L,Z7 Z9 G] 27)) (Z4 #[Z7 Z9 cache] 86);rwa [Uw] at this
structure Nr (w:ZU) (p D L G t:Nat) (cache:Int) (xs:aX) (A:aC) (F:aH) (e:ZQ) (w':ZU):Prop where
 out:aa F.S w w'
 ans:∃ sa ar,e=Z3 (ZZ #[Z6 (ZX ⟨sa,0,ZY⟩),.nilIface])/\w.heap.size<=sa/\ZO w' sa 105 (Z6 (ZX ⟨ar,0,ZY⟩))/\Np w p D L G t cache xs A F ar w'
def Np.wide {w'':ZU} {xs:aX} {A:aC} (h:Np w p D L G t cache xs A F ar w') (a:w0.heap.size<=w.heap.size) (f:bW w' w''):Np w0 p D L G t cache xs A F ar w'':=by
 obtain ⟨v,sb,ps,pg,ob,P,B,b,c,d,g,i,e⟩:=h;exact ⟨v,sb,ps,pg,ob,P,B,b.below f,c,d,by omega,by omega,λk q=>TZ a (e k q)⟩
theorem JZ {xs:aX} {A:aC} (h:JY w p D L G t cache xs A F) :
 ZS ZN 26 #[Z6 (ZX ⟨p,0,ZY⟩),.agg #[Z7 Z9 D,Z7 Z9 L,Z7 Z9 G],.agg #[Z7 Z9 cache]] w (Nr w p D L G t cache xs A F):=by
 have a:=aad w D L G cache;obtain ⟨w2,k⟩:=nM ((w.alloc (Z4 #[Z7 Z9 (D:Int),Z7 Z9 (L:Int),Z7 Z9 (G:Int)] 27)).alloc (Z4 #[Z7 Z9 cache] 86));rw [k] at a;have m:w2.cell? ⟨w.heap.size,0,ZY⟩=ZX (Z7 Z9 D):=by simp [World.cell?,a.par]
 have n:w2.cell? ⟨w.heap.size,1,ZY⟩=ZX (Z7 Z9 L):=by simp [World.cell?,a.par]
 have q:w2.cell? ⟨w.heap.size,2,ZY⟩=ZX (Z7 Z9 G):=by simp [World.cell?,a.par]
 have l:w2.cell? ⟨w.heap.size+1,0,ZY⟩=ZX (Z7 Z9 cache):=by simp [World.cell?,a.opt]
 have b:=a.below;have i:=Nq (h.below b);have H:=al a i;clear a i b;go_enter func26,ntmps26;go_wp2_with fail;refine H.o.2.mono ?_;rintro e w3 f;have b:=H.o.1.below;have c:aa F.S w w3:=(aa.RT b _).trans f.out;obtain ⟨ar,rfl,d⟩:=f.ans;have j:=aE d c b;clear d c b f;go_wp2;go_ret2;obtain ⟨d,c,b⟩:=j.o;have g:bW w3 (w3.alloc (Z4 #[Z6 (ZX ⟨ar,0,ZY⟩)] 105)):=bA w3 _;exact ⟨c.trans (aa.RT g _),w3.heap.size,ar,rfl,c.size,UH w3 _ _,d.wide b.size g⟩
theorem jj (d:Int) (m:Nat) (f:0<m) (e:m<=1000):∃ n:Nat,n<m/\wrap64 ((IntKind.u64.wrap d).tmod m)=(n:Int):=by
 have a:0<=IntKind.u64.wrap d:=by rw [Vd];omega
 rw [abH a];have b:=Int.emod_nonneg (IntKind.u64.wrap d) (show (m:Int)≠0 by omega);have c:=Int.emod_lt_of_pos (IntKind.u64.wrap d) (show (0:Int)<m by omega);refine ⟨(IntKind.u64.wrap d%m).toNat,by omega,?_⟩;rw [show ((IntKind.u64.wrap d%(m:Int)).toNat:Int)=IntKind.u64.wrap d%m by omega];generalize IntKind.u64.wrap d%(m:Int)=z at b c;unfold wrap64;omega
theorem Pr (a b c:Int) (w:ZU):ZS ZN 6 #[Z7 Z9 a,Z7 Z9 b,Z7 Z9 c] w λe w'=>∃ D L G:Nat,e=Z3 (.agg #[Z7 Z9 D,Z7 Z9 L,Z7 Z9 G])/\zQ D L G/\D<=6/\bW w w':=by
 obtain ⟨q,C,g⟩:=jj a 6 (by decide) (by decide);obtain ⟨r,E,i⟩:=jj b 3 (by decide) (by decide);obtain ⟨d,R,k⟩:=jj c 4 (by decide) (by decide);have s:wrap64 ((IntKind.u64.wrap a).tmod 6)=(q:Int):=by simpa using g
 have t:wrap64 ((IntKind.u64.wrap b).tmod 3)=(r:Int):=by simpa using i
 have x:wrap64 ((IntKind.u64.wrap c).tmod 4)=(d:Int):=by simpa using k
 obtain ⟨D,I⟩:=nM (q+1);obtain ⟨n,F⟩:=nM (r+1);have O:wrap64 (1+(q:Int))=(D:Int):=by unfold wrap64;omega
 have A:wrap64 (1+(r:Int))=(n:Int):=by unfold wrap64;omega
 clear g i k;have Q:1<=D/\D<=6:=by omega
 have y:1<=n/\n<=3:=by omega
 clear I F C E;go_enter func6,ntmps6;go_wp2;go_loopw [8] (λv wr=>∃ l:Nat,1<=l/\l<=3/\v=Z7 Z9 (l:Nat)/\wr=w.alloc (Z4 #[Z7 Z9 0,Z7 Z9 0,Z7 Z9 0] 27)) (λv _=>(intOf v).toNat)
 case atStart=>exact ⟨n,y.1,y.2,by rw [A],rfl⟩
 case round=>
  obtain ⟨l,H,P,rfl,rfl⟩:=hrel;have U:¬ (l:Int)=0:=by omega
  have J:Int.tmod (D:Int) (l:Int)=((D%l:Nat):Int):=by rw [abH (by omega),YH]
  obtain ⟨m,f⟩:=nM (D%l);rw [f] at J;by_cases B:m=0
  . subst B;have z:cJ (zQ D l d):=ak ⟨by unfold dg;apply U1;refine ⟨by omega,by omega,by omega,by omega,by omega,by omega,?_,by omega⟩;rw [<- YH,f];rfl,by omega,by omega,H,by omega,by omega,f,by omega⟩;clear f;go_wp2;have p:ai (w.alloc (Z4 #[Z7 Z9 (D:Nat),Z7 Z9 (l:Nat),Z7 Z9 (d:Nat)] 27)) w.heap.size 27 [Z7 Z9 (D:Nat),Z7 Z9 (l:Nat),Z7 Z9 (d:Nat)]:=UN w _;have K:=p.cell (j:=0) (u:=Z7 Z9 (D:Nat)) rfl;have M:=p.cell (j:=1) (u:=Z7 Z9 (l:Nat)) rfl;have N:=p.cell (j:=2) (u:=Z7 Z9 (d:Nat)) rfl;refine Uv (v:=.agg #[Z7 Z9 (D:Nat),Z7 Z9 (l:Nat),Z7 Z9 (d:Nat)]) (by simp [results,results6,go_sem,K,M,N]) rfl ?_;exact ⟨D,l,d,rfl,z.o,by omega,bA w _⟩
  . have S:2<=l:=by
     rcases XB l 2 with h|h
     . have:l=1:=by omega
       subst this;rw [Nat.mod_one] at f;omega
     . exact h
    have T:¬ (m:Int)=0:=(by omega);have V:IntKind.i64.wrap ((l:Int)-1)=(l:Int)-1:=(by rw [UF];omega);clear f;go_wp2;refine ⟨⟨l-1,by omega,by omega,by rw [show ((l-1:Nat):Int)=(l:Int)-1 by omega],trivial⟩,?_⟩;show ((l:Int)-1).toNat<((l:Int)).toNat;omega
structure qD where
 kind:Int
 a:Int
 s:ByteArray
 d:a8
def Scr (w:ZU) (v:ZT) (l:List qD):Prop:=
 ∃ ao c,v=.slice ao l.length c/\(l≠[]->∃ b off,ao=ZX ⟨b,off,ZY⟩/\b<w.heap.size/\∀ i (hi:i<l.length),∃ dv,w.cell? ⟨b,off+i*4,ZY⟩=ZX (Z7 Z9 l[i].kind)/\w.cell? ⟨b,off+i*4+1,ZY⟩=ZX (Z7 Z9 l[i].a)/\w.cell? ⟨b,off+i*4+2,ZY⟩=ZX (Z0 l[i].s)/\w.cell? ⟨b,off+i*4+3,ZY⟩=ZX dv/\Bs w dv l[i].d)
def gz (l:List qD):Nat:=(l.map λx=>x.s.size+x.d.length).sum
def rm (l:List qD) (k:Nat) (a:k<l.length):gz (l.take (k+1))=gz (l.take k)+(l[k].s.size+l[k].d.length):=by
 have e:l.take (k+1)=l.take k++[l[k]]:=by rw [Vg,Ue a];rfl
 rw [e];unfold gz;rw [UD,YB];simp only [UI,Vh,XD,List.sum_nil,VV]
def DD (l:List qD) (k:Nat):gz (l.take k)<=gz l:=by
 unfold gz;have h:l.map (λx=>x.s.size+x.d.length)=(l.take k).map (λx=>x.s.size+x.d.length)++(l.drop k).map (λx=>x.s.size+x.d.length):=by rw [<- UD,Wl]
 rw [h,YB];omega
def abn (w:ZU) (l:List qD) (vn vi:ZT) (wr:ZU):Prop:=∃ k:Nat,k<=l.length/\vi=Z7 Z9 (k:Nat)/\vn=Z7 Z9 (gz (l.take k):Nat)/\gz (l.take k)<=100000/\bW w wr
def aae (w:ZU) (l:List qD) (e:ZQ) (w':ZU):Prop:=∃ bb,e=Z3 (Z2 bb)/\(bb=ZW->l.length<=200/\gz l<=100000)/\bW w w'
theorem J0 {v:ZT} {l:List qD} (h:Scr w v l) (K:∀ x∈l,x.s.size<=140737488355328/\x.d.length<=140737488355328) :
 ZS ZN 5 #[v] w (aae w l):=by
 obtain ⟨ao,c,rfl,u⟩:=h;by_cases R:200<l.length
 . have J:(200:Int)<(l.length:Int):=(by omega);clear u;go_enter func5,ntmps5;go_wp2;go_ret;exact ⟨ZV,rfl,λe=>(by cases e),T6 _ _⟩
 . have J:¬ (200:Int)<(l.length:Int):=(by omega);have F:=ak u;clear u;go_enter func5,ntmps5;go_wp2;go_loopw [3,4] (λN A wr=>abn w l N A wr) (λ_ A _=>l.length-(intOf A).toNat)
   case atStart=>exact ⟨0,T7 _,rfl,rfl,by simp [gz],T6 _ _⟩
   case round=>
    obtain ⟨k,V,rfl,rfl,n,f⟩:=hrel;by_cases i:k<l.length
    . obtain ⟨b,off,rfl,C,B⟩:=F.o (λe=>by rw [e] at i;simp at i);obtain ⟨Q,L,M,y,z,E⟩:=B k i;obtain ⟨O,P,rfl,_⟩:=id E;have g:=rm l k i;have H:=K l[k] (T8 i);obtain ⟨s,t⟩:=nM (l[k].s);obtain ⟨dl,q⟩:=nM (l[k].d.length);rw [t,q] at g H;rw [t] at y;rw [q] at z;obtain ⟨a,r⟩:=nM (gz (l.take k));rw [r] at g n ⊢;obtain ⟨Z,I⟩:=nM (s.size);have G:(k:Int)<(l.length:Int):=(by omega);have T:IntKind.i64.wrap ((a:Int)+(s.size:Int))=(a:Int)+(s.size:Int):=(by rw [UF];omega);have U:IntKind.i64.wrap ((a:Int)+(s.size:Int)+(dl:Int))=(a:Int)+(s.size:Int)+(dl:Int):=(by rw [UF];omega);have W:IntKind.i64.wrap ((k:Int)+1)=(k:Int)+1:=(by rw [UF];omega);have X:=(f.cell (p:=⟨b,off+k*4+2,ZY⟩) C).trans y;have Y:=(f.cell (p:=⟨b,off+k*4+3,ZY⟩) C).trans z;have m:=aE g r f;clear g r f L M y z E B t q I;go_wp2;go_quiet (fail);have j:cJ (bW w (wr.drewN nq)):=ak (m.o.2.2.trans ⟨rfl,rfl,rfl,TY _,λ_ _=>rfl⟩);by_cases S:(100000:Int)<(a:Int)+(s.size:Int)+(dl:Int)
      . go_wp2;go_ret;exact ⟨ZV,rfl,λe=>(by cases e),j.o⟩
      . go_wp2;have g:=m.o.1;refine ⟨⟨k+1,by omega,by go_num,?_,by omega,j.o⟩,?_⟩
        . rw [g,show ((a+(s.size+dl):Nat):Int)=(a:Int)+(s.size:Int)+(dl:Int) by omega]
        . simp only [intOf];omega
    . have D:k=l.length:=(by omega);have G:¬ (k:Int)<(l.length:Int):=(by omega);have m:cJ (l.length<=200/\gz l<=100000):=ak ⟨by omega,by rw [D,VK] at n;exact n⟩;have j:=ak f;clear D n f;go_wp2;go_ret;exact ⟨ZW,rfl,λ_=>m.o,j.o⟩
def P0 (D L G:Nat) (a s r:ZT) (blocks:Nat) (out want:ZT) (cache:Int):List ZT:=[Z7 Z9 (D:Nat),Z7 Z9 (L:Nat),Z7 Z9 (G:Nat),a,s,r,Z7 Z9 (blocks:Nat),out,want,Z7 Z9 cache]
def iz (w:ZU) (wb D L G:Nat) (a s r:ZT) (blocks:Nat) (out want:ZT) (cache:Int):Prop:=ai w wb 42 (P0 D L G a s r blocks out want cache)
def iz.cells {a r:ZT} (h:iz w wb D L G a s r blocks out want cache) :
 w.cell? ⟨wb,0,ZY⟩=ZX (Z7 Z9 (D:Nat))/\w.cell? ⟨wb,1,ZY⟩=ZX (Z7 Z9 (L:Nat))/\w.cell? ⟨wb,2,ZY⟩=ZX (Z7 Z9 (G:Nat))/\w.cell? ⟨wb,3,ZY⟩=ZX a/\w.cell? ⟨wb,4,ZY⟩=ZX s/\w.cell? ⟨wb,5,ZY⟩=ZX r/\w.cell? ⟨wb,6,ZY⟩=ZX (Z7 Z9 (blocks:Nat))/\w.cell? ⟨wb,7,ZY⟩=ZX out/\w.cell? ⟨wb,8,ZY⟩=ZX want/\w.cell? ⟨wb,9,ZY⟩=ZX (Z7 Z9 cache):=
 ⟨ai.cell h rfl,ai.cell h rfl,ai.cell h rfl,ai.cell h rfl,ai.cell h rfl,ai.cell h rfl,ai.cell h rfl,ai.cell h rfl,ai.cell h rfl,ai.cell h rfl⟩
theorem J1 {r:ZT} (h:iz w wb D L G (Z6 (ZX ⟨p,0,ZY⟩)) s r blocks out want cache) (x:∃ o,s=.pointer o) (R:Nat->ZU->Prop) (i:∀ sa w2,R sa w2->w2.heap[wb]?=w.heap[wb]?)
 (ho:ZS ZN 26 #[Z6 (ZX ⟨p,0,ZY⟩),.agg #[Z7 Z9 D,Z7 Z9 L,Z7 Z9 G],.agg #[Z7 Z9 cache]] w.drew λe w2=>∃ sa,e=Z3 (ZZ #[Z6 (ZX ⟨sa,0,ZY⟩),.nilIface])/\R sa w2) :
 ZS ZN 11 #[Z6 (ZX ⟨wb,0,ZY⟩)] w λe w'=>e=Z3 (Z2 ZW)/\∃ sa w2 w3,R sa w2/\bW w2 w3/\iz w' wb D L G (Z6 (ZX ⟨p,0,ZY⟩)) (Z6 (ZX ⟨sa,0,ZY⟩)) r blocks out want cache/\w'=w3.setCell ⟨wb,4,ZY⟩ (Z6 (ZX ⟨sa,0,ZY⟩)):=by
 obtain ⟨c0,c1,k,l,m,n,q,t,u,v⟩:=h.cells;have d:=aE ho h i;clear ho h i m n q t u;go_enter func11,ntmps11;go_upto_region 1 with fail;go_cut [3,4] from 6 to 34 (λz A wx=>∃ sa,z=Z6 (ZX ⟨sa,0,ZY⟩)/\A=.nilIface/\R sa wx)
 case first=>
  go_region_with (go_at_call 26;refine d.o.1.mono ?_;rintro e w2 ⟨sa,rfl,a⟩;have b:=ak a;clear a);all_goals (go_wp2_with fail;go_meet;case rel=>exact ⟨sa,rfl,rfl,b.o⟩)
 case rest=>
  obtain ⟨sa,rfl,rfl,a⟩:=hcut;have j:iz wc wb D L G (Z6 (ZX ⟨p,0,ZY⟩)) s r blocks out want cache:=ai.keep d.o.2.1 (d.o.2.2 sa wc a);obtain ⟨y,rfl⟩:=x;have b:=al a j;clear a j c0 c1 k l v;go_wp2_with fail;refine (tE wc).mono ?_;rintro e w3 ⟨rfl,f⟩;have c:iz w3 wb D L G (Z6 (ZX ⟨p,0,ZY⟩)) (.pointer y) r blocks out want cache:=ai.keep b.o.2 (f.block _ (ai.lt b.o.2));have B:=c.cells.2.2.2.2.1;have C:=ai.Sa c 4;have g:=al f c;clear f c;dsimp only;go_wp2;go_ret;refine ⟨rfl,sa,wc,w3,b.o.1,g.o.1,?_,rfl⟩;exact ai.set g.o.2 4 [Z6 (ZX ⟨sa,0,ZY⟩)] (by simp [P0])
def a9.other {xs:aX} {A:aC} (h:a9 w ar v p ps D L G t pg ob P xs A F) (g:w.heap.size<=w'.heap.size) {b:Nat} (a:∀ j,j≠b->j<w.heap.size->w'.heap[j]?=w.heap[j]?) (q:b<ar) (m:b≠v) (i:¬ F.S b) (o:3<=b) (l:¬ ps.bl b):a9 w' ar v p ps D L G t pg ob P xs A F:=by
 have c:eN (λk=>ar<k/\¬ F.S k/\¬ ps.bl k) w w':=⟨g,λk n hK=>a k (by have:=hK.1;omega) n⟩;exact { h with arc:=h.arc.keep (a _ (by omega) h.arc.lt),vol:={ h.vol with vol:=h.vol.vol.keep (a _ (Vo m) h.vol.vol.lt),arr:=h.vol.arr.keep λj f=>a j (λe=>i (e▸f)) (h.vol.arr.RS f),laid:=h.vol.laid.keep (a _ (by omega) h.vol.laid.lt),tab:=h.vol.tab.keep (a _ (by omega) h.vol.tab.lt),room:=TZ h.vol.room g },pgs:=h.pgs.keep c,cat:=h.cat.keep c,kit:=ps.keep _ _ h.kit λk d=>a k (λe=>l (e▸d)) (ps.lt _ h.kit k d) }
def az.kind {X:ZU} {A:aC} (h:az X p A F) {k:Nat} (e:F.S k):∃ cs T,X.heap[k]?=ZX (Z4 cs T (0,0))/\(T=75\/T=79\/T=114\/T=4):=by
 obtain ⟨R,h,_⟩:=h;rcases (h.S k).1 e with rfl|rfl|⟨i,b,rfl|rfl⟩
 . exact ⟨_,_,h.top,.inl rfl⟩
 . obtain ⟨cs,d,_⟩:=h.TA;exact ⟨_,_,d,.inr (.inl rfl)⟩
 . obtain ⟨c,a,_⟩:=h.blk i b;exact ⟨_,_,a,.inr (.inr (.inl rfl))⟩
 . obtain ⟨c,a,_⟩:=h.bad i b;exact ⟨_,_,a,.inr (.inr (.inr rfl))⟩
def vw {L:List (ByteArray×ZT)} (f:∀ o∈L,kI o.2):∀ u∈aO L,u.oneCell'=ZW:=by
 intro u a;unfold aO at a;rw [Yo] at a;obtain ⟨q,d,b⟩:=a;simp at b;rcases b with rfl|rfl
 . rfl
 . obtain ⟨ao,n,c,e,_⟩:=f q d;rw [e];rfl
def Ns {base:Nat} {v:ZT} {L:List (ByteArray×ZT)} (h:w.ownsRow base 101 2 v L.length (aO L)) (b:∀ o∈L,kI o.2):Src ZN 2 36 v L.length (aO L) w:=by
 rcases h.2 with ⟨rfl,a⟩|⟨g,cap,cur,rfl,c,d,e,f,i,j⟩
 . have:L=[]:=UY a;subst this;exact XN w U3 0
 . exact Vk w U3 ⟨g,0,ZY⟩ L.length cap (aO L) (kH L) (h.cells (g:=g) rfl) (vw b)
def Tryz.Sj:(ZN.info? 101).map (λi=>(i.zero,i.size,i.bytes))=ZX (ZX (.agg #[Z0 YG,Z5 ZY 0 0]),2,40):=by kernel_rfl
theorem yT {base:Nat} {v:ZT} {L:List (ByteArray×ZT)} (h:rI w r base v L) (hl:L.length<=1000000) (I:∀ o∈L,kI o.2) :
 ZS ZN 32 #[Z6 (ZX ⟨r,0,ZY⟩)] w λe w'=>e=Z3 (Z6 (ZX ⟨w.heap.size,0,ZY⟩))/\(∃ u,rI w' w.heap.size (w.heap.size+1) u L)/\bW w w':=by
 have D:r<w.heap.size:=(T5.1 h.top).1;obtain ⟨w1,j⟩:=nM (w.alloc (Z4 #[Z5 ZY 0 0] 38));have l:w1.heap.size=w.heap.size+1:=by rw [<- j];simp
 have b:bW w w1:=by rw [<- j];exact bA w _
 have m:w1.heap[w.heap.size]?=ZX (Z4 #[Z5 ZY 0 0] 38 (0,0)):=by rw [<- j];exact Uk w (Z4 #[Z5 ZY 0 0] 38)
 have t:World.ownsRow w1.drew base 101 2 v L.length (aO L):=by rw [<- j];exact h.own.alloc _
 have x:=(b.block r D).trans h.top;obtain ⟨id,n,C,B,A⟩:=Uu Tryz.Sj;obtain ⟨J,w2,y,a,d,z⟩:=ld (P:=ZN) w1.drew w1.heap.size 36 36 36 101 id _ 2 40 U3 n C B A rfl (Z5 ZY 0 0) 0 [] (UP _ _ _ _) v L.length (aO L) (Ns t I) (by unfold maxLen;omega) (by omega) lR;rw [Um,Ut] at a;obtain ⟨s,sl,q,rfl⟩:∃ s sl q,J=.slice s sl q:=by
  rcases a.2 with ⟨e,_⟩|⟨g,cap,cur,e,_⟩
  . exact ⟨_,_,_,e⟩
  . exact ⟨_,_,_,e⟩
 have f:bW w1 w2:=⟨d.os,d.tape,d.output,d.size,λk G=>d.block k G (by simp [Value.ownBlock])⟩;have c:=(f.block _ (by omega)).trans m;have c0:w1.cell? ⟨w.heap.size,0,ZY⟩=ZX (Z5 ZY 0 0):=by simp [World.cell?,m]
 have c1:w1.cell? ⟨r,0,ZY⟩=ZX v:=by simp [World.cell?,x]
 have K:w2.cell? ⟨w.heap.size,0,ZY⟩=ZX (Z5 ZY 0 0):=by simp [World.cell?,c]
 have M:w2.frozen? ⟨w.heap.size,0,ZY⟩=ZV:=by simp [World.frozen?,c]
 have H:=a7 y a f c b l;clear y a d z f c b m t x l;go_enter func32,ntmps32;go_wp2_with fail;go_region_law (refine l8 rfl _ _ 36 36 rfl _ _ (by simp [Act.eval]) (by simp [Act.eval]) H.o.1 ?_)
 all_goals (
  go_wp2;go_ret;obtain ⟨_,a,f,c,b,l⟩:=H.o;have E:w2.grownBy (w2.setCell ⟨w.heap.size,0,ZY⟩ (.slice s sl q)) (ZX w.heap.size):=⟨rfl,rfl,rfl,by simp [World.setCell],λi _ F=>Uj _ _ _ _ (λe=>F (by rw [e]))⟩;rw [l] at a;exact ⟨rfl,⟨_,by simp [World.setCell,Vw,c],a.kept E (.inr λe=>by have:=(a.lt _ e).1;omega)⟩,(b.trans (f.mono b.size)).setCell (p:=⟨w.heap.size,0,ZY⟩) lR _⟩)
def yU {L:List (ByteArray×ZT)} (a:∀ o∈L,kI o.2) (k:Nat):∀ o∈L.take k,kI o.2:=λo h=>a o (U2 h)
def qE {L:List (ByteArray×ZT)} (a:∀ o∈L,kI o.2) (k:Nat):∀ o∈L.drop k,kI o.2:=λo h=>a o (U8 h)
def oY {off:Nat} {L:List (ByteArray×ZT)} (l:L.length=n) (i:∀ k (r:k<L.length),w.cell? ⟨g,off+k*2,ZY⟩=ZX (Z0 L[k].1)/\w.cell? ⟨g,off+k*2+1,ZY⟩=ZX L[k].2) (m:∀ o∈L,kI o.2) :
 Src ZN 2 36 (Z5 (ZX ⟨g,off,ZY⟩) n c) n (aO L) w:=by
 subst l;refine Vk w U3 ⟨g,off,ZY⟩ L.length c (aO L) (kH L) (λj u a=>?_) (vw m);rw [Vp];have:j<L.length*2:=by
  obtain ⟨q,_⟩:=Vc.1 a;rwa [kH] at q
 obtain ⟨f,h⟩:=tM L (j/2) (by omega);obtain ⟨c1,d⟩:=i (j/2) (by omega);by_cases e:j%2=0
 . have b:j/2*2=j:=(by omega);rw [b] at f c1;rw [f] at a;rw [c1,a]
 . have b:j/2*2+1=j:=(by omega);rw [b] at h;rw [h] at a;rw [show off+j/2*2+1=off+j by omega] at d;rw [d,a]
def vz {base:Nat} {e:ZP} {v:ZT} {xs:List ZT} (h:w.ownsRow base e size v n xs):∃ b sl a,v=.slice b sl a:=by
 rcases h.2 with ⟨q,_⟩|⟨g,cap,cur,q,_⟩
 . exact ⟨_,_,_,q⟩
 . exact ⟨_,_,_,q⟩
def aaW (w:ZU) (r:Nat) (L:List (ByteArray×ZT)) (name:ByteArray) (e:ZQ) (w':ZU):Prop:=
 (¬ eI name/\e=Z3 (Z7 Z9 6)/\w'=w)\/(eI name/\pL L name/\e=Z3 (Z7 Z9 9)/\w'=w) \/
 (eI name/\∃ k,Ol L name k/\e=Z3 (Z7 Z9 0)/\(∃ u,rI w' r w.heap.size u (L.take k++L.drop (k+1)))/\aa (λj=>j=r) w w')
theorem DE {base:Nat} {v:ZT} {L:List (ByteArray×ZT)} (h:rI w r base v L) (hl:L.length<=1000000) (V:∀ o∈L,kI o.2) (name:ByteArray) :
 ZS ZN 33 #[Z6 (ZX ⟨r,0,ZY⟩),Z0 name] w λe w'=>aaW w r L name e w':=by
 obtain ⟨c0,f0⟩:=h.cell;have kg:=h.shape;have H:=jK h hl name;have hm:=tN h hl name;obtain ⟨id,p,K,J,I⟩:=Uu Tryz.Sj;go_enter func33,ntmps33;go_wp2_with fail;refine hm.mono ?_;clear hm;rintro e w1 ⟨rfl,hg⟩;rcases hg with ⟨kk,rfl⟩|⟨A,G,rfl⟩|⟨A,k0,Y,rfl⟩
 . have E:=ak kk;clear kk H kg;go_wp2;go_ret;exact .inl ⟨E.o,rfl,rfl⟩
 . have E:=al A G;clear A G H kg;go_wp2;go_ret;exact .inr (.inl ⟨E.o.1,E.o.2,rfl,rfl⟩)
 . obtain ⟨x,hx⟩:=nM ((L.getD k0 (YG,undef)).2);rw [hx];clear hx;go_wp2_with fail;refine H.mono ?_;clear H;rintro e w2 ⟨rfl,hf⟩;rcases hf with ⟨k,hk,rfl,hn,h3⟩|⟨rfl,G⟩
   . rcases kg with ⟨rfl,rfl⟩|⟨g,cap,rfl,kr,ko,F⟩
     . exact absurd hk (by simp)
     . have kh:Ol L name k:=⟨hk,hn,h3⟩;have ki:g<w2.heap.size:=Ui (F 0 (by omega)).1;have hp:r≠g:=by
        intro e;rcases h.own.2 with ⟨q,_⟩|⟨g',hb,cur,e1,e2,P,_⟩
        . cases q
        . simp at e1;rw [<- e1.1] at P;rw [<- e,h.top] at P;simp at P
       have km:Src ZN 2 36 (Z5 (ZX ⟨g,0,ZY⟩) k cap) k (aO (L.take k)) w2:=oY (by rw [Us];omega) (λj f=>by
        rw [Us] at f;obtain ⟨q1,q2⟩:=F j (by omega);rw [Um,abI];exact ⟨q1,q2⟩) (yU V k)
       have m:=a6 A kh F h hp;clear A kh hn h3 F h hp Y;have kx:r<w2.heap.size:=Ui c0;have M:¬ cap=k+1\/cap=k+1:=(Decidable.em (cap=k+1)).symm;have ks:wrap64 ((k:Int)+1)=(k:Int)+1:=(by unfold wrap64;omega);rcases M with M|M
       . have kv:¬ (cap:Int)-((k:Int)+1)=0:=(by omega);go_wp2_with (first
          | (at_builtin;refine ae _ rfl (Z1 21) (Z1 27) 36 36 rfl w2.heap.size 101 id _ 2 40 U3 p K J I rfl (Z5 ZY 0 0) 0 [] rfl (UP _ _ _ _) _ rfl k (aO (L.take k)) km (by unfold maxLen;omega) (by omega) lR ?_;intro D w3 z c k9
             have n:∀ j,j<w2.heap.size->w3.heap[j]?=w2.heap[j]?:=λj f=>c.block j f (by simp [Value.ownBlock]);have s:w3.heap[r]?=_:=(n r (Ui c0)).trans m.o.2.2.2.1.top;have O:w3.cell? ⟨r,0,ZY⟩=ZX (Z5 (ZX ⟨g,0,ZY⟩) L.length cap):=(by simp [World.cell?,s]);have f3:w3.frozen? ⟨r,0,ZY⟩=ZV:=(by simp [World.frozen?,s]);have C:=c.size;have S:=c.os;have Q:=c.tape;have R:=c.output;have B:Src ZN 2 36 (Z5 (ZX ⟨g,(k+1)*2,ZY⟩) (L.length-(k+1)) (cap-(k+1))) (L.length-(k+1)) (aO (L.drop (k+1))) w3:=oY (by rw [Ur]) (λj f=>by
              rw [Ur] at f;obtain ⟨q1,q2⟩:=m.o.2.2.1 (k+1+j) (by omega);rw [Yp,show (k+1)*2+j*2=(k+1+j)*2 by omega];exact ⟨(Uo (n g ki)).trans q1,(Uo (n g ki)).trans q2⟩) (qE V (k+1))
             have b:=aE z n B;clear z c n B s)
          | (at_builtin;refine ae _ rfl (Z1 29) (Z1 36) 36 36 rfl w2.heap.size 101 id _ 2 40 U3 p K J I rfl D (0+k) _ rfl b.o.1 _ rfl (L.length-(k+1)) (aO (L.drop (k+1))) b.o.2.2 (by unfold maxLen;omega) (by omega) C ?_;intro v2 w4 l a ka
             obtain ⟨u,sl,t,rfl⟩:=vz l;have kf:¬ ZX r=D.ownBlock:=λe=>by have:=(b.o.1.lt r e.symm).1;omega
             have d:w4.heap[r]?=_:=(a.block r (Ui O) kf).trans ((b.o.2.1 r (Ui c0)).trans m.o.2.2.2.1.top);have c4:w4.cell? ⟨r,0,ZY⟩=ZX (Z5 (ZX ⟨g,0,ZY⟩) L.length cap):=(by simp [World.cell?,d]);have f4:w4.frozen? ⟨r,0,ZY⟩=ZV:=(by simp [World.frozen?,d]);have N:=aE l a d;clear l a d))
         have Z:(L.take k++L.drop (k+1)).length=0+k+(L.length-(k+1)):=(by rw [Uc,Us,Ur];omega);obtain ⟨l,a,d⟩:=N.o;have y:w4.ownsRow w2.heap.size 101 2 (.slice u sl t) (L.take k++L.drop (k+1)).length (aO (L.take k++L.drop (k+1))):=(by rw [Z,jt];exact l);have T:aa (λj=>j=r) w2 w4:=⟨a.os.trans S,a.tape.trans Q,a.output.trans R,TZ C a.size,λj f kp=>(a.block j (by omega) (λe=>by have:=(b.o.1.lt j e.symm).1;omega)).trans (b.o.2.1 j f)⟩;go_ret;have X:w4.grownBy (w4.setCell ⟨r,0,ZY⟩ (.slice u sl t)) (ZX r):=⟨rfl,rfl,rfl,by simp [World.setCell],λi _ U=>Uj _ _ _ _ (λe=>U (by rw [e]))⟩;refine .inr (.inr ⟨m.o.1,k,m.o.2.1,rfl,⟨.slice u sl t,⟨by simp [World.setCell,Vw,d],y.kept X (.inr λe=>by have:=(y.lt r e).1;omega)⟩⟩,T.trans (aa.setCell _ _ _ rfl)⟩)
       . subst M;have kj:L.length=k+1:=(by omega);have W:=ak kj;clear kj;go_wp2_with (first
          | (at_builtin;refine ae _ rfl (Z1 21) (Z1 27) 36 36 rfl w2.heap.size 101 id _ 2 40 U3 p K J I rfl (Z5 ZY 0 0) 0 [] rfl (UP _ _ _ _) _ rfl k (aO (L.take k)) km (by unfold maxLen;omega) (by omega) lR ?_;intro D w3 z c k9
             have n:∀ j,j<w2.heap.size->w3.heap[j]?=w2.heap[j]?:=λj f=>c.block j f (by simp [Value.ownBlock]);have s:w3.heap[r]?=_:=(n r (Ui c0)).trans m.o.2.2.2.1.top;have O:w3.cell? ⟨r,0,ZY⟩=ZX (Z5 (ZX ⟨g,0,ZY⟩) L.length (k+1)):=(by simp [World.cell?,s]);have f3:w3.frozen? ⟨r,0,ZY⟩=ZV:=(by simp [World.frozen?,s]);have C:=c.size;have S:=c.os;have Q:=c.tape;have R:=c.output;have B:Src ZN 2 36 (Z5 (ZX ⟨g,0,ZY⟩) 0 0) 0 (aO (L.drop (k+1))) w3:=oY (by rw [Ur,W.out];omega) (λj f=>absurd f (by rw [Ur,W.out];omega)) (qE V (k+1));have b:=aE z n B;clear z c n B s)
          | (at_builtin;refine ae _ rfl (Z1 29) (Z1 36) 36 36 rfl w2.heap.size 101 id _ 2 40 U3 p K J I rfl D (0+k) _ rfl b.o.1 _ rfl 0 (aO (L.drop (k+1))) b.o.2.2 (by unfold maxLen;omega) (by omega) C ?_;intro v2 w4 l a ka
             obtain ⟨u,sl,t,rfl⟩:=vz l;have kf:¬ ZX r=D.ownBlock:=λe=>by have:=(b.o.1.lt r e.symm).1;omega
             have d:w4.heap[r]?=_:=(a.block r (Ui O) kf).trans ((b.o.2.1 r (Ui c0)).trans m.o.2.2.2.1.top);have c4:w4.cell? ⟨r,0,ZY⟩=ZX (Z5 (ZX ⟨g,0,ZY⟩) L.length (k+1)):=(by simp [World.cell?,d]);have f4:w4.frozen? ⟨r,0,ZY⟩=ZV:=(by simp [World.frozen?,d]);have N:=aE l a d;clear l a d))
         have Z:(L.take k++L.drop (k+1)).length=0+k+0:=(by rw [Uc,Us,Ur,W.out];omega);obtain ⟨l,a,d⟩:=N.o;have y:w4.ownsRow w2.heap.size 101 2 (.slice u sl t) (L.take k++L.drop (k+1)).length (aO (L.take k++L.drop (k+1))):=(by rw [Z,jt];exact l);have T:aa (λj=>j=r) w2 w4:=⟨a.os.trans S,a.tape.trans Q,a.output.trans R,TZ C a.size,λj f kp=>(a.block j (by omega) (λe=>by have:=(b.o.1.lt j e.symm).1;omega)).trans (b.o.2.1 j f)⟩;go_ret;have X:w4.grownBy (w4.setCell ⟨r,0,ZY⟩ (.slice u sl t)) (ZX r):=⟨rfl,rfl,rfl,by simp [World.setCell],λi _ U=>Uj _ _ _ _ (λe=>U (by rw [e]))⟩;refine .inr (.inr ⟨m.o.1,k,m.o.2.1,rfl,⟨.slice u sl t,⟨by simp [World.setCell,Vw,d],y.kept X (.inr λe=>by have:=(y.lt r e).1;omega)⟩⟩,T.trans (aa.setCell _ _ _ rfl)⟩)
   . exact absurd Y.2.1 (G k0 Y.1)
def vA {v:ZT} (h:Bs w v l):Src ZN 1 40 v l.length (aI l) w:=by
 obtain ⟨ao,c,rfl,m,n,o,g⟩:=h;have i:∀ u∈aI l,u.oneCell'=ZW:=λu a=>by unfold aI at a;rw [Ua] at a;obtain ⟨x,_,rfl⟩:=a;rfl
 by_cases hl:l=[]
 . subst hl;cases ao with
   | none=>exact XN w Uq c
   | some f=>exact Vk w Uq f 0 c [] rfl (λj u d=>by simp at d) (λu a=>by simp at a)
 . obtain ⟨b,off,rfl,k⟩:=g hl;refine Vk w Uq ⟨b,off,ZY⟩ l.length c (aI l) (by rw [aW,Wf]) (λj u d=>?_) i;rw [Vp];have e:j<l.length:=(by obtain ⟨q,_⟩:=Vc.1 d;rwa [aW] at q);rw [k j e,<- d];unfold aI;rw [UE,Ue e,Ub,Ue e];rfl
def Tryz.Sz:(ZN.info? 5).map (λi=>(i.zero,i.size,i.bytes))=ZX (ZX (Z7 .u8 0),1,1):=by kernel_rfl
theorem J2 (r:Nat) (name:ByteArray) (ao:Option ZR) (n c:Nat) (a:¬ eI name) (w:ZU) :
 ZS ZN 48 #[Z6 (ZX ⟨r,0,ZY⟩),Z0 name,.slice ao n c] w λe w'=>e=Z3 (Z7 Z9 6)/\w'=w:=by
 by_cases b:name.size=0
 . have n0:(name.size:Int)=0:=(by omega);go_enter func48,ntmps48;go_wp2;go_ret;exact ⟨rfl,rfl⟩
 . have n0:¬ (name.size:Int)=0:=(by omega);have n1:(16:Int)<(name.size:Int):=(by unfold eI at a;omega);go_enter func48,ntmps48;go_wp2;go_ret;exact ⟨rfl,rfl⟩
theorem J3 (r:Nat) (name:ByteArray) (ao:Option ZR) (n c:Nat) (a:eI name) (d:1500<n) (w:ZU) :
 ZS ZN 48 #[Z6 (ZX ⟨r,0,ZY⟩),Z0 name,.slice ao n c] w λe w'=>e=Z3 (Z7 Z9 7)/\w'=w:=by
 have b:¬ name.size=0:=by have:=a.1;omega
 have n0:¬ (name.size:Int)=0:=by omega
 have n1:¬ (16:Int)<(name.size:Int):=by have:=a.2;omega
 have f:(1500:Int)<(n:Int):=by omega
 clear a;go_enter func48,ntmps48;go_wp2;go_ret;exact ⟨rfl,rfl⟩
theorem DF {base:Nat} {v:ZT} {L:List (ByteArray×ZT)} (h:rI w r base v L) (hl:L.length<=1000000) (name:ByteArray) (ao:Option ZR) (n c:Nat) (a:eI name) (l:n<=1500) (b:¬ pL L name) :
 ZS ZN 48 #[Z6 (ZX ⟨r,0,ZY⟩),Z0 name,.slice ao n c] w λe w'=>e=Z3 (Z7 Z9 8)/\w'=w:=by
 have d:=jK h hl name;have i:¬ name.size=0:=by have:=a.1;omega
 have n0:¬ (name.size:Int)=0:=by omega
 have n1:¬ (16:Int)<(name.size:Int):=by have:=a.2;omega
 have m:¬ (1500:Int)<(n:Int):=by omega
 clear a h;go_enter func48,ntmps48;go_wp2_with fail;refine d.mono ?_;rintro e w1 ⟨rfl,g⟩;rcases g with ⟨k,j,rfl,_⟩|⟨rfl,f⟩
 . have k2:(0:Int)<=(k:Int):=(by omega);clear d b;go_wp2;go_ret;exact ⟨rfl,rfl⟩
 . exact absurd f b
def bD {base:Nat} {e:ZP} {v:ZT} {xs:List ZT} (h:w.ownsRow base e size v n xs):∃ d f,v=.slice d n f:=by
 rcases h.2 with ⟨b,c⟩|⟨g,cap,cur,a,_⟩
 . exact ⟨ZY,0,by rw [b,c]⟩
 . exact ⟨_,_,a⟩
def cE (L:List (ByteArray×ZT)):List ByteArray:=L.map (·.1)
def vC {L:List (ByteArray×ZT)} (e:∀ k (n:k<L.length),w1.cell? ⟨g,k*2,ZY⟩=ZX (Z0 L[k].1)/\w1.cell? ⟨g,k*2+1,ZY⟩=ZX L[k].2) (d:g<w1.heap.size) (b:bW w1 w3) (h:∀ o∈L,kI o.2) (m:a<=L.length):∀ c,Src ZN 2 36 (Z5 (ZX ⟨g,0,ZY⟩) a c) a (aO (L.take a)) w3:=λc=>
 oY (by rw [Us];omega) (λj f=>by
  rw [Us] at f;obtain ⟨i,l⟩:=e j (by omega);rw [Um,abI];exact ⟨(Uo (b.block g d)).trans i,(Uo (b.block g d)).trans l⟩) (yU h a)
def vD {L:List (ByteArray×ZT)} (e:∀ k (n:k<L.length),w1.cell? ⟨g,k*2,ZY⟩=ZX (Z0 L[k].1)/\w1.cell? ⟨g,k*2+1,ZY⟩=ZX L[k].2) (d:g<w1.heap.size) (b:bW w1 w3) (h:∀ o∈L,kI o.2) (m:a<=L.length):∀ c,Src ZN 2 36 (Z5 (ZX ⟨g,a*2,ZY⟩) (L.length-a) c) (L.length-a) (aO (L.drop a)) w3:=λc=>
 oY (by rw [Ur]) (λj f=>by
  rw [Ur] at f;obtain ⟨i,l⟩:=e (a+j) (by omega);rw [Yp,show a*2+j*2=(a+j)*2 by omega];exact ⟨(Uo (b.block g d)).trans i,(Uo (b.block g d)).trans l⟩) (qE h a)
def yV {L:List (ByteArray×ZT)} (h:k=L.length) (off c:Nat) (w:ZU):Src ZN 2 36 (Z5 (ZX ⟨g,off,ZY⟩) (L.length-k) c) (L.length-k) (aO (L.drop k)) w:=by
 subst h;rw [WL,List.drop_length];exact Vk w U3 ⟨g,off,ZY⟩ 0 c [] rfl (λj u a=>by simp at a) (λu b=>by simp at b)
def sF (w4:ZU) (name:ByteArray) (a:Option ZR) (n b:Nat):Src ZN 2 36 (Z5 (ZX ⟨w4.heap.size,0,ZY⟩) 1 1) 1 [Z0 name,.slice a n b] (w4.alloc (Z4 #[Z0 name,.slice a n b] 101)):=
 Vk _ U3 ⟨w4.heap.size,0,ZY⟩ 1 1 [Z0 name,.slice a n b] rfl (λj u d=>by
  rw [Vp,Um];have f:=UN w4 (Z4 #[Z0 name,.slice a n b] 101);have e:(#[Value.string name,.slice a n b]:Array ZT)[j]?=ZX u:=by simpa using d
  simp only [World.cell?,f];exact e) (λu c=>by
  simp only [Uz,W4,or_false] at c;rcases c with rfl|rfl<;>rfl)
def P2 {b1 b2:Nat} {v:ZT} {xs:List ZT} (f:w.ownsRow b1 5 1 v n xs) (p:w.ownsRow b2 101 2 u m ys) (o:w.grownBy w' u.ownBlock):w'.ownsRow b1 5 1 v n xs:=by
 refine ⟨f.1,?_⟩;rcases f.2 with l|⟨g,cap,cur,i,j,b,rr⟩
 . exact .inl l
 . refine .inr ⟨g,cap,cur,i,j,(o.block g (T5.1 b).1 (λe=>?_)).trans b,rr⟩;rcases p.2 with ⟨rfl,_⟩|⟨k,c,d,rfl,_,a,_⟩
   . cases e
   . have h:k=g:=(by simpa [Value.ownBlock] using e.symm);subst h;rw [b] at a;cases a
def Ha {base:Nat} {e:ZP} {v:ZT} {xs:List ZT} (h:w.ownsRow base e size v n xs) {k:Nat} (a:v.ownBlock=ZX k):base<=k:=by
 rcases h.2 with ⟨rfl,_⟩|⟨g,cap,cur,rfl,c,_⟩
 . cases a
 . have:g=k:=(by simpa [Value.ownBlock] using a);omega
def mO {base:Nat} {v vb:ZT} {L:List (ByteArray×ZT)} {xs:List ZT} (_:rI w r base v L) (j:w3.ownsRow w.heap.size 5 1 vb n xs) (f:bW w w3) (l:w4.ownsRow w.heap.size 101 2 u a ys) (g:bW w3 w4) (h:(w4.alloc o).grownBy w5 u.ownBlock):bW w w5/\w5.ownsRow w.heap.size 5 1 vb n xs:=by
 have b:bW w4 (w4.alloc o):=bA w4 _;have c:bW w w4:=f.trans (g.mono f.size);have d:bW w (w4.alloc o):=c.trans (b.mono c.size);have i:=an l b;exact ⟨d.grown h d.size (λk e=>Ha i e),P2 (an (an j g) b) i h⟩
def kY {vb:ZT} {xs:List ZT} (d:w5.ownsRow w.heap.size 101 2 u a ys) (b:bW w w5) (f:w5.ownsRow w.heap.size 5 1 vb n xs) (c:w5.grownBy w6 u.ownBlock):bW w w6/\w6.ownsRow w.heap.size 5 1 vb n xs:=
 ⟨b.grown c b.size (λ_ e=>Ha d e),P2 f d c⟩
def Nt (w:ZU) (r:Nat) (L:List (ByteArray×ZT)) (x:ByteArray) (d:a8) (e:ZQ) (w':ZU):Prop:=
 e=Z3 (Z7 Z9 0)/\∃ u vb,rI w' r w.heap.size u (L.take (aL (cE L) x)++(x,vb)::L.drop (aL (cE L) x))/\w'.ownsRow w.heap.size 5 1 vb d.length (aI d)/\aa (λj=>j=r) w w'
def oZ {v vb:ZT} {L:List (ByteArray×ZT)} (D:d.length=n) (y:aL (cE L) x=a) (c:w6.ownsRow w.heap.size 101 2 u m (aO (L.take a)++[Z0 x,vb]++aO (L.drop a))) (t:bW w w6) (B:w6.ownsRow w.heap.size 5 1 vb n (aI d)) (A:w6.heap[r]?=ZX (Z4 #[v] 38 (0,0))) (E:r<w.heap.size):Nt w r L x d (Z3 (Z7 Z9 0)) (w6.setCell ⟨r,0,ZY⟩ u):=by
 have l:∀ j,j≠r->(w6.setCell ⟨r,0,ZY⟩ u).heap[j]?=w6.heap[j]?:=λj f=>Uj _ _ _ _ f;have i:aO (L.take a)++[Z0 x,vb]++aO (L.drop a)=aO (L.take a++(x,vb)::L.drop a):=by
  rw [jt,UC];rfl
 have C:m=(L.take a++(x,vb)::L.drop a).length:=by
  have:=c.1;rw [i,kH] at this;omega
 rw [i,C] at c;have b:∀ {e:ZP} {size k:Nat} {z:ZT} {xs:List ZT},w6.ownsRow w.heap.size e size z k xs->(w6.setCell ⟨r,0,ZY⟩ u).ownsRow w.heap.size e size z k xs:=λ{e size k z xs} h=>by
  refine ⟨h.1,?_⟩;rcases h.2 with s|⟨g,cap,cur,o,p,q,rr⟩
  . exact .inl s
  . exact .inr ⟨g,cap,cur,o,p,(l g (by omega)).trans q,rr⟩
 refine ⟨rfl,u,vb,?_,?_,?_⟩
 . rw [y];refine ⟨?_,b c⟩;have:=af (j:=0) A u;exact this
 . rw [D];exact b B
 . exact (aa.RT t _).trans ⟨rfl,rfl,rfl,by simp [World.setCell],λj _ f=>l j f⟩
def PuR (w:ZU) (L:List (ByteArray×ZT)) (x:ByteArray) (i:ZT) (wr:ZU):Prop:=∃ k:Nat,k<=L.length/\i=Z7 Z9 k/\wr=w/\∀ j (hj:j<L.length),j<k->jA L[j].1 x=ZW
theorem Nu {base cap:Nat} {L:List (ByteArray×ZT)} (h:rI w r base (Z5 (ZX ⟨g,0,ZY⟩) L.length cap) L) (hl:L.length<=100000) (V:∀ o∈L,kI o.2) (name:ByteArray) (ao:Option ZR) (c:Nat) (d:a8) (hd:Bs w (.slice ao d.length c) d) (q4:d.length<=1500) (ky:eI name) (q3:pL L name) (N:∀ k (hk:k<L.length),w.cell? ⟨g,k*2,ZY⟩=ZX (Z0 L[k].1)/\w.cell? ⟨g,k*2+1,ZY⟩=ZX L[k].2) (W:g<w.heap.size) (q6:L.length<=cap) :
 ZS ZN 48 #[Z6 (ZX ⟨r,0,ZY⟩),Z0 name,.slice ao d.length c] w (Nt w r L name d):=by
 obtain ⟨c0,f0⟩:=h.cell;have hc:=jK h (by omega) name;obtain ⟨id,f,J,I,H⟩:=Uu Tryz.Sj;obtain ⟨ib,ks,ke,kf,kg⟩:=Uu Tryz.Sz;have h0:¬ name.size=0:=by have:=ky.1;omega
 have n0:¬ (name.size:Int)=0:=by omega
 have n1:¬ (16:Int)<(name.size:Int):=by have:=ky.2;omega
 obtain ⟨n,hn⟩:=nM (d.length);have kz:=vA hd;rw [hn] at kz q4 ⊢;have n2:¬ (1500:Int)<(n:Int):=by omega
 have A:r<w.heap.size:=Ui c0;have p:=aE kz h hn;clear ky h kz hd hn;go_enter func48,ntmps48;go_wp2_with fail;refine hc.mono ?_;rintro e w1 ⟨rfl,hf⟩;rcases hf with ⟨k,hk,rfl,hn,kp⟩|⟨rfl,kk⟩
 . exact absurd hn (q3 k hk)
 clear hc kk q3;go_wp2;go_loopw [8] (λi wr=>PuR w1 L name i wr) (λi _=>L.length-(intOf i).toNat)
 case atStart=>exact ⟨0,T7 _,rfl,rfl,λj _ h=>by omega⟩
 case round=>
  obtain ⟨k,hk,rfl,rfl,U⟩:=hrel;by_cases kv:k<L.length
  . obtain ⟨q1,q2⟩:=N k kv;obtain ⟨nm,kj⟩:=nM (L[k].1);rw [kj] at q1;have kx:(k:Int)<(L.length:Int):=(by omega);cases h6:jA nm name with
    | true=>
     have q5:Op.bytesLess nm.toList name.toList=ZW:=h6;have ka:PuR wr L name (Z7 Z9 ((k+1:Nat):Int)) wr:=⟨k+1,by omega,rfl,rfl,λj l h=>by
      rcases XP (Nat.le_of_lt_succ h) with e|h'
      . subst e;rw [kj];exact h6
      . exact U j l h'⟩
     have HN:=ak ka;clear ka U q2 kj N;go_wp2;refine ⟨by simpa using HN.o,?_⟩;show L.length-((k:Int)+1).toNat<L.length-((k:Int)).toNat;omega
    | false=>
     have q5:Op.bytesLess nm.toList name.toList=ZV:=h6;have T:aL (cE L) name=k:=gN _ _ _ (by unfold cE;rw [Ud];omega) (λj l h=>by
      unfold cE at l ⊢;rw [UU];exact U j (by rwa [Ud] at l) h) (λhi=>by simp only [cE,UU,kj];exact h6)
     have k3:¬ cap=k:=(by omega);have k4:k<=cap:=(by omega);have k5:(k:Int)<=(cap:Int):=(by omega);clear U q2 kj;have B:=al T N;clear T N;go_wp2_with (first
      | (at_builtin;refine ae _ rfl (Z1 48) (Z1 49) 40 40 rfl wr.heap.size 5 ib (Z7 .u8 0) 1 1 Uq ks ke kf kg rfl (Z5 ZY 0 0) 0 [] rfl (UP _ _ _ _) _ rfl n (aI d) p.o.1 (by unfold maxLen;omega) (by omega) lR ?_;intro vb w3 x a X;rw [Um,Ut] at x;have u:bW wr w3:=⟨a.os,a.tape,a.output,a.size,λj l=>a.block j l (by simp [Value.ownBlock])⟩;have F:=(u.block r A).trans p.o.2.1.top;have c3:w3.cell? ⟨r,0,ZY⟩=ZX (Z5 (ZX ⟨g,0,ZY⟩) L.length cap):=by simp [World.cell?,F]
         have f3:w3.frozen? ⟨r,0,ZY⟩=ZV:=(by simp [World.frozen?,F]);obtain ⟨K,M,rfl⟩:=bD x;have q:=aE x u (vC B.o.2 W u V (show k<=L.length by omega));clear x a X u F)
      | (at_builtin;refine ae _ rfl (Z1 51) (Z1 57) 36 36 rfl wr.heap.size 101 id _ 2 40 U3 f J I H rfl (Z5 ZY 0 0) 0 [] rfl (UP _ _ _ _) _ rfl (k) (aO (L.take (k))) (q.o.2.2 cap) (by unfold maxLen;omega) (by omega) q.o.2.1.size ?_;intro v4 w4 y b Y;rw [Um,Ut] at y;have O:bW w3 w4:=⟨b.os,b.tape,b.output,b.size,λj l=>b.block j l (by simp [Value.ownBlock])⟩
         obtain ⟨la,lc,rfl⟩:=bD y;have s:=al y O;clear y b Y O)
      | (at_builtin;refine ae _ rfl (Z1 59) (Z1 63) 36 36 rfl wr.heap.size 101 id _ 2 40 U3 f J I H rfl (.slice la (k) lc) (k) (aO (L.take (k))) rfl (an s.o.1 (bA w4 _)) _ rfl 1 [Z0 name,.slice K n M] (sF w4 name K n M) (by unfold maxLen;omega) (by omega) (TZ q.o.2.1.size (TZ s.o.2.size (bA w4 _).size)) ?_;intro v5 w5 D P Z
         have km:=mO p.o.2.1 q.o.1 q.o.2.1 s.o.1 s.o.2 P;obtain ⟨v,R⟩:=km;have G:=(v.block r A).trans p.o.2.1.top;have c5:w5.cell? ⟨r,0,ZY⟩=ZX (Z5 (ZX ⟨g,0,ZY⟩) L.length cap):=(by simp [World.cell?,G]);have f5:w5.frozen? ⟨r,0,ZY⟩=ZV:=(by simp [World.frozen?,G]);obtain ⟨ma,mc,rfl⟩:=bD D;have m:=a5 D v R (vD B.o.2 W v V (show k<=L.length by omega));clear D P Z v R G)
      | (at_builtin;refine ae _ rfl (Z1 65) (Z1 71) 36 36 rfl wr.heap.size 101 id _ 2 40 U3 f J I H rfl (.slice ma (k+1) mc) (k+1) _ rfl m.o.1 _ rfl (L.length-(k)) (aO (L.drop (k))) (m.o.2.2.2 _) (by unfold maxLen;omega) (by omega) m.o.2.1.size ?_;intro v6 w6 E Q hp
         have ko:=kY m.o.1 m.o.2.1 m.o.2.2.1 Q;obtain ⟨C,S⟩:=ko;have z:=(C.block r A).trans p.o.2.1.top;have c6:w6.cell? ⟨r,0,ZY⟩=ZX (Z5 (ZX ⟨g,0,ZY⟩) L.length cap):=(by simp [World.cell?,z]);have f6:w6.frozen? ⟨r,0,ZY⟩=ZV:=(by simp [World.frozen?,z]);obtain ⟨na,nc,rfl⟩:=bD E;have t:=a5 E C S z;clear E Q hp C S z))
     all_goals (go_ret;exact oZ p.o.2.2 B.o.1 t.o.1 t.o.2.1 t.o.2.2.1 t.o.2.2.2 A)
  . have q0:k=L.length:=(by omega);have kx:¬ (k:Int)<(L.length:Int):=(by omega);have T:aL (cE L) name=k:=gN _ _ _ (by unfold cE;rw [Ud];omega) (λj l h=>by
     unfold cE at l ⊢;rw [UU];exact U j (by rwa [Ud] at l) h) (λhi=>by unfold cE at hi;rw [Ud] at hi;omega)
    have HK:=ak q0;clear U q0;by_cases kr:cap=k
    . subst kr;clear q6 kv;have B:=al T N;clear T N;go_wp2_with (first
       | (at_builtin;refine ae _ rfl (Z1 48) (Z1 49) 40 40 rfl wr.heap.size 5 ib (Z7 .u8 0) 1 1 Uq ks ke kf kg rfl (Z5 ZY 0 0) 0 [] rfl (UP _ _ _ _) _ rfl n (aI d) p.o.1 (by unfold maxLen;omega) (by omega) lR ?_;intro vb w3 x a X;rw [Um,Ut] at x;have u:bW wr w3:=⟨a.os,a.tape,a.output,a.size,λj l=>a.block j l (by simp [Value.ownBlock])⟩;have F:=(u.block r A).trans p.o.2.1.top;have c3:w3.cell? ⟨r,0,ZY⟩=ZX (Z5 (ZX ⟨g,0,ZY⟩) L.length cap):=by simp [World.cell?,F]
          have f3:w3.frozen? ⟨r,0,ZY⟩=ZV:=(by simp [World.frozen?,F]);obtain ⟨K,M,rfl⟩:=bD x;have q:=aE x u (vC B.o.2 W u V (show cap<=L.length by omega));clear x a X u F)
       | (at_builtin;refine ae _ rfl (Z1 51) (Z1 57) 36 36 rfl wr.heap.size 101 id _ 2 40 U3 f J I H rfl (Z5 ZY 0 0) 0 [] rfl (UP _ _ _ _) _ rfl (cap) (aO (L.take (cap))) (q.o.2.2 cap) (by unfold maxLen;omega) (by omega) q.o.2.1.size ?_;intro v4 w4 y b Y;rw [Um,Ut] at y;have O:bW w3 w4:=⟨b.os,b.tape,b.output,b.size,λj l=>b.block j l (by simp [Value.ownBlock])⟩
          obtain ⟨la,lc,rfl⟩:=bD y;have s:=al y O;clear y b Y O)
       | (at_builtin;refine ae _ rfl (Z1 59) (Z1 63) 36 36 rfl wr.heap.size 101 id _ 2 40 U3 f J I H rfl (.slice la (cap) lc) (cap) (aO (L.take (cap))) rfl (an s.o.1 (bA w4 _)) _ rfl 1 [Z0 name,.slice K n M] (sF w4 name K n M) (by unfold maxLen;omega) (by omega) (TZ q.o.2.1.size (TZ s.o.2.size (bA w4 _).size)) ?_;intro v5 w5 D P Z
          have km:=mO p.o.2.1 q.o.1 q.o.2.1 s.o.1 s.o.2 P;obtain ⟨v,R⟩:=km;have G:=(v.block r A).trans p.o.2.1.top;have c5:w5.cell? ⟨r,0,ZY⟩=ZX (Z5 (ZX ⟨g,0,ZY⟩) L.length cap):=(by simp [World.cell?,G]);have f5:w5.frozen? ⟨r,0,ZY⟩=ZV:=(by simp [World.frozen?,G]);obtain ⟨ma,mc,rfl⟩:=bD D;have m:=a5 D v R (vD B.o.2 W v V (show cap<=L.length by omega));clear D P Z v R G)
       | (at_builtin;refine ae _ rfl (Z1 65) (Z1 71) 36 36 rfl wr.heap.size 101 id _ 2 40 U3 f J I H rfl (.slice ma (cap+1) mc) (cap+1) _ rfl m.o.1 _ rfl (L.length-(cap)) (aO (L.drop (cap))) (yV HK.o _ _ _) (by unfold maxLen;omega) (by omega) m.o.2.1.size ?_;intro v6 w6 E Q hp
          have ko:=kY m.o.1 m.o.2.1 m.o.2.2.1 Q;obtain ⟨C,S⟩:=ko;have z:=(C.block r A).trans p.o.2.1.top;have c6:w6.cell? ⟨r,0,ZY⟩=ZX (Z5 (ZX ⟨g,0,ZY⟩) L.length cap):=(by simp [World.cell?,z]);have f6:w6.frozen? ⟨r,0,ZY⟩=ZV:=(by simp [World.frozen?,z]);obtain ⟨na,nc,rfl⟩:=bD E;have t:=a5 E C S z;clear E Q hp C S z))
      all_goals (go_ret;exact oZ p.o.2.2 B.o.1 t.o.1 t.o.2.1 t.o.2.2.1 t.o.2.2.2 A)
    . have k4:k<=cap:=(by omega);have k5:(k:Int)<=(cap:Int):=(by omega);clear kv;have B:=al T N;clear T N;go_wp2_with (first
       | (at_builtin;refine ae _ rfl (Z1 48) (Z1 49) 40 40 rfl wr.heap.size 5 ib (Z7 .u8 0) 1 1 Uq ks ke kf kg rfl (Z5 ZY 0 0) 0 [] rfl (UP _ _ _ _) _ rfl n (aI d) p.o.1 (by unfold maxLen;omega) (by omega) lR ?_;intro vb w3 x a X;rw [Um,Ut] at x;have u:bW wr w3:=⟨a.os,a.tape,a.output,a.size,λj l=>a.block j l (by simp [Value.ownBlock])⟩;have F:=(u.block r A).trans p.o.2.1.top;have c3:w3.cell? ⟨r,0,ZY⟩=ZX (Z5 (ZX ⟨g,0,ZY⟩) L.length cap):=by simp [World.cell?,F]
          have f3:w3.frozen? ⟨r,0,ZY⟩=ZV:=(by simp [World.frozen?,F]);obtain ⟨K,M,rfl⟩:=bD x;have q:=aE x u (vC B.o.2 W u V (show k<=L.length by omega));clear x a X u F)
       | (at_builtin;refine ae _ rfl (Z1 51) (Z1 57) 36 36 rfl wr.heap.size 101 id _ 2 40 U3 f J I H rfl (Z5 ZY 0 0) 0 [] rfl (UP _ _ _ _) _ rfl (k) (aO (L.take (k))) (q.o.2.2 cap) (by unfold maxLen;omega) (by omega) q.o.2.1.size ?_;intro v4 w4 y b Y;rw [Um,Ut] at y;have O:bW w3 w4:=⟨b.os,b.tape,b.output,b.size,λj l=>b.block j l (by simp [Value.ownBlock])⟩
          obtain ⟨la,lc,rfl⟩:=bD y;have s:=al y O;clear y b Y O)
       | (at_builtin;refine ae _ rfl (Z1 59) (Z1 63) 36 36 rfl wr.heap.size 101 id _ 2 40 U3 f J I H rfl (.slice la (k) lc) (k) (aO (L.take (k))) rfl (an s.o.1 (bA w4 _)) _ rfl 1 [Z0 name,.slice K n M] (sF w4 name K n M) (by unfold maxLen;omega) (by omega) (TZ q.o.2.1.size (TZ s.o.2.size (bA w4 _).size)) ?_;intro v5 w5 D P Z
          have km:=mO p.o.2.1 q.o.1 q.o.2.1 s.o.1 s.o.2 P;obtain ⟨v,R⟩:=km;have G:=(v.block r A).trans p.o.2.1.top;have c5:w5.cell? ⟨r,0,ZY⟩=ZX (Z5 (ZX ⟨g,0,ZY⟩) L.length cap):=(by simp [World.cell?,G]);have f5:w5.frozen? ⟨r,0,ZY⟩=ZV:=(by simp [World.frozen?,G]);obtain ⟨ma,mc,rfl⟩:=bD D;have m:=a5 D v R (vD B.o.2 W v V (show k<=L.length by omega));clear D P Z v R G)
       | (at_builtin;refine ae _ rfl (Z1 65) (Z1 71) 36 36 rfl wr.heap.size 101 id _ 2 40 U3 f J I H rfl (.slice ma (k+1) mc) (k+1) _ rfl m.o.1 _ rfl (L.length-(k)) (aO (L.drop (k))) (yV HK.o _ _ _) (by unfold maxLen;omega) (by omega) m.o.2.1.size ?_;intro v6 w6 E Q hp
          have ko:=kY m.o.1 m.o.2.1 m.o.2.2.1 Q;obtain ⟨C,S⟩:=ko;have z:=(C.block r A).trans p.o.2.1.top;have c6:w6.cell? ⟨r,0,ZY⟩=ZX (Z5 (ZX ⟨g,0,ZY⟩) L.length cap):=(by simp [World.cell?,z]);have f6:w6.frozen? ⟨r,0,ZY⟩=ZV:=(by simp [World.frozen?,z]);obtain ⟨na,nc,rfl⟩:=bD E;have t:=a5 E C S z;clear E Q hp C S z))
      all_goals (go_ret;exact oZ p.o.2.2 B.o.1 t.o.1 t.o.2.1 t.o.2.2.1 t.o.2.2.2 A)
theorem Nv {base:Nat} (h:rI w r base (Z5 ZY 0 0) []) (name:ByteArray) (ao:Option ZR) (c:Nat) (d:a8) (O:Bs w (.slice ao d.length c) d) (kb:d.length<=1500) (I:eI name) :
 ZS ZN 48 #[Z6 (ZX ⟨r,0,ZY⟩),Z0 name,.slice ao d.length c] w (Nt w r [] name d):=by
 obtain ⟨c0,f0⟩:=h.cell;have N:=jK h (by simp) name;obtain ⟨id,b,F,D,B⟩:=Uu Tryz.Sj;obtain ⟨ib,kc,hq,hr,hs⟩:=Uu Tryz.Sz;have h0:¬ name.size=0:=by have:=I.1;omega
 have n0:¬ (name.size:Int)=0:=by omega
 have n1:¬ (16:Int)<(name.size:Int):=by have:=I.2;omega
 obtain ⟨n,E⟩:=nM (d.length);have J:=vA O;rw [E] at J kb ⊢;have n2:¬ (1500:Int)<(n:Int):=by omega
 have v:r<w.heap.size:=Ui c0;have f:=aE J h E;clear I h J O E;go_enter func48,ntmps48;go_wp2_with fail;refine N.mono ?_;rintro e w1 ⟨rfl,hf⟩;rcases hf with ⟨k,hk,_⟩|⟨rfl,_⟩
 . exact absurd hk (by simp)
 clear N;go_wp2;go_loopw [8] (λi wr=>i=Z7 Z9 0/\wr=w1) (λ_ _=>0)
 case atStart=>exact ⟨rfl,rfl⟩
 case round=>
  obtain ⟨rfl,rfl⟩:=hrel;go_wp2_with (first
   | (at_builtin;refine ae _ rfl (Z1 48) (Z1 49) 40 40 rfl wr.heap.size 5 ib (Z7 .u8 0) 1 1 Uq kc hq hr hs rfl (Z5 ZY 0 0) 0 [] rfl (UP _ _ _ _) _ rfl n (aI d) f.o.1 (by unfold maxLen;omega) (by omega) lR ?_;intro vb w3 t g W;rw [Um,Ut] at t;have y:bW wr w3:=⟨g.os,g.tape,g.output,g.size,λj C=>g.block j C (by simp [Value.ownBlock])⟩;have S:=(y.block r v).trans f.o.2.1.top;have c3:w3.cell? ⟨r,0,ZY⟩=ZX (Z5 ZY 0 0):=by simp [World.cell?,S]
      obtain ⟨K,M,rfl⟩:=bD t;have p:=al t y;clear t g W y S)
   | (at_builtin;refine ae _ rfl (Z1 51) (Z1 57) 36 36 rfl wr.heap.size 101 id _ 2 40 U3 b F D B rfl (Z5 ZY 0 0) 0 [] rfl (UP _ _ _ _) _ rfl 0 [] (XN _ U3 0) (by unfold maxLen;omega) (by omega) p.o.2.size ?_;intro v4 w4 u l X;rw [Um,Ut] at u;have P:bW w3 w4:=⟨l.os,l.tape,l.output,l.size,λj C=>l.block j C (by simp [Value.ownBlock])⟩
      obtain ⟨la,lc,rfl⟩:=bD u;have q:=al u P;clear u l X P)
   | (at_builtin;refine ae _ rfl (Z1 59) (Z1 63) 36 36 rfl wr.heap.size 101 id _ 2 40 U3 b F D B rfl (.slice la 0 lc) 0 [] rfl (an q.o.1 (bA w4 _)) _ rfl 1 [Z0 name,.slice K n M] (sF w4 name K n M) (by unfold maxLen;omega) (by omega) (TZ p.o.2.size (TZ q.o.2.size (bA w4 _).size)) ?_;intro v5 w5 G Q Y
      have ke:=mO f.o.2.1 p.o.1 p.o.2 q.o.1 q.o.2 Q;obtain ⟨z,U⟩:=ke;have T:=(z.block r v).trans f.o.2.1.top;have c5:w5.cell? ⟨r,0,ZY⟩=ZX (Z5 ZY 0 0):=(by simp [World.cell?,T]);obtain ⟨ma,mc,rfl⟩:=bD G;have m:=aE G z U;clear G Q Y z U T)
   | (at_builtin;refine ae _ rfl (Z1 65) (Z1 71) 36 36 rfl wr.heap.size 101 id _ 2 40 U3 b F D B rfl (.slice ma 1 mc) 1 _ rfl m.o.1 _ rfl 0 [] (XN _ U3 0) (by unfold maxLen;omega) (by omega) m.o.2.1.size ?_;intro v6 w6 H R Z
      have kf:=kY m.o.1 m.o.2.1 m.o.2.2 R;obtain ⟨A,V⟩:=kf;have x:=(A.block r v).trans f.o.2.1.top;have c6:w6.cell? ⟨r,0,ZY⟩=ZX (Z5 ZY 0 0):=(by simp [World.cell?,x]);have f6:w6.frozen? ⟨r,0,ZY⟩=ZV:=(by simp [World.frozen?,x]);obtain ⟨na,nc,rfl⟩:=bD H;have s:=a5 H A V x;clear H R Z A V x))
  all_goals (go_ret;exact oZ (a:=0) (L:=[]) f.o.2.2 rfl s.o.1 s.o.2.1 s.o.2.2.1 s.o.2.2.2 v)
def Hb {base:Nat} {v:ZT} {L:List (ByteArray×ZT)} (h:rI w r base v L) (hl:L.length<=100000) (t:∀ o∈L,kI o.2) (name:ByteArray) (ao:Option ZR) (c:Nat) (d:a8) (i:Bs w (.slice ao d.length c) d) (e:d.length<=1500) (f:eI name) (s:pL L name) :
 ZS ZN 48 #[Z6 (ZX ⟨r,0,ZY⟩),Z0 name,.slice ao d.length c] w (Nt w r L name d):=by
 rcases h.shape with ⟨rfl,rfl⟩|⟨g,cap,rfl,x,n,m⟩
 . exact Nv h name ao c d i e f
 . have p:g<w.heap.size:=by
    rcases h.own.2 with ⟨q,_⟩|⟨l,a,cur,b,u,k,_⟩
    . cases q
    . have j:g=l:=by
       simp only [VA,US,abF] at b;exact b.1.1
      rw [j];exact (T5.1 k).1
   exact Nu h hl t name ao c d i e f s m p n
section
def wD (xs:aX) (x:ByteArray) (k:Int):Prop:=(cj x=ZV/\k=6)\/(cj x=ZW/\x∉xs.names/\k=9)
def DG (xs:aX) (x:ByteArray) (xs':aX):Prop:=cj x=ZW/\x∈xs.names/\xs'=xs.del (aL xs.names x)
section
variable {w:ZU} {ar v p D L G t:Nat} {ps:bf} {pg ob:ZT} {P:a8} {xs:aX} {A:aC} {F:aH}
def a9.TJ (h:a9 w ar v p ps D L G t pg ob P xs A F) (k:Nat):(aj (xs.del k).os).length<=1000000:=TZ (qB xs k) h.packL_le
def Pt (h:a9 w ar v p ps D L G t pg ob P xs A F) (k:Nat) {pgn:Nat} (d:pgn=pgs D (aj (xs.del k).os).length) :
 ZS ZN 102 #[Z6 (ZX ⟨ar,0,ZY⟩),Z7 Z9 (pgn:Nat)] w λe w'=>∃ g cap,e=Z3 (ZZ #[Z5 (ZX ⟨g,0,ZY⟩) pgn cap,Z2 ZW])/\w'.ownsRow w.heap.size 3 1 (Z5 (ZX ⟨g,0,ZY⟩) pgn cap) pgn (jV ((aY (tk A.nb (P++ah xs.os)).1 A.nb).take pgn))/\((aY (tk A.nb (P++ah xs.os)).1 A.nb).take pgn).length=pgn/\w.heap.size<=g/\g<w'.heap.size/\bW w w'/\pgn<=1000:=by
 have:=h.nb;have:1<=pgn:=by rw [d];unfold pgs;omega
 have c:=Fw h.disk k;have:=lT h.disk.nod h.disk.TM;rw [<- d] at c;have a:=lO h.arc h.vol.vol h.vol.arr h.n0 P xs.os h.pgs.any h.cat.any pgn (by omega);rw [U1 c] at a;have b:((aY (tk A.nb (P++ah xs.os)).1 A.nb).take pgn).length=pgn:=by rw [Us];omega
 rw [b] at a;refine a.mono ?_;rintro e w' ⟨u,rfl,ho,f⟩;rcases ho.2 with ⟨_,l⟩|⟨g,cap,cur,rfl,i,j,q,_⟩
 . omega
 . exact ⟨g,cap,rfl,ho,b,i,(T5.1 j).1,f,by omega⟩
def J4 (h:a9 w ar v p ps D L G t pg ob P xs A F) (k7:t<1000000) (x:ByteArray) (X:cj x=ZW) (T:x∈xs.names) (k:Nat) (k0:aL xs.names x=k) {w2:ZU} {u:ZT} {pgn g cap:Nat} (K:pgn=pgs D (aj (xs.del k).os).length) (n:fa (λk=>ar<k/\¬ F.S k/\¬ ps.bl k) w2 u (xs.del k).os) (B:bW w w2)
 (r:bg (λk=>ar<k/\¬ F.S k/\¬ ps.bl k) w2 (Z5 (ZX ⟨g,0,ZY⟩) pgn cap) ((aY (tk A.nb (P++ah xs.os)).1 A.nb).take pgn)) (a:((aY (tk A.nb (P++ah xs.os)).1 A.nb).take pgn).length=pgn) :
 ZS ZN 105 #[Z6 (ZX ⟨ar,0,ZY⟩),u,Z5 (ZX ⟨g,0,ZY⟩) pgn cap] w2 (dw w ar v p ps D L G t xs A F (wD xs x) (DG xs x)):=by
 obtain ⟨oo,oc,rfl,hol,_⟩:=id n;have U:=h.vol.par;have l:=h.disk;have f:=nC l.nod l.TM pgn;obtain ⟨d,Z⟩:=nM ((aY (tk A.nb (P++ah xs.os)).1 A.nb).take pgn);rw [Z] at r a f;have:1<=pgn:=by rw [K];unfold pgs;omega
 have V:d≠[]:=λe=>by rw [e] at a;simp at a;omega
 have N:∀ b∈d,b<A.nb:=λb W=>(f.2 b (UO _ W)).2;have O:=h.TJ k;have J:d.length=pgs D (aj (xs.del k).os).length:=by rw [a,K]
 have z:=kW xs k;have M:∀ o∈(xs.del k).os,o.fit:=λo ho=>by
  obtain ⟨y,Y,rfl⟩:=Ua.1 ho;exact (l.fits y (z.subset Y)).fit
 have Q:(xs.del k).os.length<=10000:=by
  have:=z.length_le;have e:(xs.del k).os.length=(xs.del k).length:=by simp [aX.os]
  have:=h.Sq.1;have:xs.os.length=xs.length:=by simp [aX.os]
  omega
 have i:=h.below B;have C:=nz (w:=w2) i.arc i.vol i.fine i.nar
  oo _ oc (aj (xs.del k).os) (vv _) O (uo n.any M Q) g 0 cap d (by rw [a];exact r.TG λk c=>c.2.1) V N (λj R=>Dj U.d1 (by rw [<- J];exact R))
 rw [a] at C;refine C.mono ?_;rintro e w3 ⟨m,rfl,E,I⟩;have k5:nx t=t+1:=by unfold nx;omega
 have s:aa (λk=>k=ar\/F.S k) w w3:=(aa.RT B _).trans m
 . have H:eN (λk=>ar<k/\¬ F.S k/\¬ ps.bl k) w2 w3:=⟨m.size,λk c hK=>m.block k c (λe=>e.elim (λq=>by have:=hK.1;omega) hK.2.1)⟩;rw [k5] at E I;have c:=AS A D L G (t+1) d (aj (xs.del k).os);exact ⟨_,_,_,_,_,_,_,rfl,qC h I E s c (by omega) (ME l k J f.1 f.2) (r.keep H) (n.keep H),c,s,.inl ⟨rfl,rfl,X,T,by rw [k0]⟩⟩
end
theorem F6 {xs:aX} {A:aC} (h:a9 w ar v p ps D L G t pg ob P xs A F) (kc:t<1000000) (x:ByteArray) :
 ZS ZN 73 #[Z6 (ZX ⟨ar,0,ZY⟩),Z0 x] w (dw w ar v p ps D L G t xs A F (wD xs x) (DG xs x)):=by
 have k8:∀ w' j,bW w w'->wD xs x j->dw w ar v p ps D L G t xs A F (wD xs x) (DG xs x) (Z3 (AP j)) w':=λw' j E hq=>⟨_,_,_,_,_,_,_,rfl,h.below E,fj.refl A,aa.RT E _,.inr ⟨rfl,rfl,j,rfl,hq⟩⟩;obtain ⟨_,_,_,_,c8⟩:=h.arc.cells;have R:=h.find x;obtain ⟨k,Q⟩:=nM (aL xs.names x);obtain ⟨i,l⟩:=nM (mS xs.os x);rw [Q,l] at R;have f:=a6 h Q l kc k8;clear Q l h k8 kc;go_enter func73,ntmps73;go_wp2_with fail;refine R.mono ?_;rintro e w1 ⟨rfl,E⟩;have H:=ak E;clear E R c8;go_wp2_with fail;refine (jT x w1).mono ?_;rintro e w2 ⟨rfl,rfl⟩;cases hx:cj x
 . dsimp only;go_wp2;go_ret;exact f.o.2.2.2.2 _ 6 H.o (.inl ⟨hx,rfl⟩)
 by_cases r:x∈xs.names;rotate_left
 . have l:=f.o.1.Sx r;rw [f.o.2.2.1] at l;subst l;have J:=ak r;clear r;dsimp only;go_wp2;go_ret;exact f.o.2.2.2.2 _ 9 H.o (.inr ⟨hx,J.o,rfl⟩)
 have l:=f.o.1.there r;rw [f.o.2.2.1] at l;subst l;have U:aL xs.names x<xs.os.length:=by
  obtain ⟨q,_⟩:=ux f.o.1.disk.up r;rwa [<- eJ,bw] at q
 rw [f.o.2.1] at U;obtain ⟨pgn,hc⟩:=nM (pgs D (aj (xs.del k).os).length);obtain ⟨len,h9⟩:=nM ((aj (xs.del k).os).length);have m:=a5 f.o.1 U hc h9;have J:=ak r;clear r U hc h9;dsimp only;have n:=m.o.1.below H.o;obtain ⟨_,_,_,_,d8⟩:=n.arc.cells;have X:=uP n.cat (by have:=n.Sq.1;omega) (λj hj=>⟨by have:=n.arc.lt;omega,λe=>by have:=n.vol.arr.RS e;omega,λe=>by have:=ps.lt _ n.kit _ e;omega⟩) m.o.2.1;rw [<- MC] at X;have Y:=ak n;clear n;go_wp2_with fail;refine X.mono ?_;rintro e w3 ⟨u,rfl,M,N⟩;have C:=Y.o.below N;have h3:∀ o∈(xs.del k).os,o.fit:=λo ho=>by
  obtain ⟨y,hy,rfl⟩:=Ua.1 ho;exact (C.disk.fits y ((kW xs k).subset hy)).fit
 have ha:(xs.del k).os.length<=10000:=by
  have h1:=(kW xs k).length_le;have e:(xs.del k).os.length=(xs.del k).length:=by simp [aX.os]
  have h4:=C.Sq.1;have h5:xs.os.length=xs.length:=by simp [aX.os]
  omega
 have V:=uk M h3 ha;have kg:=C.TJ k;rw [m.o.2.2.2] at V kg;have z:=aE C M (H.o.trans (N.mono H.o.size));clear X M N C h3 ha d8 Y;dsimp only;go_wp2_with fail;refine V.mono ?_;rintro e w4 ⟨rfl,I⟩;have c:=z.o.1.below I;have W:=jf c.arc c.vol.vol c.vol.par.d1 (by have:=c.vol.par.d;omega) len (by omega);have B:pgs D len=pgn:=by rw [<- m.o.2.2.2];exact m.o.2.2.1
 rw [B] at W;have kb:=Pt c k m.o.2.2.1.symm;have s:bW w w4:=z.o.2.2.trans (I.mono z.o.2.2.size);have Z:=aE c (z.o.2.1.keep (eN.RU I)) s;clear c I s B V z;dsimp only;go_wp2_with fail;refine W.mono ?_;rintro e ki ⟨rfl,rfl⟩;clear W;dsimp only;go_wp2_with fail;refine kb.mono ?_;rintro e w5 ⟨g,cap,rfl,k9,T,ke,kf,O,hs⟩;obtain ⟨c,k6,s⟩:=Z.o;have h7:ar<g/\¬ F.S g/\¬ ps.bl g:=⟨by have:=c.arc.lt;omega,λe=>by have:=c.vol.arr.RS e;omega,λe=>by have:=ps.lt _ c.kit _ e;omega⟩;have ka:bg (λk=>ar<k/\¬ F.S k/\¬ ps.bl k) w5 (Z5 (ZX ⟨g,0,ZY⟩) pgn cap) ((aY (tk A.nb (P++ah xs.os)).1 A.nb).take pgn):=by
  have:=yJ (K:=λk=>ar<k/\¬ F.S k/\¬ ps.bl k) (a:=pgn) (b:=0) (c1:=cap) k9 T h7 (by omega);rwa [UJ (by omega)] at this
 have k7:=J4 m.o.1 f.o.2.2.2.1 x hx J.o k f.o.2.1 m.o.2.2.1.symm (k6.keep (eN.RU O)) (s.trans (O.mono s.size)) ka T;clear c k6 s h7 hs ka kb k9 T ke kf O Z;dsimp only;go_wp2_with fail;refine k7.mono ?_;rintro e w6 ⟨er,t',kh,hd,P',xs',B',rfl,hp⟩;have HF:=ak hp;clear hp k7;dsimp only;go_wp2;go_ret;exact ⟨_,_,_,_,_,_,_,rfl,HF.o⟩
end
def dw.later {xs:aX} {A:aC} {Q:Int->Prop} {N:aX->Prop} (h:dw w ar v p ps D L G t xs A F Q N e w') (j:bW w0 w):dw w0 ar v p ps D L G t xs A F Q N e w':=by
 obtain ⟨x,k,b,a,P',xs',B,c,d,f,g,i⟩:=h;exact ⟨x,k,b,a,P',xs',B,c,d,f,(aa.RT j _).trans g,i⟩
def DoQ (t:Nat) (xs:aX) (Q:Int->Prop) (N:aX->Prop) (er:ZT) (t':Nat) (xs':aX):Prop:=(er=.nilIface/\t'=t+1/\N xs')\/(xs'=xs/\t'=t/\∃ n,er=AP n/\Q n)
def aaX {xs:aX} {A:aC} {Q:Int->Prop} {N:aX->Prop} (r:¬ Q 13) (h:a9 w ar v p ps D L G t pg ob P xs A F) (k:FuncId) (cap:Array ZT) (m:∀ (args:Array ZT) (w:ZU),(callFunc k args).run ZN w=.ok (.enter k args) w) (o:∀ w1,bW w w1->ZS ZN k (#[]++cap) w1 (dw w1 ar v p ps D L G t xs A F Q N)) :
 ZS ZN 52 #[Z6 (ZX ⟨ar,0,ZY⟩),.func (.func k) #[] cap] w (dw w ar v p ps D L G t xs A F Q N):=by
 refine (aaM h k #[] cap m (λx c xs' _ _=>DoQ t xs Q N x c xs') (λ_ _ _ _ _ _ _ q=>q) λw1 l _=>(o w1 l).mono ?_).mono ?_
 . rintro e w2 ⟨x,c,b,a,P',xs',B,f,g,i,j,d⟩;refine ⟨x,c,b,a,P',xs',B,f,?_,g,i,j,d⟩;rcases d with ⟨rfl,_⟩|⟨_,_,n,rfl,s⟩
   . exact .inl rfl
   . exact .inr ⟨n,λe=>r (e▸s),rfl⟩
 . rintro e w2 ⟨x,c,b,a,P',xs',B,f,_,g,i,j,d⟩;exact ⟨x,c,b,a,P',xs',B,f,g,i,j,d⟩
def Pu {xs:aX}:¬ wu D nb xs x n 13:=by
 rintro (⟨_,h⟩|⟨_,⟨_,h⟩|⟨_,⟨_,h⟩|⟨_,_,h⟩⟩⟩)<;>exact absurd h (by decide)
def Pv {xs:aX}:¬ wD xs x 13:=by
 rintro (⟨_,h⟩|⟨_,_,h⟩)<;>exact absurd h (by decide)
theorem abo {xs:aX} {A:aC} (h:a9 w ar v p ps D L G t pg ob P xs A F) (J:t<1000000) (x:ByteArray) (ao:Option ZR) (c:Nat) (d:a8) (z:∀ w',aa F.S w w'->Bs w' (.slice ao d.length c) d) (E:d.length<=c) :
 ZS ZN 69 #[Z6 (ZX ⟨ar,0,ZY⟩),Z0 x,.slice ao d.length c] w (dw w ar v p ps D L G t xs A F (wu D A.nb xs x d.length) (wA D A.nb xs x d)):=by
 have I:∀ (args:Array ZT) (w:ZU),(callFunc 95 args).run ZN w=.ok (.enter 95 args) w:=VC func95 (by kernel_rfl) rfl;obtain ⟨n,s⟩:=nM (d.length);obtain ⟨w3,g⟩:=nM (((w.alloc (Z4 #[Z6 (ZX ⟨ar,0,ZY⟩)] 103)).alloc (Z4 #[Z0 x] 9)).alloc (Z4 #[.slice ao n c] 40));have f:ZO w3 w.heap.size 103 (Z6 (ZX ⟨ar,0,ZY⟩)):=by rw [<- g];exact ((UH w _ _).alloc _).alloc _
 have i:ZO w3 (w.heap.size+1) 9 (Z0 x):=by
  have:=(UH (w.alloc (Z4 #[Z6 (ZX ⟨ar,0,ZY⟩)] 103)) 9 (Z0 x)).alloc (Z4 #[.slice ao n c] 40);rw [Uw] at this;rw [<- g];exact this
 have j:ZO w3 (w.heap.size+2) 40 (.slice ao n c):=by
  have:=UH ((w.alloc (Z4 #[Z6 (ZX ⟨ar,0,ZY⟩)] 103)).alloc (Z4 #[Z0 x] 9)) 40 (.slice ao n c);simp only [Uw] at this;rw [<- g];exact this
 have b:bW w w3:=by rw [<- g];exact ((bA w _).alloc (by simp) _).alloc (by simp;omega) _
 have y:∀ w1,bW w3 w1->ZS ZN 95 #[Z6 (ZX ⟨w.heap.size,0,ZY⟩),Z6 (ZX ⟨w.heap.size+1,0,ZY⟩),Z6 (ZX ⟨w.heap.size+2,0,ZY⟩)] w1 (dw w1 ar v p ps D L G t xs A F (wu D A.nb xs x d.length) (wA D A.nb xs x d)):=λw1 a=>by
  have K:=(show ZO w1 w.heap.size 103 _ from (a.block _ f.lt).trans f).cell;have M:=(show ZO w1 (w.heap.size+1) 9 _ from (a.block _ i.lt).trans i).cell;have N:=(show ZO w1 (w.heap.size+2) 40 _ from (a.block _ j.lt).trans j).cell;have k:bW w w1:=b.trans (a.mono b.size);have u:=Pf (h.below k) J x ao c d (λw' C=>z w' ((aa.RT k _).trans C)) E;rw [s] at u ⊢;clear f i j a k g b;go_enter func95,ntmps95;go_wp2_with fail;refine u.mono ?_;rintro e w2 l;obtain ⟨r,_,_,_,_,_,_,rfl,_⟩:=id l;have H:=ak l;clear l u;go_wp2;go_ret;exact H.o
 have q:=aaX Pu (h.below b) 95 #[Z6 (ZX ⟨w.heap.size,0,ZY⟩),Z6 (ZX ⟨w.heap.size+1,0,ZY⟩),Z6 (ZX ⟨w.heap.size+2,0,ZY⟩)] I (λw1 a=>y w1 a);have c1:=f.cell;rw [s] at q ⊢;have H:=al q b;clear q b y f i j h z s;go_enter func69,ntmps69;go_wp2_with fail;refine H.o.1.mono ?_;rintro e O m;obtain ⟨r,_,_,_,_,_,_,rfl,_⟩:=id m;have B:=ak (dw.later m H.o.2);clear m;go_wp2;go_ret;exact B.o
theorem Pw {xs:aX} {A:aC} (h:a9 w ar v p ps D L G t pg ob P xs A F) (s:t<1000000) (x:ByteArray) :
 ZS ZN 50 #[Z6 (ZX ⟨ar,0,ZY⟩),Z0 x] w (dw w ar v p ps D L G t xs A F (wD xs x) (DG xs x)):=by
 have q:∀ (args:Array ZT) (w:ZU),(callFunc 72 args).run ZN w=.ok (.enter 72 args) w:=VC func72 (by kernel_rfl) rfl;obtain ⟨w3,f⟩:=nM ((w.alloc (Z4 #[Z6 (ZX ⟨ar,0,ZY⟩)] 103)).alloc (Z4 #[Z0 x] 9));have c:ZO w3 w.heap.size 103 (Z6 (ZX ⟨ar,0,ZY⟩)):=by rw [<- f];exact (UH w _ _).alloc _
 have d:ZO w3 (w.heap.size+1) 9 (Z0 x):=by
  have:=UH (w.alloc (Z4 #[Z6 (ZX ⟨ar,0,ZY⟩)] 103)) 9 (Z0 x);rw [Uw] at this;rw [<- f];exact this
 have b:bW w w3:=by rw [<- f];exact (bA w _).alloc (by simp) _
 have k:∀ w1,bW w3 w1->ZS ZN 72 #[Z6 (ZX ⟨w.heap.size,0,ZY⟩),Z6 (ZX ⟨w.heap.size+1,0,ZY⟩)] w1 (dw w1 ar v p ps D L G t xs A F (wD xs x) (DG xs x)):=λw1 a=>by
  have u:=(show ZO w1 w.heap.size 103 _ from (a.block _ c.lt).trans c).cell;have y:=(show ZO w1 (w.heap.size+1) 9 _ from (a.block _ d.lt).trans d).cell;have j:bW w w1:=b.trans (a.mono b.size);have m:=F6 (h.below j) s x;clear c d a j f b;go_enter func72,ntmps72;go_wp2_with fail;refine m.mono ?_;rintro e w2 g;obtain ⟨r,_,_,_,_,_,_,rfl,_⟩:=id g;have H:=ak g;clear g m;go_wp2;go_ret;exact H.o
 have l:=aaX Pv (h.below b) 72 #[Z6 (ZX ⟨w.heap.size,0,ZY⟩),Z6 (ZX ⟨w.heap.size+1,0,ZY⟩)] q (λw1 a=>k w1 a);have c1:=c.cell;have H:=al l b;clear l b k c d h;go_enter func50,ntmps50;go_wp2_with fail;refine H.o.1.mono ?_;rintro e z i;obtain ⟨r,_,_,_,_,_,_,rfl,_⟩:=id i;have n:=ak (dw.later i H.o.2);clear i;go_wp2;go_ret;exact n.o
theorem abp {xs:aX} {A:aC} (g:ZO w sa 105 (Z6 (ZX ⟨ar,0,ZY⟩))) (h:a9 w ar v p ps D L G t pg ob P xs A F) (k:t<1000000) (x:ByteArray) (ao:Option ZR) (c:Nat) (d:a8) (f:∀ w',aa F.S w w'->Bs w' (.slice ao d.length c) d) (j:d.length<=c) :
 ZS ZN 46 #[Z6 (ZX ⟨sa,0,ZY⟩),Z0 x,.slice ao d.length c] w (dw w ar v p ps D L G t xs A F (wu D A.nb xs x d.length) (wA D A.nb xs x d)):=by
 have cs:=g.cell;have b:=abo h k x ao c d f j;clear g h f;go_enter func46,ntmps46;go_wp2_with fail;refine b.mono ?_;rintro e l a;obtain ⟨r,_,_,_,_,_,_,rfl,_⟩:=id a;have i:=ak a;clear a b;go_wp2;go_ret;exact i.o
theorem Px {xs:aX} {A:aC} (c:ZO w sa 105 (Z6 (ZX ⟨ar,0,ZY⟩))) (h:a9 w ar v p ps D L G t pg ob P xs A F) (f:t<1000000) (x:ByteArray) :
 ZS ZN 31 #[Z6 (ZX ⟨sa,0,ZY⟩),Z0 x] w (dw w ar v p ps D L G t xs A F (wD xs x) (DG xs x)):=by
 have cs:=c.cell;have b:=Pw h f x;clear c h;go_enter func31,ntmps31;go_wp2_with fail;refine b.mono ?_;rintro e g a;obtain ⟨r,_,_,_,_,_,_,rfl,_⟩:=id a;have d:=ak a;clear a b;go_wp2;go_ret;exact d.o
def vu.isSlice {xs:aX} {base:Nat} {r:ZT} (h:vu xs x base u r w):(∃ ao n c,u=.slice ao n c)/\m3 r:=by
 rcases h with ⟨rfl,h⟩|⟨rfl,_,X,_,_,ho⟩
 . refine ⟨⟨_,_,_,rfl⟩,.inr ?_⟩;rcases h with ⟨rfl,_⟩|⟨rfl,_⟩<;>exact ⟨_,by decide,rfl⟩
 . obtain ⟨a,b,e⟩:=aT ho;exact ⟨⟨_,_,_,e⟩,.inl rfl⟩
def vu.keep {xs:aX} {base base':Nat} {r:ZT} (h:vu xs x base u r w) (l:base'<=base) (m:∀ (j:Nat) (cs:Array ZT),w.heap[j]?=ZX (Z4 cs 5 (0,0))->w'.heap[j]?=w.heap[j]?):vu xs x base' u r w':=by
 refine h.imp id ?_;rintro ⟨e,f,X,i,k,ho⟩;refine ⟨e,f,X,i,k,ho.1,?_⟩;rcases ho.2 with d|⟨g,cap,cur,b,c,a,rr⟩
 . exact .inl d
 . exact .inr ⟨g,cap,cur,b,TZ l c,(m _ _ a).trans a,rr⟩
def DH (d:ZO w b 40 (.slice ao n c)):uR w b:=λoff u h=>by
 have a:w.heap[b]?=ZX (Z4 #[.slice ao n c] 40 (0,0)):=d;cases off with
 | zero=>simp [World.cell?,a] at h;subst h;exact ⟨λ_=>nofun,λ_=>nofun⟩
 | succ n=>simp [World.cell?,a] at h
def F8 (w:ZU) (ar v p:Nat) (Kind:bf->Prop) (ps:bf) (D L G t:Nat) (xs:aX) (A:aC) (F:aH) (x:ByteArray) (e:ZQ) (w':ZU):Prop:=
 ∃ u r ps' pg ob P,e=Z3 (ZZ #[u,r])/\RQ w ar v p Kind ps D L G t pg ob P xs A F ps' w'/\aa (λj=>j=ar\/F.S j\/j=v\/ps.bl j) w w'/\vu xs x w.heap.size u r w'/\Nf D xs x F A w w'
theorem Nw {q1 q2 q3:Nat} {xs:aX} {A:aC} (h:a9 w ar v p ps D L G t pg ob P xs A F) (x:ByteArray) (l:∀ w1,bW w w1->ZS ZN 71 #[Z6 (ZX ⟨ar,0,ZY⟩),Z0 x] w1 (mN w1 ar v p Kind ps D L G t pg ob P xs A F x)) (f:bW w w1) (z:ZO w1 q1 103 (Z6 (ZX ⟨ar,0,ZY⟩))) (C:ZO w1 q2 9 (Z0 x)) (g:ZO w1 q3 40 (Z5 ZY 0 0)) (U:w.heap.size<=q3) :
 ZS ZN 70 #[Z6 (ZX ⟨q1,0,ZY⟩),Z6 (ZX ⟨q2,0,ZY⟩),Z6 (ZX ⟨q3,0,ZY⟩)] w1 λe w2=>∃ u r ps',e=Z3 r/\RQ w ar v p Kind ps D L G t pg ob P xs A F ps' w2/\aa (λj=>F.S j\/j=v\/ps.bl j\/j=q3) w1 w2/\vu xs x w.heap.size u r w2/\ZO w2 q3 40 u/\Nf D xs x F A w w2:=by
 have M:=z.cell;have N:=C.cell;have J:=l w1 f;have d:∀ j,F.S j->j<w.heap.size:=λj a=>h.vol.arr.RS a;have H:=a5 h g d f;clear h z C g d f l;go_enter func70,ntmps70;go_wp2_with fail;refine J.mono ?_;rintro e w2 ⟨u,r,ps',rfl,l,m,s,I⟩;have E:=ak I;clear I;obtain ⟨h,g,d,f⟩:=H.o;have b:ZO w2 q3 40 (Z5 ZY 0 0):=(m.block _ g.lt (λe=>by
  rcases e with e|e|e
  . have:=d _ e;omega
  . have:=h.vol.vol.lt;omega
  . have:=ps.lt _ h.kit _ e;omega)).trans g
 have V:=b.cell;have W:=b.frozen;obtain ⟨ao,n,c,rfl⟩:=s.isSlice.1;have K:=a5 l m s b;clear l m s b J M N h g d f;go_wp2;go_ret;obtain ⟨⟨hl,R,T⟩,m,s,b⟩:=K.o;obtain ⟨h,g,d,f⟩:=H.o;have O:ZO (w2.setCell ⟨q3,0,ZY⟩ (.slice ao n c)) q3 40 (.slice ao n c):=b.set _;have i:∀ j,j≠q3->(w2.setCell ⟨q3,0,ZY⟩ (.slice ao n c)).heap[j]?=w2.heap[j]?:=λj a=>Uj _ _ _ _ a;have Q:uR w2 q3:=DH b;refine ⟨_,r,ps',rfl,⟨hl.aside (B:=w.heap.size) Q (cP hl.kit b uT) (by simp [World.setCell]) (λk y _=>i k y) U (by exact d) h.vol.vol.lt h.arc.lt h.vol.room,R,λk y=>(T k y).imp id λq=>TZ f.size q⟩,?_,s.keep f.size (λj cs a=>i j (λe=>by subst e;rw [b] at a;cases a)),O,E.out.2.elim λc q=>⟨(E.out.keep (i _ (λe=>by have:=d _ h.vol.arr.sg;omega))).1,c,(q.1.after (f.block _ (h.vol.arr.RS h.vol.arr.sg))).keep (i _ (λe=>by have:=d _ h.vol.arr.sg;omega)),q.2⟩⟩;exact (m.mono λj _ a=>by
  rcases a with q|q|q
  . exact .inl q
  . exact .inr (.inl q)
  . exact .inr (.inr (.inl q))).trans ⟨rfl,rfl,rfl,by simp [World.setCell],λj _ a=>i j (λe=>a (.inr (.inr (.inr e))))⟩
theorem abq {xs:aX} {A:aC} (h:a9 w ar v p ps D L G t pg ob P xs A F) (x:ByteArray) (E:∀ w1,bW w w1->ZS ZN 71 #[Z6 (ZX ⟨ar,0,ZY⟩),Z0 x] w1 (mN w1 ar v p Kind ps D L G t pg ob P xs A F x)) :
 ZS ZN 49 #[Z6 (ZX ⟨ar,0,ZY⟩),Z0 x] w (F8 w ar v p Kind ps D L G t xs A F x):=by
 have hp:∀ (args:Array ZT) (w:ZU),(callFunc 70 args).run ZN w=.ok (.enter 70 args) w:=VC func70 (by kernel_rfl) rfl;obtain ⟨w3,M⟩:=nM (((w.alloc (Z4 #[Z6 (ZX ⟨ar,0,ZY⟩)] 103)).alloc (Z4 #[Z0 x] 9)).alloc (Z4 #[Z5 ZY 0 0] 40));have f:ZO w3 w.heap.size 103 (Z6 (ZX ⟨ar,0,ZY⟩)):=by rw [<- M];exact ((UH w _ _).alloc _).alloc _
 have g:ZO w3 (w.heap.size+1) 9 (Z0 x):=by
  have:=(UH (w.alloc (Z4 #[Z6 (ZX ⟨ar,0,ZY⟩)] 103)) 9 (Z0 x)).alloc (Z4 #[Z5 ZY 0 0] 40);rw [Uw] at this;rw [<- M];exact this
 have m:ZO w3 (w.heap.size+2) 40 (Z5 ZY 0 0):=by
  have:=UH ((w.alloc (Z4 #[Z6 (ZX ⟨ar,0,ZY⟩)] 103)).alloc (Z4 #[Z0 x] 9)) 40 (Z5 ZY 0 0);simp only [Uw] at this;rw [<- M];exact this
 have d:bW w w3:=by rw [<- M];exact ((bA w _).alloc (by simp) _).alloc (by simp;omega) _
 have Y:=h.below d;have hv:=m.lt;have Z:=Fz Y 70 #[] #[Z6 (ZX ⟨w.heap.size,0,ZY⟩),Z6 (ZX ⟨w.heap.size+1,0,ZY⟩),Z6 (ZX ⟨w.heap.size+2,0,ZY⟩)] hp
  (λr T xs' B ps' w2=>∃ u,Nf D xs x F A w w2/\vu xs x w.heap.size u r w2/\ZO w2 (w.heap.size+2) 40 u/\(Kind ps'/\∀ k,ps'.bl k->ps.bl k\/w.heap.size<=k)/\T=t/\xs'=xs/\B=A) (λj=>j=w.heap.size+2\/j=v\/ps.bl j) (λj e=>by
   rcases e with e|e|e
   . omega
   . have:=h.vol.vol.lt;have:=d.size;omega
   . have:=ps.lt _ h.kit _ e;have:=d.size;omega)
  (λr T xs' B ps' w2 w' V=>by
   rintro ⟨u,J,I,C,hE⟩;have O:∀ j,w2.heap[j]?≠ZX (Obj.cells #[Value.nilIface] 64 (0,0))->w'.heap[j]?=w2.heap[j]?:=λj b=>V.2.2 j (λe=>by subst e;exact b V.1);refine ⟨u,J.keep (J.1.elim λcs q=>O _ (by rw [q];simp)),I.keep lR (λj cs b=>O j (by rw [b];simp)),(O _ (by rw [C];simp)).trans C,hE⟩)
  (λw1 z hs=>(Nw h x E (d.trans (z.mono d.size)) ((z.block _ f.lt).trans f) ((z.block _ g.lt).trans g) ((z.block _ m.lt).trans m) (by omega)).mono (by
   rintro e w2 ⟨u,r,ps',rfl,⟨hl,E⟩,hO,I,C,J⟩;exact ⟨r,t,pg,ob,P,xs,A,ps',rfl,I.isSlice.2,hl,fj.refl A,hO.mono λj _ b=>by
    rcases b with q|q|q|q
    . exact .inr (.inl q)
    . exact .inr (.inr (.inr (.inl q)))
    . exact .inr (.inr (.inr (.inr q)))
    . exact .inr (.inr (.inl q)),u,J,I,C,E,rfl,rfl,rfl⟩))
 have c1:=f.cell;have H:=aE Z d h;clear Z d f g m h Y E;go_enter func49,ntmps49;go_wp2_with fail;refine H.o.1.mono ?_;rintro e N ⟨r,T,R,Q,P',xs',B,ps',rfl,hr,K,hq,y,u,X,i,W,s,rfl,rfl,rfl⟩;have U:=ak X;clear X;have a:ZO N (w.heap.size+1+1) 40 u:=W;have y0:=a.cell;have y1:=a.frozen;obtain ⟨ao,n,c,rfl⟩:=i.isSlice.1;have H8:=a6 y i a K s;clear s K y i W a hr hq;go_wp2;obtain ⟨y,i,a,K,s⟩:=H8.o;have c3:=(a.set (.slice ao n c)).cell;refine Uv (v:=ZZ #[.slice ao n c,r]) (by simp [results,results49,go_sem,c3]) rfl ?_;have l:bW N (N.setCell ⟨w.heap.size+1+1,0,ZY⟩ (.slice ao n c)):=⟨rfl,rfl,rfl,by simp [World.setCell],λj b=>by
  by_cases e:j=w.heap.size+1+1
  . subst e;exact (a.set (.slice ao n c)).trans a.symm
  . exact Uj _ _ _ _ e⟩
 refine ⟨_,r,ps',R,Q,P',rfl,⟨K.below l,s⟩,?_,i.keep lR (λj cs b=>l.block j (T5.1 b).1),U.out.keep (U.out.1.elim λcs q=>l.block _ (T5.1 q).1)⟩;have hn:aa (λj=>j=ar\/F.S j\/j=v\/ps.bl j) w N:=(aa.RT H.o.2.1 (λj=>j=ar\/F.S j\/j=v\/ps.bl j)).later y (λj f g=>by
  rcases g with q|q|q|q|q
  . exact .inl q
  . exact .inr (.inl q)
  . omega
  . exact .inr (.inr (.inl q))
  . exact .inr (.inr (.inr q)))
 exact hn.trans (aa.RT l _)
theorem abr {xs:aX} {A:aC} (g:ZO w sa 105 (Z6 (ZX ⟨ar,0,ZY⟩))) (h:a9 w ar v p ps D L G t pg ob P xs A F) (x:ByteArray) (d:∀ w1,bW w w1->ZS ZN 71 #[Z6 (ZX ⟨ar,0,ZY⟩),Z0 x] w1 (mN w1 ar v p Kind ps D L G t pg ob P xs A F x)) :
 ZS ZN 28 #[Z6 (ZX ⟨sa,0,ZY⟩),Z0 x] w (F8 w ar v p Kind ps D L G t xs A F x):=by
 have cs:=g.cell;have f:=abq h x d;clear g h d;go_enter func28,ntmps28;go_wp2_with fail;refine f.mono ?_;rintro e j ⟨u,r,ps',b,a,P',rfl,c⟩;have i:=ak c;clear c f;go_wp2;go_ret2;exact ⟨u,r,ps',b,a,P',rfl,i.o⟩
def Kd (B:Nat) (T:ZP) (w w':ZU):Prop:=∀ j cs,j<B->w.heap[j]?=ZX (Z4 cs T (0,0))->w'.heap[j]?=w.heap[j]?
def Kd.below (h:bW w w') (B:Nat) (T:ZP):Kd B T w w':=λj _ _ a=>h.block j (T5.1 a).1
def Kd.trans {T:ZP} {a b c:ZU} (h:Kd B T a b) (k:Kd B T b c):Kd B T a c:=λj cs d e=>(k j cs d ((h j cs d e).trans e)).trans (h j cs d e)
def Kd.mono {T:ZP} {a b:ZU} (h:Kd B T a b) (c:B'<=B):Kd B' T a b:=λj cs d q=>h j cs (by omega) q
def aaY (T:ZP):Prop:=T=38\/T=101\/T=105\/T=5\/T=47
def Law (T:ZP):Prop:=aaY T\/T=82\/T=47
def iA (B:Nat) (w w':ZU):Prop:=∀ T,Law T->Kd B T w w'
def vF (B:Nat) (w w':ZU):Prop:=∀ T,aaY T->Kd B T w w'
def iA.SQ (h:iA B w w'):vF B w w':=λT a=>h T (.inl a)
def iA.below (h:bW w w') (B:Nat):iA B w w':=λT _=>Kd.below h B T
def iA.trans {a b c:ZU} (h:iA B a b) (k:iA B b c):iA B a c:=λT d=>(h T d).trans (k T d)
def iA.mono {a b:ZU} (h:iA B a b) (c:B'<=B):iA B' a b:=λT d=>(h T d).mono c
def iA.live {A:aC} (l:az w p A F) (r:bC w ar v D L G t f n pg ob off) (u:bt w v p D L G ps.ps ho) (o:ps.S w) (m:aa (λj=>j=ar\/F.S j\/j=v\/ps.bl j) w w'):iA B w w':=λT i j cs _ b=>m.block j (T5.1 b).1 (λq=>by
 have a:T≠146/\T≠75/\T≠79/\T≠114/\T≠4:=by
  rcases i with (rfl|rfl|rfl|rfl|rfl)|rfl|rfl<;>exact ⟨by decide,by decide,by decide,by decide,by decide⟩
 have h:T≠139/\¬ rM T:=by
  rcases i with (rfl|rfl|rfl|rfl|rfl)|rfl|rfl<;>exact ⟨by decide,by unfold rM;decide⟩
 rcases q with q|q|q|q
 . subst q;have g:w.heap[j]?=ZX (Z4 (nv v D L G t f n pg ob off) 146 (0,0)):=r;rw [b] at g;simp only [US,Vl] at g;exact a.1 g.2.1
 . obtain ⟨cs',T',e,s⟩:=l.kind q;rw [b] at e;simp only [US,Vl] at e;have c:=e.2.1;rcases s with k|k|k|k
   . exact a.2.1 (c.trans k)
   . exact a.2.2.1 (c.trans k)
   . exact a.2.2.2.1 (c.trans k)
   . exact a.2.2.2.2 (c.trans k)
 . subst q;have d:=u;unfold bt at d;rw [b] at d;simp only [US,Vl] at d;exact h.1 d.2.1
 . exact cP o b h.2 q)
def Nx {base:Nat} {T:ZP} {v:ZT} {xs:List ZT} (h:w.ownsRow base T size v n xs) (f:Kd B T w w') (e:w.heap.size<=B):w'.ownsRow base T size v n xs:=by
 refine ⟨h.1,?_⟩;rcases h.2 with d|⟨g,cap,cur,b,c,a,rr⟩
 . exact .inl d
 . exact .inr ⟨g,cap,cur,b,c,(f _ _ (T9 (T5.1 a).1 e) a).trans a,rr⟩
def Ow (w:ZU) (v:ZT) (l:a8):Prop:=(∃ base,w.ownsRow base 5 1 v l.length (aI l))/\(∀ x∈l,x<256)/\l.length<=1500
def Ow.nil (w:ZU):Ow w (Z5 ZY 0 0) []:=⟨⟨0,UP _ _ _ _⟩,λx a=>(by cases a),by decide⟩
def Ow.keep {v:ZT} (h:Ow w v l) (d:Kd w.heap.size 5 w w'):Ow w' v l:=by
 obtain ⟨⟨base,a⟩,b,c⟩:=h;exact ⟨⟨base,Nx a d lR⟩,b,c⟩
def Ow.bs {v:ZT} (h:Ow w v l):Bs w v l:=by
 obtain ⟨⟨base,ho⟩,e,hl⟩:=h;rcases ho.2 with ⟨rfl,d⟩|⟨g,cap,cur,rfl,f,i,c,j,m,n⟩
 . have:l=[]:=UY d;subst this;exact ⟨ZY,0,rfl,TY _,by decide,λx h=>(by cases h),λh=>absurd rfl h⟩
 . refine ⟨_,cap,rfl,c,by omega,e,λ_=>⟨g,0,rfl,λk b=>?_⟩⟩;have a:=ho.cells (g:=g) rfl k (Z7 .u8 ((l.getD k 0:Nat):Int)) (by
    unfold aI;rw [UE,Ue b,Ub,Ue b];rfl)
   rw [jm] at a;rw [Um];exact a
def Ow.sl {v:ZT} (h:Ow w v l):kI v/\Cg v=l.length:=by
 obtain ⟨⟨base,ho⟩,_,hl⟩:=h;obtain ⟨a,b,rfl⟩:=aT ho;exact ⟨⟨_,_,_,rfl,by omega⟩,rfl⟩
def ja (w:ZU):List (ByteArray×ZT)->aX->Prop
 | [],[]=>True
 | q::Q,x::xs=>(q.1=x.1.name/\Ow w q.2 x.2)/\ja w Q xs
 | _,_=>False
def ja.len:∀ {Q:List (ByteArray×ZT)} {xs:aX},ja w Q xs->Q.length=xs.length
 | [],[],_=>rfl
 | [],_::_,h=>h.elim
 | _::_,[],h=>h.elim
 | _::Q,_::xs,h=>by rw [UG,UG,ja.len h.2]
def ja.names:∀ {Q:List (ByteArray×ZT)} {xs:aX},ja w Q xs->cE Q=xs.names
 | [],[],_=>rfl
 | [],_::_,h=>h.elim
 | _::_,[],h=>h.elim
 | q::Q,x::xs,h=>by
  have e:cE (q::Q)=q.1::cE Q:=rfl;have a:aX.names (x::xs)=x.1.name::aX.names xs:=rfl;rw [e,a,h.1.1,ja.names h.2]
def ja.keep (a:∀ v l,Ow w v l->Ow w' v l):∀ {Q:List (ByteArray×ZT)} {xs:aX},ja w Q xs->ja w' Q xs
 | [],[],_=>trivial
 | [],_::_,h=>h.elim
 | _::_,[],h=>h.elim
 | _::_,_::_,h=>⟨⟨h.1.1,a _ _ h.1.2⟩,ja.keep a h.2⟩
def ja.take:∀ {Q:List (ByteArray×ZT)} {xs:aX} (k:Nat),ja w Q xs->ja w (Q.take k) (xs.take k)
 | _,_,0,_=>by simp only [Wn];exact trivial
 | [],[],_+1,_=>trivial
 | [],_::_,_+1,h=>h.elim
 | _::_,[],_+1,h=>h.elim
 | _::_,_::_,k+1,h=>⟨h.1,ja.take k h.2⟩
def ja.drop:∀ {Q:List (ByteArray×ZT)} {xs:aX} (k:Nat),ja w Q xs->ja w (Q.drop k) (xs.drop k)
 | _,_,0,h=>h
 | [],[],_+1,_=>trivial
 | [],_::_,_+1,h=>h.elim
 | _::_,[],_+1,h=>h.elim
 | _::_,_::_,k+1,h=>ja.drop k h.2
def ja.app:∀ {Q Q':List (ByteArray×ZT)} {xs xs':aX},ja w Q xs->ja w Q' xs'->ja w (Q++Q') (xs++xs')
 | [],_,[],_,_,a=>a
 | [],_,_::_,_,h,_=>h.elim
 | _::_,_,[],_,h,_=>h.elim
 | _::_,_,_::_,_,h,a=>⟨h.1,ja.app h.2 a⟩
def ja.at:∀ {Q:List (ByteArray×ZT)} {xs:aX},ja w Q xs->∀ k (a:k<Q.length) (b:k<xs.length),Q[k].1=xs[k].1.name/\Ow w Q[k].2 xs[k].2
 | [],_,_,_,a,_=>absurd a (by simp)
 | _::_,[],h,_,_,_=>h.elim
 | _::_,_::_,h,0,_,_=>h.1
 | _::Q,_::xs,h,k+1,a,b=>ja.at h.2 k (by simpa using a) (by simpa using b)
def ja.sl:∀ {Q:List (ByteArray×ZT)} {xs:aX},ja w Q xs->∀ o∈Q,kI o.2
 | [],_,_,_,h=>by cases h
 | _::_,[],h,_,_=>h.elim
 | q::Q,x::xs,h,o,ho=>by
  rcases Uz.1 ho with rfl|ho
  . exact h.1.2.sl.1
  . exact ja.sl h.2 o ho
def ja.RR (D:Nat):∀ {Q:List (ByteArray×ZT)} {xs:aX},ja w Q xs->(Q.map λo=>Cg o.2/(D*44)+1).sum=qZ D xs
 | [],[],_=>rfl
 | [],_::_,h=>h.elim
 | _::_,[],h=>h.elim
 | q::Q,x::xs,h=>by
  unfold qZ;rw [UI,UI,XD,XD,h.1.2.sl.2,ja.RR D h.2];rfl
def kZ (x:ByteArray):eI x↔cj x=ZW:=by unfold eI cj;simp
theorem nE {xs:aX} (h:ja w Q xs) (x:ByteArray):pL Q x↔x∉xs.names:=by
 rw [<- h.names];constructor
 . intro f a;obtain ⟨k,b,e⟩:=UZ a;have c:k<Q.length:=(by unfold cE at b;rwa [Ud] at b);refine f k c ?_;rw [<- e];simp [cE]
 . intro a j d e;refine a ?_;rw [<- toList_inj e];exact Ua.2 ⟨Q[j],T8 d,rfl⟩
def iZ {xs:aX} (h:ja w Q xs) (c:Up xs.names) {x:ByteArray} {k:Nat} (d:Ol Q x k):aL xs.names x=k/\k<Q.length/\x∈xs.names:=by
 obtain ⟨b,e,_⟩:=d;have hl:k<(cE Q).length:=by unfold cE;rw [Ud];exact b
 have a:(cE Q)[k]=x:=by simp only [cE,UU];exact toList_inj e
 rw [<- h.names] at c ⊢;exact ⟨iw c hl a,b,a▸T8 hl⟩
section
structure MB (w0 w:ZU) (wb D L G nb t:Nat) (xs:aX) (p r sa ar v:Nat) (Kind:bf->Prop) (ps:bf) (pg ob:ZT) (P:a8) (A:aC) (F:aH) (out want:ZT) (cache:Int):Prop where
 wbA:iz w wb D L G (Z6 (ZX ⟨p,0,ZY⟩)) (Z6 (ZX ⟨sa,0,ZY⟩)) (Z6 (ZX ⟨r,0,ZY⟩)) nb out want cache
 box:ZO w sa 105 (Z6 (ZX ⟨ar,0,ZY⟩))
 live:a9 w ar v p ps D L G t pg ob P xs A F
 nb:A.nb=nb
 base:bW w0 w
 TO:bY w0
 hK:3<=w0.heap.size
 TS:w0.heap.size<=wb
 lt:wb<ar
 fB:∀ k,F.S k->w0.heap.size<=k
 vB:w0.heap.size<=v
 kB:∀ k,ps.bl k->w0.heap.size<=k
 shv:A2 D L G Kind ps
 wbK:¬ ps.bl wb
 cb:0<=cache/\cache<=64
structure Dc (KW w:ZU) (r:Nat) (Q:List (ByteArray×ZT)) (xs:aX) (out want:ZT):Prop where
 ref:∃ rb rv,rI w r rb rv Q
 rel:ja w Q xs
 ow:kI out/\kI want
 mks:∀ (k:Nat) (cs:Array ZT) (T:ZP),T=82\/T=47->KW.heap[k]?=ZX (Z4 cs T (0,0))->w.heap[k]?=KW.heap[k]?
def MS (KW:ZU) (C:aC->Prop) (w0 w:ZU) (wb D L G nb T:Nat):Prop:=∃ t xs Q p r sa ar v Kind ps pg ob P A F out want cache,MB w0 w wb D L G nb t xs p r sa ar v Kind ps pg ob P A F out want cache/\Dc KW w r Q xs out want/\t<=T/\C A
def vF.ref (h:rI w r rb rv Q) (b:vF B w w') (a:w.heap.size<=B):rI w' r rb rv Q:=
 ⟨(b _ (.inl rfl) r _ (T9 (T5.1 h.top).1 a) h.top).trans h.top,Nx h.own (b _ (.inr (.inl rfl))) a⟩
def vF.box (h:ZO w sa 105 u) (b:vF B w w') (a:w.heap.size<=B):ZO w' sa 105 u:=
 (b _ (.inr (.inr (.inl rfl))) sa _ (T9 h.lt a) h).trans h
def vF.ow (h:Ow w u l) (b:vF B w w') (a:w.heap.size<=B):Ow w' u l:=h.keep ((b _ (.inr (.inr (.inr (.inl rfl))))).mono a)
def Dc.keep {xs:aX} (h:Dc KW w r Q xs out want) (c:iA B w w') (b:w.heap.size<=B):Dc KW w' r Q xs out want:=by
 obtain ⟨rb,rv,e⟩:=h.ref;refine ⟨⟨rb,rv,c.SQ.ref e b⟩,h.rel.keep λ_ _ o=>c.SQ.ow o b,h.ow,λk cs T d q=>?_⟩;have a:=h.mks k cs T d q;rw [q] at a;rw [q];exact (c _ (.inr d) k _ (T9 (T5.1 a).1 b) a).trans a
def bY.below (h:bY w) (b:bW w w'):bY w':=by
 have a:w.cell? ⟨0,0,ZY⟩=_:=h;exact (b.cell (Ui a)).trans a
section
variable {w0 w w':ZU} {wb D L G nb t:Nat} {xs:aX} {p r sa ar v:Nat} {Kind:bf->Prop} {ps:bf} {pg ob:ZT} {P:a8} {A:aC} {F:aH} {out want:ZT} {cache:Int}
def MB.gl (h:MB w0 w wb D L G nb t xs p r sa ar v Kind ps pg ob P A F out want cache):bY w:=h.TO.below h.base
def MB.next (h:MB w0 w wb D L G nb t xs p r sa ar v Kind ps pg ob P A F out want cache) (f:vF w.heap.size w w') (i:w'.heap[wb]?=w.heap[wb]?) (d:bW w0 w') {t':Nat} {xs':aX} {pg' a:ZT} {P':a8} {B:aC} {ps':bf} (hl:a9 w' ar v p ps' D L G t' pg' a P' xs' B F) (c:B.nb=A.nb) (g:Kind ps') (b:∀ k,ps'.bl k->ps.bl k\/w.heap.size<=k) :
 MB w0 w' wb D L G nb t' xs' p r sa ar v Kind ps' pg' a P' B F out want cache:=
 { h with wbA:=ai.keep h.wbA i,box:=f.box h.box lR,live:=hl,nb:=c.trans h.nb,base:=d,kB:=λk q=>(b k q).elim (h.kB k) λe=>TZ h.base.size e,shv:=⟨h.shv.sh,h.shv.re,h.shv.pk,g⟩,wbK:=λq=>(b wb q).elim h.wbK λe=>absurd (ai.lt h.wbA) (WK.2 e) }
def MB.below (h:MB w0 w wb D L G nb t xs p r sa ar v Kind ps pg ob P A F out want cache) (a:bW w w'):MB w0 w' wb D L G nb t xs p r sa ar v Kind ps pg ob P A F out want cache:=
 h.next (iA.below a _).SQ (a.block _ (ai.lt h.wbA)) (h.base.trans (a.mono h.base.size)) (h.live.below a) rfl h.shv.kind (λ_ q=>.inl q)
def MB.wbF (h:MB w0 w wb D L G nb t xs p r sa ar v Kind ps pg ob P A F out want cache):¬ F.S wb/\wb≠v:=by
 have c:w.heap[wb]?=ZX (Z4 _ 42 (0,0)):=h.wbA;refine ⟨λq=>?_,λe=>?_⟩
 . obtain ⟨cs,T,b,f⟩:=h.live.vol.arr.kind q;rw [c] at b;simp only [US,Vl] at b;have d:=b.2.1;rcases f with k|k|k|k<;>exact absurd (d.trans k) (by decide)
 . have a:=h.live.vol.vol;unfold bt at a;rw [<- e,c] at a;cases a
def MB.callK (h:MB w0 w wb D L G nb t xs p r sa ar v Kind ps pg ob P A F out want cache) (c:aa (λj=>j=ar\/F.S j\/j=v\/ps.bl j) w w') {t':Nat} {xs':aX} {pg' a:ZT} {P':a8} {B:aC} {ps':bf} (hl:a9 w' ar v p ps' D L G t' pg' a P' xs' B F) (e:B.nb=A.nb) (f:Kind ps') (d:∀ k,ps'.bl k->ps.bl k\/w.heap.size<=k) :
 MB w0 w' wb D L G nb t' xs' p r sa ar v Kind ps' pg' a P' B F out want cache/\iA w.heap.size w w':=by
 have b:=iA.live (B:=w.heap.size) h.live.vol.arr h.live.arc h.live.vol.vol h.live.kit c;refine ⟨h.next b.SQ (c.block _ (ai.lt h.wbA) (λq=>?_)) (h.base.trans (c.below λk b=>⟨T9 b h.base.size,λq=>?_⟩)) hl e f d,b⟩
 . rcases q with q|q|q|q
   . have:=h.lt;omega
   . exact h.wbF.1 q
   . exact h.wbF.2 q
   . exact h.wbK q
 . have:=h.TS;have:=h.lt;have:=h.vB;rcases q with q|q|q|q
   . omega
   . have:=h.fB k q;omega
   . omega
   . have:=h.kB k q;omega
def MB.call (h:MB w0 w wb D L G nb t xs p r sa ar v Kind ps pg ob P A F out want cache) (c:aa (λj=>j=ar\/F.S j) w w') {t':Nat} {xs':aX} {pg' a:ZT} {P':a8} {B:aC} (hl:a9 w' ar v p ps D L G t' pg' a P' xs' B F) (b:B.nb=A.nb) :
 MB w0 w' wb D L G nb t' xs' p r sa ar v Kind ps pg' a P' B F out want cache/\iA w.heap.size w w':=h.callK (c.mono λ_ _ q=>q.elim .inl λe=>.inr (.inl e)) hl b h.shv.kind λ_ q=>.inl q
def MB.write (h:MB w0 w wb D L G nb t xs p r sa ar v Kind ps pg ob P A F out want cache) (d:aa (λj=>j=wb) w w') {r':Nat} {out' a:ZT}
 (l:iz w' wb D L G (Z6 (ZX ⟨p,0,ZY⟩)) (Z6 (ZX ⟨sa,0,ZY⟩)) (Z6 (ZX ⟨r',0,ZY⟩)) nb out' a cache) :
 MB w0 w' wb D L G nb t xs p r' sa ar v Kind ps pg ob P A F out' a cache/\iA w.heap.size w w':=by
 obtain ⟨f1,g⟩:=h.wbF;have f:∀ j,j≠wb->j<w.heap.size->w'.heap[j]?=w.heap[j]?:=λj b hl=>d.block j hl b;have m:w.heap[wb]?=ZX (Z4 _ 42 (0,0)):=h.wbA;have c:iA w.heap.size w w':=λT i j cs hl b=>f j (λe=>by
  subst e;rw [m] at b;simp only [US,Vl] at b;have e:=b.2.1;rcases i with (q|q|q|q|q)|q|q<;>exact absurd (e.trans q) (by decide)) hl
 exact ⟨{ h with wbA:=l,box:=c.SQ.box h.box lR,live:=h.live.other d.size f h.lt g f1 (by have:=h.hK;have:=h.TS;omega) h.wbK,base:=h.base.trans (d.below λk c=>⟨T9 c h.base.size,λq=>by have:=h.TS;omega⟩) },c⟩
end
end
def me (w:ZU) (q:Nat) (o:qD) (dv:ZT):Prop:=ai w q 47 [Z7 Z9 o.kind,Z7 Z9 o.a,Z0 o.s,dv]
def me.cells {o:qD} {dv:ZT} (h:me w q o dv):w.cell? ⟨q,0,ZY⟩=ZX (Z7 Z9 o.kind)/\w.cell? ⟨q,1,ZY⟩=ZX (Z7 Z9 o.a)/\w.cell? ⟨q,2,ZY⟩=ZX (Z0 o.s)/\w.cell? ⟨q,3,ZY⟩=ZX dv:=
 ⟨ai.cell h rfl,ai.cell h rfl,ai.cell h rfl,ai.cell h rfl⟩
def isN (x:ZT) (n:Int):Prop:=x=AP n\/(x=.nilIface/\n=0)
def vG {x:ZT} {n:Int} (b:isN x n) {w:ZU} (a:bY w):ZS ZN 20 #[x] w λe w'=>e=Z3 (Z7 Z9 n)/\bW w w':=by
 rcases b with rfl|⟨rfl,rfl⟩
 . exact EB n w a
 . exact tE w
def wE (n:Int) (D nb:Nat) (xs:aX) (x:ByteArray) (d:a8) (xs':aX):Prop:=(n=0/\wA D nb xs x d xs')\/(xs'=xs/\wu D nb xs x d.length n)
def Ny {xs:aX} {A:aC} {Q:Int->Prop} {N:aX->Prop} (h:dw w ar v p ps D L G t xs A F Q N (Z3 rr) w'):∃ n a pg ob P' xs' B,isN rr n/\a9 w' ar v p ps D L G a pg ob P' xs' B F/\fj A B/\aa (λk=>k=ar\/F.S k) w w'/\a<=t+1/\((n=0/\N xs')\/(xs'=xs/\Q n)):=by
 obtain ⟨i,a,pg,ob,P',xs',B,c,hl,d,b,h|⟨e,j,n,f,g⟩⟩:=h
 . cases c;exact ⟨0,a,pg,ob,P',xs',B,.inr ⟨h.1,rfl⟩,hl,d,b,by omega,.inl ⟨rfl,h.2.2⟩⟩
 . cases c;exact ⟨n,a,pg,ob,P',xs',B,.inl f,hl,d,b,by omega,.inr ⟨e,g⟩⟩
def RpN (w:ZU) (q:Nat) (Q:List (ByteArray×ZT)) (x:ByteArray) (d:a8) (n:Int) (e:ZQ) (w':ZU):Prop:=
 (n≠0/\n≠10/\e=Z3 (Z7 Z9 n)/\w'=w)\/((n=0\/n=10)/\Nt w q Q x d e w')
def Py {n:Int} {xs:aX} (j:rI w q rb rv Q) (hl:Q.length<=1000) (s:ja wx Q xs) (l:∀ o∈Q,kI o.2) {ao:Option ZR} {c m:Nat} (p:d.length=m) (k:Bs w (.slice ao m c) d) (r:wE n D nb xs x d xs') :
 ZS ZN 48 #[Z6 (ZX ⟨q,0,ZY⟩),Z0 x,.slice ao m c] w (RpN w q Q x d n):=by
 subst p;have i:=nE s x;have g:=kZ x;rcases r with ⟨rfl,a,b,f,_⟩|⟨_,⟨a,rfl⟩|⟨a,⟨b,rfl⟩|⟨b,⟨f,rfl⟩|⟨f,_,rfl⟩⟩⟩⟩
 . exact (Hb j (by omega) l x ao c d k b (g.2 a) (i.2 f)).mono λe w' h=>.inr ⟨.inl rfl,h⟩
 . exact (J2 q x ao _ c (λq=>by rw [g,a] at q;cases q) w).mono λe w' h=>.inl ⟨by decide,by decide,h.1,h.2⟩
 . exact (J3 q x ao _ c (g.2 a) b w).mono λe w' h=>.inl ⟨by decide,by decide,h.1,h.2⟩
 . exact (DF j (by omega) x ao _ c (g.2 a) b (λh=>i.1 h f)).mono λe w' h=>.inl ⟨by decide,by decide,h.1,h.2⟩
 . exact (Hb j (by omega) l x ao c d k b (g.2 a) (i.2 f)).mono λe w' h=>.inr ⟨.inr rfl,h⟩
def wE.none {n:Int} {xs:aX} (h:wE n D nb xs x d xs') (a:n≠0):xs'=xs:=h.elim (λq=>absurd q.1 a) λq=>q.1
def wE.some {xs:aX} (h:wE 0 D nb xs x d xs'):wA D nb xs x d xs':=by
 rcases h with h|⟨_,⟨_,e⟩|⟨_,⟨_,e⟩|⟨_,⟨_,e⟩|⟨_,_,e⟩⟩⟩⟩
 . exact h.2
 all_goals exact absurd e (by decide)
def wE.full {xs:aX} (h:wE 10 D nb xs x d xs'):d.length<=1500/\nb<(ah xs.os).length+lq D d.length+2*AQ D (aj xs.os).length d.length+2:=by
 rcases h with ⟨e,_⟩|⟨_,⟨_,e⟩|⟨_,⟨_,e⟩|⟨a,⟨_,e⟩|⟨_,b,_⟩⟩⟩⟩;rotate_right
 . exact ⟨a,b⟩
 all_goals exact absurd e (by decide)
def J5 (h:aM w b l):uR w b:=λoff u c=>by
 have f:=h.heap;simp only [World.cell?,f] at c;have:u∈(l.map (λx=>Value.int .u8 ((x:Nat):Int))):=by
  have a:=c;simp at a;obtain ⟨x,g,rfl⟩:=a;obtain ⟨d,e⟩:=Vc.1 g;exact Ua.2 ⟨x,e▸T8 d,rfl⟩
 obtain ⟨x,_,rfl⟩:=Ua.1 this;exact ⟨λy e=>(by cases e),λs e=>(by cases e)⟩
def aM.bs (h:aM w b (l++[71,72])) (d:l.length=m) (hl:l.length<=1000000) (e:∀ x∈l,x<256):Bs w (Z5 (ZX ⟨b,0,ZY⟩) m (m+2)) l:=by
 subst d;have:=Bs.Su (n:=l.length) h (by simp) (by omega) (by intro x c;rcases Un.1 c with q|q;exact e x q;simp at q;omega);have a:(l++[71,72]).length=l.length+2:=by simp
 rw [a,List.take_left'] at this;exact this;rfl
def Nz {xs:aX} (a:ja w Q xs) {D nb m:Nat} {xs':aX} {x:ByteArray} {d:a8} (j:d.length=m) (g:1<=D) (e:D<=6) (i:∀ x∈xs,jR D x) (h:wE 10 D nb xs x d xs'):(nb:Int)-8<(ju Q D (m:Int):Int):=by
 have f:=Fu g e i (n:=d.length) (nb:=nb) h.full.1 rfl rfl h.full.2;have b:bQ Q (D*44) Q.length=qZ D xs:=by unfold bQ;rw [VK];exact a.RR D
 have c:ju Q D (m:Int)=qZ D xs+(m/(D*44)+1)+2*((xs.length+1)*200/(D*44)+1):=by
  unfold ju;rw [TX (by omega),VL,b,a.len]
 rw [j] at f;rw [c];omega
def Pz {xs:aX} (h:ja w Q xs) {x:ByteArray} {d:a8} {o:Ob} (ho:o.name=x) {v:ZT} (a:Ow w v d):ja w (Q.take (aL (cE Q) x)++(x,v)::Q.drop (aL (cE Q) x)) (xs.ins (o,d)):=by
 unfold aX.ins;rw [h.names,ho];exact (h.take _).app ⟨⟨ho.symm,a⟩,h.drop _⟩
theorem NA {xs:aX} {A:aC} (h:MB w0 w wb D L G nb t xs p r sa ar v Kind ps pg ob P A F out want cache) (hc:Dc KW w r Q xs out want) (o:qD) (dv:ZT) (f:Bs w0 dv o.d) (xd:o.d.length<=100000) (xi:t<1000000) (x9:D<=6) :
 ZS ZN 27 #[Z6 (ZX ⟨wb,0,ZY⟩),.agg #[Z7 Z9 o.kind,Z7 Z9 o.a,Z0 o.s,dv]] w λe w'=>e=Z3 (Z2 ZW)/\MS KW (fj A) w0 w' wb D L G nb (t+1):=by
 obtain ⟨Z,dc,xe,_⟩:=id f;subst xe;have u:=f.lt;obtain ⟨m,c⟩:=nM (o.d.length);rw [c] at f xd ⊢;obtain ⟨w1,qn⟩:=nM (w.alloc (Z4 #[Z7 Z9 o.kind,Z7 Z9 o.a,Z0 o.s,.slice Z m dc] 47));have C:me w1 w.heap.size o (.slice Z m dc):=by rw [<- qn];exact UN w _
 have qd:bW w w1:=by rw [<- qn];exact bA w _
 have g:=h.below qd;have N:=hc.keep (iA.below qd _) lR;obtain ⟨R,ky⟩:=nM (w.heap.size);have O:R<w1.heap.size:=by rw [<- ky];exact ai.lt C
 have V:ar<R:=by rw [<- ky];exact h.live.arc.lt
 have z:∀ k,F.S k->k<R:=λk hk=>by rw [<- ky];exact h.live.vol.arr.RS hk
 have W:v<R:=by rw [<- ky];exact h.live.vol.vol.lt
 rw [ky] at C;have x3:=C.cells.2.2.2;have qk:=Hu _ o.d w1 (f.mono g.base) (by omega);rw [c] at qk;have H1:=hide10 C g N f u c O V z W;clear C g N f u c O V z W h hc qd;go_enter func27,ntmps27;go_wp2_with fail;clear ky;refine qk.mono ?_;rintro e w2 ⟨rb,rfl,Y,ka,kb⟩;clear qk qn x3;obtain ⟨C,g,N,f,u,c,O,V,z,W⟩:=H1.o;have kp:me w2 R o (.slice Z m dc):=ai.keep C (kb.block _ O);have h2:=g.below kb;have y2:=kp.cells.2.2.1;have s2:=h2.wbA.cells.2.2.2.2.1;have kv:bW w2 w2.drew:=(T6 _ w2).drew;have qb:=h2.below kv;have kj:=abp qb.box qb.live xi o.s (ZX ⟨rb,0,ZY⟩) (m+2) o.d (λw' hO=>by
  rw [c];have x8:aM w' rb (o.d++[71,72]):=VH ka (hO.block rb ka.lt (λe=>by have:=z _ e;omega));exact x8.bs c (by omega) u) (by omega)
 rw [c] at kj;have H2:=a7 kp h2 kb ka Y kv;clear C g N f u c O V z W kp h2 kb ka Y kv qb;go_upto_region 2 with fail;go_cut [6] from 12 to 82 (λv6 wx=>dw w2.drew ar v p ps D L G t xs A F (wu D A.nb xs o.s m) (wA D A.nb xs o.s o.d) (Z3 v6) wx)
 case first=>
  go_region_with (go_at_call 46;refine kj.mono ?_;rintro e w3 qh;obtain ⟨rr,_,_,_,_,_,_,rfl,_⟩:=id qh;have H3:=ak qh;clear qh);all_goals (go_wp2_with fail;go_meet;case rel=>exact H3.o)
 case rest=>
  obtain ⟨n,t',xk,qr,P',xs',B,hN,qx,E,qp,H,q1⟩:=Ny hcut;obtain ⟨C,g,N,f,u,c,O,V,z,W⟩:=H1.o;have i:wE n D A.nb xs o.s o.d xs':=by unfold wE;rw [c];exact q1
  obtain ⟨kp,h2,kb,ka,Y,kv⟩:=H2.o;have km:=kb.size;have hr:aa (λj=>j=ar\/F.S j) w2 wc:=(aa.RT kv _).trans qp;obtain ⟨h3,qv⟩:=h2.call hr qx E.nb;have kr:me wc R o (.slice Z m dc):=ai.keep kp (hr.block _ (by omega) (λe=>by
   rcases e with e|e
   . omega
   . have:=z _ e;omega))
  have kz:aM wc rb (o.d++[71,72]):=VH ka (hr.block rb ka.lt (λe=>by
   rcases e with e|e
   . omega
   . have:=z _ e;omega))
  have x2:=vG hN h3.gl;have x5:=hr.size;have hz:iA w1.heap.size w1 wc:=(iA.below kb _).trans (qv.mono km);have H3:=hide8 kr h3 kz hz i (TZ km x5) E H;clear hN i q1 C g N f u c O V z W kp h2 kb ka Y kv km hr h3 qv kr kz x5 hz qx E H qp kj y2 s2 hcut;go_wp2_with fail;refine x2.mono ?_;rintro e w4 ⟨rfl,ks⟩;clear x2;obtain ⟨C,g,N,f,u,c,O,V,z,W⟩:=H1.o;obtain ⟨kr,h3,kz,hz,i,q8,E,H⟩:=H3.o;have Y:=H2.o.2.2.2.2.1;have y:=h3.below ks;have kf:me w4 R o (.slice Z m dc):=ai.keep kr (ks.block _ (ai.lt kr));have ke:aM w4 rb (o.d++[71,72]):=kz.below ks;have qm:=Hv rb _ o.d w4 ke (f.mono y.base) (by omega);rw [c] at qm;have x4:=kf.cells.2.2.2;have H4:=a6 kf y ke (hz.trans (iA.below ks _)) (TZ q8 ks.size);clear C g N f u c O V z W kr h3 kz hz i q8 E H Y kf ke y ks;go_wp2_with fail;refine qm.mono ?_;rintro e w5 ⟨rfl,kx,_⟩;clear qm x4;obtain ⟨C,g,N,f,u,c,O,V,z,W⟩:=H1.o;obtain ⟨kf,y,ke,q4,qo⟩:=H4.o;obtain ⟨_,_,_,_,i,_,E,H⟩:=H3.o;have Y:=H2.o.2.2.2.2.1;have he:∀ j,j≠rb->j<w4.heap.size->w5.heap[j]?=w4.heap[j]?:=λj hj hl=>kx.block j hl (λe=>hj (by cases e;rfl));have ko:=kx.size;have qy:=y.live.aside (w':=w5) (b:=rb) (B:=w1.heap.size) (J5 ke) (by obtain ⟨cs,xc,_⟩:=ke;exact cP y.live.kit xc oW) ko he Y (λk hk=>by have:=z k hk;omega) (by omega) (by omega) (by have:=g.live.vol.room;exact this);have q6:iA w1.heap.size w4 w5:=λT _ j cs hj hq=>he j (by omega) (by omega);have q2:bW w0 w5:=y.base.trans ⟨kx.os,kx.tape,kx.output,ko,λj hj=>he j (by have:=g.base.size;omega) (T9 hj y.base.size)⟩;have q7:w5.heap[wb]?=w4.heap[wb]?:=he wb (by have:=g.lt;omega) (ai.lt y.wbA);have K:MB w0 w5 wb D L G nb t' xs' p r sa ar v Kind ps xk qr P' B F out want cache:={ y with wbA:=ai.keep y.wbA q7,box:=(he sa (by have:=g.box.lt;omega) y.box.lt).trans y.box,live:=qy,base:=q2 };have J:me w5 R o (.slice Z m dc):=ai.keep kf (he R (by omega) (ai.lt kf));have x:=N.keep (q4.trans q6) lR;obtain ⟨xz,y1,x1⟩:=x.ref;have U:Q.length<=1000:=by
   rw [x.rel.len];have:=g.live.Sq.1;simpa [aX.os] using this
  have qs:=yT x1 (by omega) x.rel.sl;have r5:=K.wbA.cells.2.2.2.2.2.1;have H5:=a5 J K x U;clear C g N f u c O V z W kf y ke q4 qo i E H Y he ko qy q6 q2 q7 K J x x1 U kx;go_wp2_with fail;refine qs.mono ?_;rintro e w6 ⟨rfl,⟨u6,kc⟩,M⟩;clear qs r5;obtain ⟨J,K,x,U⟩:=H5.o;obtain ⟨_,_,_,f,u,c,_,_,_,_⟩:=H1.o;have i:=H3.o.2.2.2.2.1;have h6:=K.below M;have kg:me w6 R o (.slice Z m dc):=ai.keep J (M.block _ (ai.lt J));have qi:=Py kc U x.rel x.rel.sl c (f.mono h6.base) i;obtain ⟨_,_,y6,x6⟩:=kg.cells;obtain ⟨q5,kk⟩:=nM (w5.heap.size);rw [kk] at qi kc ⊢;have H6:=a6 kg h6 kc M kk;clear J K x U f u c i h6 kg kc M kk;go_wp2_with fail;refine qi.mono ?_;rintro e l xh;clear qi y6 x6;obtain ⟨kg,h6,kc,M,kk⟩:=H6.o;obtain ⟨J,K,x,U⟩:=H5.o;have i:=H3.o.2.2.2.2.1;obtain ⟨E,H⟩:=H3.o.2.2.2.2.2.2;have ki:=E;rcases xh with ⟨n0,xv,rfl,rfl⟩|⟨hn,rfl,u7,xm,qj,qg,qc⟩
  . obtain rfl:=i.none n0;have hy:MS KW (fj A) w0 l wb D L G nb (t+1):=⟨_,_,_,_,_,_,_,_,_,_,_,_,_,_,_,_,_,_,h6,x.keep (iA.below M _) lR,H,ki⟩;have HF:=ak hy;clear hy kg h6 kc M kk J K x U i E H;go_wp2_with fail;refine (ox n l).mono ?_;rintro e w8 ⟨rfl,rfl⟩;go_wp2;go_ret;exact ⟨rfl,HF.o⟩
  . have kh:Below w5.heap.size w6 l:=qc.below λk hk=>⟨T9 hk M.size,by omega⟩;have hs:bW w5 l:=M.trans kh;have I:=K.below hs;have X:=x.keep (iA.below hs _) lR;rcases hn with rfl|rfl
    . obtain ⟨_,qf,_,_,AW,x0,rfl⟩:=i.some;have u:=H1.o.2.2.2.2.1;have q9:=I.wbA;have r7:=q9.cells.2.2.2.2.2.1;have f7:=ai.Sa q9 5;have hN:∀ w8,w8=l.setCell ⟨wb,5,ZY⟩ (Z6 (ZX ⟨q5,0,ZY⟩))->MS KW (fj A) w0 w8 wb D L G nb (t+1):=by
       rintro w8 rfl;have xa:aa (λj=>j=wb) l (l.setCell ⟨wb,5,ZY⟩ (Z6 (ZX ⟨q5,0,ZY⟩))):=aa.setCell _ _ _ rfl;have xb:iz (l.setCell ⟨wb,5,ZY⟩ (Z6 (ZX ⟨q5,0,ZY⟩))) wb D L G (Z6 (ZX ⟨p,0,ZY⟩)) (Z6 (ZX ⟨sa,0,ZY⟩)) (Z6 (ZX ⟨q5,0,ZY⟩)) nb out want cache:=ai.set q9 5 [Z6 (ZX ⟨q5,0,ZY⟩)] (by simp [P0]);obtain ⟨h8,xg⟩:=I.write xa xb;have qe:Dc KW l q5 (Q.take (aL (cE Q) o.s)++(o.s,xm)::Q.drop (aL (cE Q) o.s)) (xs.ins (AW,o.d)) out want:=⟨⟨_,u7,qj⟩,Pz X.rel x0 ⟨⟨_,qg⟩,u,qf⟩,X.ow,X.mks⟩;exact ⟨_,_,_,_,_,_,_,_,_,_,_,_,_,_,_,_,_,_,h8,qe.keep xg lR,H,ki⟩
      have HN:=ak hN;clear hN kg h6 kc M kk J K x U i E H qj qg qc kh hs I X q9 u x0;go_wp2_with fail;refine (ox 0 _).mono ?_;rintro e w8 ⟨rfl,rfl⟩;go_wp2;go_ret;exact ⟨rfl,HN.o _ rfl⟩
    . obtain rfl:=i.none (by decide);have c:=H1.o.2.2.2.2.2.1;have hy:MS KW (fj A) w0 l wb D L G nb (t+1):=⟨_,_,_,_,_,_,_,_,_,_,_,_,_,_,_,_,_,_,I,X,H,ki⟩;have xf:=Nz X.rel c I.live.vol.par.d1 x9 I.live.disk.fits i;rw [E.nb.symm.trans I.nb] at xf;obtain ⟨c0,_,_,_,_,c5,c6,_⟩:=I.wbA.cells;have qq:me l R o (.slice Z m dc):=ai.keep J (hs.block _ (ai.lt J));have x7:=qq.cells.2.2.2;obtain ⟨y0,y3,qa⟩:=X.ref;have qz:∀ k,ZS ZN 34 #[Z6 (ZX ⟨r,0,ZY⟩),Z7 Z9 D,Z7 Z9 m] (l.drewN k) λe w'=>e=Z3 (Z7 Z9 (ju Q D (m:Int):Nat))/\w'=l.drewN k:=λk=>by
       have q3:bW l (l.drewN k):=⟨rfl,rfl,rfl,TY _,λ_ _=>rfl⟩;exact (EG ⟨(q3.block _ (T5.1 qa.top).1).trans qa.top,an qa.own q3⟩ U X.rel.sl D I.live.vol.par.d1 (by omega) (m:Int) (by omega) (by omega)).mono λe w' q=>⟨q.2,q.1⟩
      generalize ju Q D (m:Int)=nn at *;have HF:=al hy qz;have xj:IntKind.i64.wrap ((nb:Int)-8)=(nb:Int)-8:=(by rw [UF];have:=I.nb;have:=I.live.nb;omega);clear hy qz kg h6 kc M kk J K x U i E H qj qg qc kh hs I X c qq qa;go_upto_region 8 with fail;go_quiet ((go_at_call 34;refine Ys (HF.o.2 _)));go_wp2;go_ret;obtain ⟨t1,y5,Q1,p1,r1,y4,xp,v1,xq,xy,pg1,xx,P1,A1,F1,xo,xn,hb,hM,hC,hT⟩:=HF.o.1;have q3:bW l (l.drewN nq):=⟨rfl,rfl,rfl,TY _,λ_ _=>rfl⟩;exact ⟨rfl,_,_,_,_,_,_,_,_,_,_,_,_,_,_,_,_,_,_,hM.below q3,hC.keep (iA.below q3 _) lR,hT⟩
structure St0 (KW w0 w w1:ZU) (wb D L G nb t:Nat) (xs:aX) (Q:List (ByteArray×ZT)) (p r sa ar v:Nat) (Kind:bf->Prop) (ps:bf) (pg ob:ZT) (P:a8) (A:aC) (F:aH) (out want:ZT) (cache:Int) (o:qD) (dv:ZT):Prop where
 op:me w1 w.heap.size o dv
 b:MB w0 w1 wb D L G nb t xs p r sa ar v Kind ps pg ob P A F out want cache
 c:Dc KW w1 r Q xs out want
 ar:ar<w.heap.size
 f:∀ k,F.S k->k<w.heap.size
 lt:w.heap.size<w1.heap.size
def st0 {xs:aX} {A:aC} (h:MB w0 w wb D L G nb t xs p r sa ar v Kind ps pg ob P A F out want cache) (f:Dc KW w r Q xs out want) (o:qD) (b:ZT) {w1:ZU} (e:w.alloc (Z4 #[Z7 Z9 o.kind,Z7 Z9 o.a,Z0 o.s,b] 47)=w1):St0 KW w0 w w1 wb D L G nb t xs Q p r sa ar v Kind ps pg ob P A F out want cache o b:=by
 have d:bW w w1:=by rw [<- e];exact bA w _
 have c:me w1 w.heap.size o b:=by rw [<- e];exact UN w _
 exact ⟨c,h.below d,f.keep (iA.below d _) lR,h.live.arc.lt,λk g=>h.live.vol.arr.RS g,ai.lt c⟩
def MS.mono {C C':aC->Prop} {T':Nat} (h:MS KW C w0 w wb D L G nb T) (f:T<=T') (d:∀ A,C A->C' A):MS KW C' w0 w wb D L G nb T':=by
 obtain ⟨t,xs,Q,p,r,sa,ar,v,Kind,ps,pg,ob,P,A,F,out,want,cache,a,b,e,c⟩:=h;exact ⟨t,xs,Q,p,r,sa,ar,v,Kind,ps,pg,ob,P,A,F,out,want,cache,a,b,by omega,d A c⟩
section
section
variable {KW w0 w:ZU} {wb D L G nb t:Nat} {xs:aX} {Q:List (ByteArray×ZT)} {p r sa ar v:Nat} {Kind:bf->Prop} {ps:bf} {pg ob:ZT} {P:a8} {A:aC} {F:aH} {out want:ZT} {cache:Int}
theorem J6 (h:MB w0 w wb D L G nb t xs p r sa ar v Kind ps pg ob P A F out want cache) (l:Dc KW w r Q xs out want) (o:qD) (i:ZT) (u:∃ f m g,i=.slice f m g) (n:o.kind<1\/6<o.kind) {C:aC->Prop} (x:C A) :
 ZS ZN 13 #[Z6 (ZX ⟨wb,0,ZY⟩),.agg #[Z7 Z9 o.kind,Z7 Z9 o.a,Z0 o.s,i]] w λe w'=>e=Z3 (Z2 ZW)/\MS KW C w0 w' wb D L G nb (t+1):=by
 obtain ⟨f,m,g,rfl⟩:=u;obtain ⟨kd,j⟩:=nM (o.kind);obtain ⟨w1,k⟩:=nM (w.alloc (Z4 #[Z7 Z9 o.kind,Z7 Z9 o.a,Z0 o.s,.slice f m g] 47));have d:=st0 h l o _ k;obtain ⟨y,J,K,M⟩:=d.op.cells;have q:=ak (show MS KW C w0 w1 wb D L G nb (t+1) from ⟨_,_,_,_,_,_,_,_,_,_,_,_,_,_,_,_,_,_,d.b,d.c,by omega,x⟩);clear d h l;rw [j] at y k n ⊢;have n1:¬ kd=1:=by omega
 have z:¬ kd=2:=by omega
 have B:¬ kd=3:=by omega
 have E:¬ kd=4:=by omega
 have H:¬ kd=5:=by omega
 have I:¬ kd=6:=by omega
 clear n j;go_enter func13,ntmps13;go_wp2;go_ret;exact ⟨rfl,q.o⟩
end
end
section
def aaZ (n:Int) (xs:aX) (x:ByteArray) (xs':aX):Prop:=(n=0/\DG xs x xs')\/(xs'=xs/\wD xs x n)
def aaf {n0:Nat} {n:Int} {xs:aX} (l:rI w q rb rv Q) (h:aaW w q Q x e w') (s:aaZ n xs x xs') (f:ja wx Q xs) (m:Up xs.names) (t:n0<=q) (y:n0<=w.heap.size) :
 e=Z3 (Z7 Z9 n)/\Below n0 w w'/\n≠10/\∃ i,(∃ rb rv,rI w' q rb rv i)/\∀ g,ja g Q xs->ja g i xs':=by
 have r:=nE f x;have c:=kZ x;rcases s with ⟨rfl,a,d,rfl⟩|⟨rfl,⟨a,rfl⟩|⟨a,d,rfl⟩⟩
 . rcases h with ⟨q,_⟩|⟨_,q,_⟩|⟨_,k,q,b,⟨u,p⟩,o⟩
   . exact absurd (c.2 a) q
   . exact absurd d (r.1 q)
   . refine ⟨b,o.below λj v=>⟨by omega,by omega⟩,by decide,_,⟨_,u,p⟩,λg z=>?_⟩;rw [(iZ f m q).1];exact (z.take k).app (z.drop (k+1))
 . rcases h with ⟨_,b,rfl⟩|⟨q,_⟩|⟨q,_⟩
   . exact ⟨b,T6 _ _,by decide,Q,⟨_,_,l⟩,λ_ z=>z⟩
   . rw [c,a] at q;cases q
   . rw [c,a] at q;cases q
 . rcases h with ⟨q,_⟩|⟨_,_,b,rfl⟩|⟨_,k,q,_⟩
   . exact absurd (c.2 a) q
   . exact ⟨b,T6 _ _,by decide,Q,⟨_,_,l⟩,λ_ z=>z⟩
   . exact absurd (iZ f m q).2.2 d
section
variable {KW w0 w:ZU} {wb D L G nb t:Nat} {xs:aX} {Q:List (ByteArray×ZT)} {p r sa ar v:Nat} {Kind:bf->Prop} {ps:bf} {pg ob:ZT} {P:a8} {A:aC} {F:aH} {out want:ZT} {cache:Int}
theorem NC (h:MB w0 w wb D L G nb t xs p r sa ar v Kind ps pg ob P A F out want cache) (hc:Dc KW w r Q xs out want) (o:qD) (dv:ZT) (kj:∃ x m y,dv=.slice x m y) (kp:t<1000000) (hk:o.kind=3) :
 ZS ZN 13 #[Z6 (ZX ⟨wb,0,ZY⟩),.agg #[Z7 Z9 o.kind,Z7 Z9 o.a,Z0 o.s,dv]] w λe w'=>e=Z3 (Z2 ZW)/\MS KW (fj A) w0 w' wb D L G nb (t+1):=by
 obtain ⟨x,m,y,rfl⟩:=kj;obtain ⟨w1,k5⟩:=nM (w.alloc (Z4 #[Z7 Z9 o.kind,Z7 Z9 o.a,Z0 o.s,.slice x m y] 47));have d:=st0 h hc o _ k5;have M:bW w1 w1.drew:=(T6 _ w1).drew;have Z:=d.b.below M;have hp:=Px Z.box Z.live kp o.s;obtain ⟨x0,x1,x2,x3⟩:=d.op.cells;have s1:=d.b.wbA.cells.2.2.2.2.1;obtain ⟨q0,H⟩:=nM (w.heap.size);have HS:=al d H;clear d h hc M Z;rw [hk] at x0 k5 ⊢;rw [H] at x0 x1 x2 x3;clear hk;go_enter func13,ntmps13;go_upto_region 13 with fail;clear H k5 x0 x1 x3;go_cut [11] from 21 to 233 (λv11 wx=>dw w1.drew ar v p ps D L G t xs A F (wD xs o.s) (DG xs o.s) (Z3 v11) wx)
 case first=>
  go_region_with (go_at_call 31;refine hp.mono ?_;rintro e w2 hz;obtain ⟨rr,_,_,_,_,_,_,rfl,_⟩:=id hz;have i:=ak hz;clear hz);all_goals (go_wp2_with fail;go_meet;case rel=>exact i.o)
 case rest=>
  obtain ⟨n,t',hd,hb,P',xs',B,hN,ke,X,k6,kg,J⟩:=Ny hcut;change aaZ n xs o.s xs' at J;obtain ⟨d,H⟩:=HS.o;have M:bW w1 w1.drew:=(T6 _ w1).drew;have W:aa (λj=>j=ar\/F.S j) w1 wc:=(aa.RT M _).trans k6;obtain ⟨z,kc⟩:=d.b.call W ke X.nb;have E:=d.c.keep kc lR;have U:=d.b.live.disk.up;have K:Q.length<=1000000:=by
   rw [E.rel.len];have:=d.b.live.Sq.1;have e:xs.os.length=xs.length:=(by simp [aX.os]);omega
  have C:me wc q0 o (.slice x m y):=by
   rw [<- H];exact ai.keep d.op (W.block _ d.lt (λe=>by
    rcases e with e|e
    . have:=d.ar;omega
    . have:=d.f _ e;omega))
  have kh:=vG hN z.gl;have i:=hide8 z E C J U K X kg;clear d H M W z kc E C hN J U K ke X kg k6 hp x2 s1 hcut;go_wp2_with fail;refine kh.mono ?_;rintro e w3 ⟨rfl,R⟩;clear kh;obtain ⟨z,E,C,J,U,K,_⟩:=i.o;have l:=z.below R;have g:=E.keep (iA.below R _) lR;have k:me w3 q0 o (.slice x m y):=ai.keep C (R.block _ (ai.lt C));obtain ⟨kr,ks,kf⟩:=g.ref;have ka:=yT kf K g.rel.sl;have r3:=l.wbA.cells.2.2.2.2.2.1;have H3:=aE l g k;clear z E C J U K l g k kf R;go_wp2_with fail;refine ka.mono ?_;rintro e w4 ⟨rfl,⟨u4,u⟩,q⟩;clear ka r3;obtain ⟨l,g,k⟩:=H3.o;have k0:=DE u i.o.2.2.2.2.2.1 g.rel.sl o.s;have k7:me w4 q0 o (.slice x m y):=ai.keep k (q.block _ (ai.lt k));have y4:=k7.cells.2.2.1;obtain ⟨N,I⟩:=nM (w3.heap.size);rw [I] at k0 u ⊢;have H4:=aE u q I;clear l g k k7 u q I;go_wp2_with fail;refine k0.mono ?_;rintro e w5 kb;clear k0 y4;obtain ⟨u,q,I⟩:=H4.o;obtain ⟨l,g,k⟩:=H3.o;obtain ⟨kk,k9,ko,Q',k8,h4⟩:=aaf u kb i.o.2.2.2.1 g.rel i.o.2.2.2.2.1 (Nat.le_of_eq I) q.size;subst kk;have Y:bW w3 w5:=q.trans k9;have V:=l.below Y;have T:=g.keep (iA.below Y _) lR;have O:=V.wbA;have r5:=O.cells.2.2.2.2.2.1;have f5:=ai.Sa O 5;have hq:MS KW (fj A) w0 (w5.setCell ⟨wb,5,ZY⟩ (Z6 (ZX ⟨N,0,ZY⟩))) wb D L G nb (t+1):=by
   have hW:iz (w5.setCell ⟨wb,5,ZY⟩ (Z6 (ZX ⟨N,0,ZY⟩))) wb D L G (Z6 (ZX ⟨p,0,ZY⟩)) (Z6 (ZX ⟨sa,0,ZY⟩)) (Z6 (ZX ⟨N,0,ZY⟩)) nb out want cache:=ai.set O 5 [Z6 (ZX ⟨N,0,ZY⟩)] (by simp [P0]);obtain ⟨h6,km⟩:=V.write (aa.setCell (S:=λj=>j=wb) _ ⟨wb,5,ZY⟩ _ rfl) hW;have ki:Dc KW w5 N Q' xs' out want:=⟨k8,h4 _ T.rel,T.ow,T.mks⟩;exact ⟨_,_,_,_,_,_,_,_,_,_,_,_,_,_,_,_,_,_,h6,ki.keep km lR,i.o.2.2.2.2.2.2.2,i.o.2.2.2.2.2.2.1⟩
  have HF:=ak hq;clear hq u q I l g k k9 k8 h4 Y V T O kb;go_wp2_with fail;refine (ox _ _).mono ?_;rintro e w8 ⟨rfl,rfl⟩;go_wp2;go_ret;exact ⟨rfl,HF.o⟩
end
end
section
def DI {xs:aX} (b:∀ x∈xs,jR D x) {X:Ob×a8} (a:X∈xs):cj X.1.name=ZW:=by
 have:=(b X a).fit.name;unfold cj;exact U1 this
def ND {xs:aX} (a:X∈xs):X.1.name∈xs.names:=Ua.2 ⟨X.1,Ua.2 ⟨X,a,rfl⟩,rfl⟩
def DJ {xs:aX} (h:x∈xs.names):∃ X∈xs,X.1.name=x:=by
 obtain ⟨o,ho,e⟩:=Ua.1 h;obtain ⟨X,a,rfl⟩:=Ua.1 ho;exact ⟨X,a,e⟩
def Hc {xs:aX} (a:ja wx Q xs) (i:Up xs.names) (p:∀ x∈xs,jR D x) (f:X∈xs):∃ c,(∀ e,Lz Q X.1.name e->e=Z3 (ZZ #[c,Z7 Z9 0]))/\Ow wx c X.2:=by
 have r:=nE a X.1.name;obtain ⟨b,h,g⟩:=UZ f;have d:b<Q.length:=by rw [a.len];exact h
 obtain ⟨t,j⟩:=a.at b d h;rw [g] at t j;refine ⟨Q[b].2,λe o=>?_,j⟩;rcases o with ⟨q,_⟩|⟨_,q,_⟩|⟨_,k,q,l⟩
 . exact absurd ((kZ _).2 (DI p f)) q
 . exact absurd (ND f) (r.1 q)
 . have s:=(iZ a i q).1;have hl:b<xs.names.length:=(by rw [<- a.names];unfold cE;rw [Ud];exact d);have n:=iw i hl (x:=X.1.name) (by rw [<- g];simp [aX.names,aS,aX.os]);have m:k=b:=s.symm.trans n;subst m;rw [l,Ub,Ue d];rfl
def aag {base:Nat} {xs:aX} (v:vu xs x base u rr wx) (r:ja wx Q xs) (s:Up xs.names) (j:∀ x∈xs,jR D x) :
 ∃ n c l,isN rr n/\(∀ e,Lz Q x e->e=Z3 (ZZ #[c,Z7 Z9 n]))/\Ow wx u l/\Ow wx c l/\(n=0\/(n≠0/\u=Z5 ZY 0 0/\x∉xs.names)):=by
 have m:=kZ x;rcases v with ⟨d,⟨b,a⟩|⟨b,a,o⟩⟩|⟨b,a,X,f,w,ho⟩
 . refine ⟨6,Z5 ZY 0 0,[],.inl b,λe i=>?_,d▸Ow.nil _,Ow.nil _,.inr ⟨by decide,d,λq=>?_⟩⟩
   . rcases i with ⟨_,g⟩|⟨q,_⟩|⟨q,_⟩
     . exact g
     . rw [m,a] at q;cases q
     . rw [m,a] at q;cases q
   . obtain ⟨X,f,e⟩:=DJ q;have:=DI j f;rw [e,a] at this;cases this
 . refine ⟨9,Z5 ZY 0 0,[],.inl b,λe i=>?_,d▸Ow.nil _,Ow.nil _,.inr ⟨by decide,d,o⟩⟩;rcases i with ⟨q,_⟩|⟨_,_,g⟩|⟨_,k,q,_⟩
   . exact absurd (m.2 a) q
   . exact g
   . exact absurd (iZ r s q).2.2 o
 . obtain ⟨c,p,t⟩:=Hc r s j f;have h:=j _ f;rw [w] at p;exact ⟨0,c,X.2,.inr ⟨b,rfl⟩,p,⟨⟨base,ho⟩,h.byt,by rw [h.len];exact h.fit.size⟩,t,.inl rfl⟩
def aa0:¬ rM 47:=by unfold rM;decide
section
variable {KW w0 w:ZU} {wb D L G nb t:Nat} {xs:aX} {Q:List (ByteArray×ZT)} {p r sa ar v:Nat} {Kind:bf->Prop} {ps:bf} {pg ob:ZT} {P:a8} {A:aC} {F:aH} {out want:ZT} {cache:Int}
theorem NF (h:MB w0 w wb D L G nb t xs p r sa ar v Kind ps pg ob P A F out want cache) (n:Dc KW w r Q xs out want) (o:qD) (j:ZT) (g:Bs w0 j o.d) (B:o.d.length<=100000) (E:t<1000000) (z:D<=6) (H:o.kind=1) :
 ZS ZN 13 #[Z6 (ZX ⟨wb,0,ZY⟩),.agg #[Z7 Z9 o.kind,Z7 Z9 o.a,Z0 o.s,j]] w λe w'=>e=Z3 (Z2 ZW)/\MS KW (fj A) w0 w' wb D L G nb (t+1):=by
 obtain ⟨x,y,C,_⟩:=id g;subst C;obtain ⟨m,q⟩:=nM (o.d.length);rw [q] at g ⊢;obtain ⟨w1,l⟩:=nM (w.alloc (Z4 #[Z7 Z9 o.kind,Z7 Z9 o.a,Z0 o.s,.slice x m y] 47));have f:=st0 h n o _ l;have i:=NA f.b f.c o _ g B E z;obtain ⟨I,J,K,M⟩:=f.op.cells;clear f h n g q;rw [H] at I l i ⊢;go_enter func13,ntmps13;go_wp2_with fail;refine i.mono ?_;rintro e w2 ⟨rfl,k⟩;have u:=ak k;clear k i;go_wp2;go_ret;exact ⟨rfl,u.o⟩
theorem DK (h:MB w0 w wb D L G nb t xs p r sa ar v Kind ps pg ob P A F out want cache) (hc:Dc KW w r Q xs out want) (o:qD) (dv:ZT) (q1:∃ Y m Z,dv=.slice Y m Z) (hk:o.kind=2) :
 ZS ZN 13 #[Z6 (ZX ⟨wb,0,ZY⟩),.agg #[Z7 Z9 o.kind,Z7 Z9 o.a,Z0 o.s,dv]] w λe w'=>e=Z3 (Z2 ZW)/\(∃ ps' N M P' x d,MB w0 w' wb D L G nb t xs p r sa ar v Kind ps' N M P' A F x d cache/\Dc KW w' r Q xs x d)/\Nf D xs o.s F A w w':=by
 obtain ⟨Y,m,Z,rfl⟩:=q1;obtain ⟨w1,k9⟩:=nM (w.alloc (Z4 #[Z7 Z9 o.kind,Z7 Z9 o.a,Z0 o.s,.slice Y m Z] 47));have i:=st0 h hc o _ k9;have hp:bW w1 w1.drew:=(T6 _ w1).drew;have hh:=i.b.below hp;have hx:=abr hh.box hh.live o.s λwx kx=>Pe (hh.live.below kx) hh.shv o.s;obtain ⟨x0,x1,x2,x3⟩:=i.op.cells;have s1:=i.b.wbA.cells.2.2.2.2.1;obtain ⟨q0,W⟩:=nM (w.heap.size);have ks:=ak (show w1.drew.heap[F.g]?=w.heap[F.g]? from (by rw [<- k9];exact Uy _ _ _ (h.live.vol.arr.RS h.live.vol.arr.sg)));have HS:=al i W;clear i h hc hp hh;rw [hk] at x0 k9 ⊢;rw [W] at x0 x1 x2 x3;clear hk;go_enter func13,ntmps13;go_upto_region 5 with fail;clear W k9 x0 x1 x3;go_cut [5,6] from 21 to 233 (λv5 v6 wx=>F8 w1.drew ar v p Kind ps D L G t xs A F o.s (Z3 (ZZ #[v5,v6])) wx)
 case first=>
  go_region_with (go_at_call 28;refine hx.mono ?_;rintro e w2 kb;obtain ⟨uu,rr,_,_,_,_,rfl,_⟩:=id kb;have X:=ak kb;clear kb);all_goals (go_wp2_with fail;go_meet;case rel=>exact X.o)
 case rest=>
  obtain ⟨u,rr,ps',N,M,P',he,⟨kj,k6,hq⟩,kc,kg,kh⟩:=hcut;cases he;have k7:=ak kh;clear kh;obtain ⟨i,W⟩:=HS.o;have hp:bW w1 w1.drew:=(T6 _ w1).drew;have ha:aa (λj=>j=ar\/F.S j\/j=v\/ps.bl j) w1 wc:=(aa.RT hp _).trans kc;obtain ⟨y,ki⟩:=i.b.callK ha kj rfl k6 hq;have z:=i.c.keep ki lR;have E:me wc q0 o (.slice Y m Z):=by
   rw [<- W];exact ai.keep i.op (ha.block _ i.lt (λe=>by
    rcases e with e|e|e|e
    . have:=i.ar;omega
    . have:=i.f _ e;omega
    . have:=i.ar;have:=i.b.live.vlt;omega
    . exact cP i.b.live.kit i.op aa0 e))
  obtain ⟨n,cv,l,hN,K,C,B,O⟩:=aag kg z.rel y.live.disk.up y.live.disk.fits;have ko:=vG hN y.gl;obtain ⟨⟨R,U,T,hu,_⟩,_⟩:=C.sl;obtain ⟨⟨H,J,I,kz,_⟩,_⟩:=B.sl;subst hu kz;have X:=hide7 y z E K C B O;clear k6 hq i W hp ha y ki z E hN K C B O kj kc kg hx x2 s1;go_wp2_with fail;refine ko.mono ?_;rintro e w3 ⟨rfl,hj⟩;clear ko;obtain ⟨y,z,E,K,C,B,O⟩:=X.o;have h3:=y.below hj;have k8:=z.keep (iA.below hj _) lR;have ke:me w3 q0 o (.slice Y m Z):=ai.keep E (hj.block _ (ai.lt E));have y3:=ke.cells.2.2.1;have r3:=h3.wbA.cells.2.2.2.2.2.1;have kf:Q.length<=1000000:=by
   rw [k8.rel.len];have:=h3.live.Sq.1;have e:xs.os.length=xs.length:=(by simp [aX.os]);omega
  have kk:∀ k,ZS ZN 14 #[Z6 (ZX ⟨r,0,ZY⟩),Z0 o.s] (w3.drewN k) λe w'=>e=Z3 (ZZ #[.slice H J I,Z7 Z9 n])/\w'=w3.drewN k:=λk=>by
   have kv:bW w3 (w3.drewN k):=⟨rfl,rfl,rfl,TY _,λ_ _=>rfl⟩;obtain ⟨rb,rv,hr⟩:=(k8.keep (iA.below kv _) lR).ref;exact (tN hr kf o.s).mono λe w' q=>⟨K e q.2,q.1⟩
  have H3:=a5 h3 k8 kk hj;clear y z E K C B O h3 k8 ke kf kk hj;go_upto_region 7 with fail;go_quiet ((go_at_call 14;refine Ys (H3.o.2.2.1 _)));clear y3 r3;have hm:bW wc (w3.drewN nq):=H3.o.2.2.2.trans ⟨rfl,rfl,rfl,TY _,λ_ _=>rfl⟩;obtain ⟨w4,kp⟩:=nM (w3.drewN nq);rw [kp] at hm ⊢;clear kp;obtain ⟨y,z,E,K,C,B,O⟩:=X.o;have k0:=C.keep (Kd.below hm _ _);have hy:=B.keep (Kd.below hm _ _);have km:=Gi _ _ l w4 k0.bs hy.bs;have H4:=ak hm;clear hm y z E K C B O k0 hy;go_wp2_with fail;refine km.mono ?_;rintro e w5 ⟨rfl,m5,kr⟩;have V:bW wc w5:=H4.o.trans (by rw [kr];exact ⟨rfl,rfl,rfl,TY _,λ_ _=>rfl⟩);clear kr km;obtain ⟨y,z,E,K,C,B,O⟩:=X.o;have h5:=y.below V;have hs:=z.keep (iA.below V _) lR;have k5:=C.keep (Kd.below V _ _);have hz:=B.keep (Kd.below V _ _);have hi:=h5.wbA;obtain ⟨_,_,_,_,_,_,_,c7,c8,_⟩:=hi.cells;have f7:=ai.Sa hi 7;have f8:=ai.Sa hi 8;obtain ⟨⟨oa,om,oc,rfl,_⟩,wa,wm,wd,rfl,_⟩:=hs.ow;have hv:(∃ ps' N M P' x d,MB w0 ((w5.setCell ⟨wb,7,ZY⟩ (.slice R U T)).setCell ⟨wb,8,ZY⟩ (.slice H J I)) wb D L G nb t xs p r sa ar v Kind ps' N M P' A F x d cache/\Dc KW ((w5.setCell ⟨wb,7,ZY⟩ (.slice R U T)).setCell ⟨wb,8,ZY⟩ (.slice H J I)) r Q xs x d)/\Nf D xs o.s F A w ((w5.setCell ⟨wb,7,ZY⟩ (.slice R U T)).setCell ⟨wb,8,ZY⟩ (.slice H J I)):=by
   have hO:aa (λj=>j=wb) w5 ((w5.setCell ⟨wb,7,ZY⟩ (.slice R U T)).setCell ⟨wb,8,ZY⟩ (.slice H J I)):=(aa.setCell (S:=λj=>j=wb) w5 ⟨wb,7,ZY⟩ _ rfl).trans (aa.setCell (S:=λj=>j=wb) _ ⟨wb,8,ZY⟩ _ rfl);have hW:iz ((w5.setCell ⟨wb,7,ZY⟩ (.slice R U T)).setCell ⟨wb,8,ZY⟩ (.slice H J I)) wb D L G (Z6 (ZX ⟨p,0,ZY⟩)) (Z6 (ZX ⟨sa,0,ZY⟩)) (Z6 (ZX ⟨r,0,ZY⟩)) nb (.slice R U T) (.slice H J I) cache:=ai.set hi 7 [.slice R U T,.slice H J I] (by simp [P0]);obtain ⟨h6,q3⟩:=h5.write hO hW;have ky:Dc KW w5 r Q xs (.slice R U T) (.slice H J I):=⟨hs.ref,hs.rel,⟨k5.sl.1,hz.sl.1⟩,hs.mks⟩;have ka:=h5.live.vol.arr;have q2:=ka.RS ka.sg;refine ⟨⟨_,_,_,_,_,_,h6,ky.keep q3 lR⟩,(k7.out.2.elim λc q=>⟨(k7.out.keep (V.block _ (T5.1 k7.out.1.choose_spec).1)).1,c,(q.1.after (ks.out)).keep (V.block _ (T5.1 k7.out.1.choose_spec).1),q.2⟩:Nf D xs o.s F A w w5).keep (hO.block _ q2 λe=>h5.wbF.1 (e▸ka.sg))⟩
  have HF:=ak hv;clear hv y z E K C B h5 hs k5 hz hi V;rcases O with rfl|⟨hn,hu,_⟩
  . go_wp2_with fail;refine (ox 0 _).mono ?_;rintro e w8 ⟨rfl,rfl⟩;go_wp2;go_ret;exact ⟨rfl,HF.o⟩
  . cases hu;have q4:=λwx=>XI (P:=ZN) wx 40 5 ZY 0 0 0 0 Uq;go_wp2_with fail;refine (ox n _).mono ?_;rintro e w8 ⟨rfl,rfl⟩;go_wp2;go_ret;exact ⟨rfl,HF.o⟩
def NG (h:MB w0 w wb D L G nb t xs p r sa ar v Kind ps pg ob P A F out want cache) (j:Dc KW w r Q xs out want) (o:qD) (b:ZT) (i:∃ c m d,b=.slice c m d) (k:o.kind=2) :
 ZS ZN 13 #[Z6 (ZX ⟨wb,0,ZY⟩),.agg #[Z7 Z9 o.kind,Z7 Z9 o.a,Z0 o.s,b]] w λe w'=>e=Z3 (Z2 ZW)/\MS KW (fj A) w0 w' wb D L G nb (t+1):=(DK h j o b i k).mono (by
 rintro e w' ⟨rfl,⟨_,_,_,_,_,_,f,g⟩,_⟩;exact ⟨rfl,_,_,_,_,_,_,_,_,_,_,_,_,_,_,_,_,_,_,f,g,by omega,fj.refl A⟩)
end
end
section
def P3 (w:ZU) (g:Nat) (os:List Ob) (i:ZT) (wr:ZU):Prop:=
 ∃ k:Nat,k<=os.length/\i=Z7 Z9 (k:Nat)/\bW w wr/\∃ cur:List ZT,ai wr g 99 cur/\os.length*2<=cur.length/\∀ j (hj:j<os.length),k<=j->cur[j*2]?=ZX (Z0 os[j].name)/\cur[j*2+1]?=ZX (Z7 Z9 (os[j].size:Nat))
def DL:∀ (os:List Ob) (j:Nat) (a:j<os.length),(mb os)[j*2]?=ZX (Z0 os[j].name)/\(mb os)[j*2+1]?=ZX (Z7 Z9 (os[j].size:Nat))
 | [],j,a=>absurd a (by simp)
 | o::os,0,_=>⟨rfl,rfl⟩
 | o::os,j+1,a=>by
  have e:mb (o::os)=[Z0 o.name,Z7 Z9 (o.size:Nat)]++mb os:=by unfold mb;rw [VQ];rfl
  obtain ⟨b,c⟩:=DL os j (by simpa using a);rw [e];refine ⟨?_,?_⟩
  . rw [U7 (by simp;omega),show (j+1)*2-[Value.string o.name,Z7 Z9 (o.size:Nat)].length=j*2 by simp;omega];exact b
  . rw [U7 (by simp;omega),show (j+1)*2+1-[Value.string o.name,Z7 Z9 (o.size:Nat)].length=j*2+1 by simp;omega];exact c
def P3.start {base:Nat} (h:wr.ownsRow base 99 2 u n (mb os)) (p:os.length=n) (s:0<n) (m:bW w wr) (t:w.heap.size<=base):∃ g cap,u=Z5 (ZX ⟨g,0,ZY⟩) n cap/\w.heap.size<=g/\P3 w g os (Z7 Z9 0) wr:=by
 rcases h.2 with ⟨_,e⟩|⟨g,cap,cur,c,q,d,f,r,i,k⟩
 . omega
 . refine ⟨g,cap,c,by omega,0,T7 _,rfl,m,cur.toList,?_,?_,λj o _=>?_⟩
   . unfold ai;rw [d,Array.toArray_toList]
   . have l:cur.toList.length=cap*2:=(by rw [Wv];exact i);rw [l,p];exact WV 2 f
   . obtain ⟨a,b⟩:=DL os j o;have:j*2+1<n*2:=(by omega);rw [<- k] at a b;rw [VR (by omega)] at a b;exact ⟨a,b⟩
theorem P3.next {cur:List ZT} (x y:ZT) (s:k<os.length) (h:bW w wr) (a:w.heap.size<=g) (m:ai wr g 99 cur) (hl:os.length*2<=cur.length) (l:∀ j (b:j<os.length),k<=j->cur[j*2]?=ZX (Z0 os[j].name)/\cur[j*2+1]?=ZX (Z7 Z9 (os[j].size:Nat))):P3 w g os (Z7 Z9 ((k:Int)+1)) ((wr.setCell ⟨g,k*2,ZY⟩ x).setCell ⟨g,k*2+1,ZY⟩ y):=by
 have d:=ai.set m (k*2) [x,y] (by simp;omega);have c:bW w ((wr.setCell ⟨g,k*2,ZY⟩ x).setCell ⟨g,k*2+1,ZY⟩ y):=(h.setCell (p:=⟨g,k*2,ZY⟩) a _).setCell (p:=⟨g,k*2+1,ZY⟩) a _;refine ⟨k+1,by omega,rfl,c,_,d,?_,λj b q=>?_⟩
 . simp only [Uc,Us,Ur,UG,U0];omega
 . obtain ⟨n,o⟩:=l j b (by omega);have e:∀ i,k*2+2<=i->(cur.take (k*2)++[x,y]++cur.drop (k*2+[x,y].length))[i]?=cur[i]?:=λi r=>by
    have f:(cur.take (k*2)++[x,y]).length=k*2+2:=(by rw [Uc,Us];simp;omega);rw [U7 (by omega),f,Wg];congr 1;simp;omega
   exact ⟨(e _ (by omega)).trans n,(e _ (by omega)).trans o⟩
section
variable {KW w0 w:ZU} {wb D L G nb t:Nat} {xs:aX} {Q:List (ByteArray×ZT)} {p r sa ar v:Nat} {Kind:bf->Prop} {ps:bf} {pg ob:ZT} {P:a8} {A:aC} {F:aH} {out want:ZT} {cache:Int}
theorem yW (h:MB w0 w wb D L G nb t xs p r sa ar v Kind ps pg ob P A F out want cache) (hc:Dc KW w r Q xs out want) (o:qD) (dv:ZT) (kc:∃ W m X,dv=.slice W m X) (K:o.kind=4) {C:aC->Prop} (hC:C A) :
 ZS ZN 13 #[Z6 (ZX ⟨wb,0,ZY⟩),.agg #[Z7 Z9 o.kind,Z7 Z9 o.a,Z0 o.s,dv]] w λe w'=>e=Z3 (Z2 ZW)/\MS KW C w0 w' wb D L G nb (t+1):=by
 obtain ⟨W,m,X,rfl⟩:=kc;obtain ⟨w1,hz⟩:=nM (w.alloc (Z4 #[Z7 Z9 o.kind,Z7 Z9 o.a,Z0 o.s,.slice W m X] 47));have d:=st0 h hc o _ hz;have k8:=aaR d.b.box d.b.live;obtain ⟨x0,x1,x2,x3⟩:=d.op.cells;have s1:=d.b.wbA.cells.2.2.2.2.1;have l:∀ w',bW w1 w'->MS KW C w0 w' wb D L G nb (t+1):=λw' hb=>⟨_,_,_,_,_,_,_,_,_,_,_,_,_,_,_,_,_,_,d.b.below hb,d.c.keep (iA.below hb _) lR,by omega,hC⟩;obtain ⟨rb,rv,n⟩:=d.c.ref;obtain ⟨N,f⟩:=nM (xs.os.length);have j:Q.length=N:=by rw [d.c.rel.len,<- f];simp [aX.os]
 have kb:N<=1000:=by rw [<- f];exact d.b.live.Sq.1
 have HS:=a6 d l n f j;clear d h hc l n f j;rw [K] at x0 hz ⊢;clear K;go_enter func13,ntmps13;go_wp2_with fail;clear hz x0 x1 x2 x3;refine k8.mono ?_;rintro e w2 ⟨u,rfl,x,H⟩;clear k8 s1;have H2:=al x H;clear x H;go_wp2_with fail;refine (tE w2).mono ?_;rintro e w3 ⟨rfl,T⟩;obtain ⟨d,l,n,f,j⟩:=HS.o;obtain ⟨x,H⟩:=H2.o;have B:bW w1 w3:=x.trans (T.mono x.size);have J:=an H T;rw [f] at J;have hq:iz w3 wb D L G (Z6 (ZX ⟨p,0,ZY⟩)) (Z6 (ZX ⟨sa,0,ZY⟩)) (Z6 (ZX ⟨r,0,ZY⟩)) nb out want cache:=ai.keep d.b.wbA (B.block _ (ai.lt d.b.wbA));have r3:=hq.cells.2.2.2.2.2.1;have M:rI w3 r rb rv Q:=vF.ref n (iA.below B _).SQ lR;have t3:=M.cell.1;by_cases R:N=0
 . have hu:∃ U V,u=.slice U 0 V:=by
    obtain ⟨U,V,e⟩:=aT J;exact ⟨U,V,by rw [e,R]⟩
   have kf:∃ y I,rv=.slice y 0 I:=by
    obtain ⟨y,I,e⟩:=aT M.own;exact ⟨y,I,by rw [e,j,R]⟩
   obtain ⟨U,V,rfl⟩:=hu;obtain ⟨y,I,rfl⟩:=kf;have O:=ak (l _ B);clear d l n f j x H T B J hq M R kb;go_wp2;refine VO 1 ?_;rw [VJ];go_wp2;go_ret;exact ⟨rfl,O.o⟩
 . obtain ⟨g,cap,rfl,hg,k0⟩:=P3.start J f (by omega) B lR;obtain ⟨y,I,ka⟩:=aT M.own;rw [j] at ka;subst ka;have O:=al k0 hg;clear k0 hg d l n f j x H T B J hq M R;go_wp2_with fail;go_loopw [19] (λi wr=>P3 w1 g xs.os i wr) (λi _=>N-(intOf i).toNat)
   case atStart=>exact O.o.1
   case round=>
    clear r3 t3;obtain ⟨k,K,rfl,E,cur,q,Z,S⟩:=hrel;obtain ⟨d,l,n,f,j⟩:=HS.o;rw [f] at K;by_cases ki:k<N
    . have kh:(k:Int)<(N:Int):=(by omega);have hx:k<xs.os.length:=(by omega);have Y:k<xs.length:=by
       have e:xs.os.length=xs.length:=(by simp [aX.os]);omega
      obtain ⟨q1,q2⟩:=S k hx lR;have e1:=ai.cell q q1;have e2:=ai.cell q q2;have g1:=ai.Sa q (k*2);have g2:=ai.Sa q (k*2+1);have k6:iz wr wb D L G (Z6 (ZX ⟨p,0,ZY⟩)) (Z6 (ZX ⟨sa,0,ZY⟩)) (Z6 (ZX ⟨r,0,ZY⟩)) nb out want cache:=ai.keep d.b.wbA (E.block _ (ai.lt d.b.wbA));have rr:=k6.cells.2.2.2.2.2.1;have hy:rI wr r rb (.slice y N I) Q:=vF.ref n (iA.below E _).SQ lR;have tr:=hy.cell.1;obtain ⟨qn,qo⟩:=d.c.rel.at k (by omega) Y;obtain ⟨⟨ba,bn,bc,hs,_⟩,hv⟩:=qo.sl;rw [hs] at hv;have k7:bn=xs.os[k].size:=by
       have h1:=(d.b.live.disk.fits _ (T8 Y)).len;have h2:xs.os[k]=xs[k].1:=(by simp [aX.os]);rw [h2,<- h1];exact hv
      have k9:Q[k].1=xs.os[k].name:=(by rw [qn];simp [aX.os]);obtain ⟨z,kg,d1,d2⟩:∃ z,y=ZX ⟨z,0,ZY⟩/\wr.cell? ⟨z,k*2,ZY⟩=ZX (Z0 xs.os[k].name)/\wr.cell? ⟨z,k*2+1,ZY⟩=ZX (.slice ba bn bc):=by
       rcases hy.shape with ⟨_,e⟩|⟨z,hd,e,_,_,hh⟩
       . rw [e] at j;simp at j;omega
       . simp only [VA] at e;obtain ⟨c1,c2⟩:=hh k (by omega);rw [k9] at c1;rw [hs] at c2;exact ⟨z,e.1,c1,c2⟩
      subst kg;rw [k7] at d2;have k5:∀ m,P3 w1 g xs.os (Z7 Z9 ((k:Int)+1)) (((wr.drewN m).setCell ⟨g,k*2,ZY⟩ (.string ⟨#[109,105,110,101]⟩)).setCell ⟨g,k*2+1,ZY⟩ (Z7 Z9 0)):=λm=>P3.next _ _ hx (E.trans ⟨rfl,rfl,rfl,TY _,λ_ _=>rfl⟩) O.o.2 (ai.keep q rfl) Z S;obtain ⟨nm,hi⟩:=nM (xs.os[k].name);obtain ⟨sz,hn⟩:=nM (xs.os[k].size);rw [hi] at e1 d1;rw [hn] at e2 d2;have HN:=ak k5;clear k5 E q Z S q1 q2 d l n f j k6 hy qn qo hs hv k7 k9 hi hn hx Y K;go_upto_region 30 with fail;go_quiet (fail);go_wp2;exact ⟨HN.o _,by simp [intOf];omega⟩
    . have ke:k=N:=(by omega);subst ke;have HB:=ak (l _ E);clear E q Z S d l n f j;go_wp2;go_ret;exact ⟨rfl,HB.o⟩
end
end
def MS.Sp {C:aC->Prop} (h:MS KW C w0 w wb D L G nb T):MS w C w0 w wb D L G nb T:=by
 obtain ⟨t,xs,Q,p,r,sa,ar,v,Kind,ps,pg,ob,P,A,F,out,want,cache,b,a,c⟩:=h;exact ⟨t,xs,Q,p,r,sa,ar,v,Kind,ps,pg,ob,P,A,F,out,want,cache,b,⟨a.ref,a.rel,a.ow,λ_ _ _ _ _=>rfl⟩,c⟩
def MS.base {C:aC->Prop} (h:MS KW C w0 w wb D L G nb T):bW w0 w:=by
 obtain ⟨t,xs,Q,p,r,sa,ar,v,Kind,ps,pg,ob,P,A,F,out,want,cache,a,_⟩:=h;exact a.base
def MS.marks {C:aC->Prop} (h:MS KW C w0 w wb D L G nb T) {k:Nat} {cs:Array ZT} (b:KW.heap[k]?=ZX (Z4 cs 82 (0,0))):w.heap[k]?=KW.heap[k]?:=by
 obtain ⟨t,xs,Q,p,r,sa,ar,v,Kind,ps,pg,ob,P,A,F,out,want,cache,_,a,_⟩:=h;exact a.mks k cs _ (.inl rfl) b
def HaR (w0:ZU) (C:aC->Prop) (wb D L G nb T:Nat) (i ok:ZT) (wr:ZU):Prop:=∃ k:Nat,k<=1001/\i=Z7 Z9 (k:Nat)/\ok=Z2 ZW/\MS wr C w0 wr wb D L G nb (T+k)
theorem NH {C:aC->Prop} (h:MS KW C w0 w wb D L G nb T) (S:∀ A B,fj A B->C A->C B) :
 ZS ZN 15 #[Z6 (ZX ⟨wb,0,ZY⟩)] w λe w'=>e=Z3 (Z2 ZW)/\MS w' C w0 w' wb D L G nb (T+1002):=by
 obtain ⟨t,xs,Q,p,r,sa,ar,v,Kind,ps,pg,ob,P,A,F,out,want,cache,b,a,Y,c⟩:=h;have E:=yW b a ⟨4,0,YG,[]⟩ (Z5 ZY 0 0) ⟨_,_,_,rfl⟩ rfl c;clear b a c;go_enter func15,ntmps15;go_wp2_with fail;refine E.mono ?_;rintro e w1 ⟨rfl,H⟩;have n:=ak (show MS w1 C w0 w1 wb D L G nb (T+1) from (H.mono (by omega) λ_ q=>q).Sp);clear E H;go_wp2_with fail;go_loopw [3,4] (λok i wx=>HaR w0 C wb D L G nb (T+1) i ok wx) (λ_ i _=>1001-(intOf i).toNat)
 case atStart=>exact ⟨0,T7 _,rfl,rfl,n.o⟩
 case round=>
  clear n;obtain ⟨k,X,rfl,rfl,V,xs,Q,p,r,sa,ar,v,Kind,ps,pg,ob,P,A,F,out,want,cache,b,a,W,c⟩:=hrel;obtain ⟨rb,rv,j⟩:=a.ref;have N:=b.wbA.cells.2.2.2.2.2.1;have c0:=j.cell.1;have l:=j.shape;obtain ⟨ra,rc,rfl⟩:=aT j.own;have z:=a.rel.len;have y:Q.length<=1000:=by
   have:=b.live.Sq.1;have e:xs.os.length=xs.length:=(by simp [aX.os]);omega
  have M:=ak (show MS wr C w0 wr wb D L G nb (T+1002) from ⟨V,xs,Q,p,r,sa,ar,v,Kind,ps,pg,ob,P,A,F,out,want,cache,b,a,by omega,c⟩);by_cases d:k<Q.length
  . obtain ⟨g,U,n1⟩:∃ g,ra=ZX ⟨g,0,ZY⟩/\wr.cell? ⟨g,k*2,ZY⟩=ZX (Z0 Q[k].1):=by
     rcases l with ⟨_,e⟩|⟨g,cap,e,_,_,O⟩
     . rw [e] at d;simp at d
     . simp only [VA] at e;exact ⟨g,e.1,(O k d).1⟩
    subst U;obtain ⟨x,J⟩:=nM (Q[k].1);rw [J] at n1;have I:=NG b a ⟨2,0,x,[]⟩ (Z5 ZY 0 0) ⟨_,_,_,rfl⟩ rfl;obtain ⟨m,f⟩:=nM (Q.length);rw [f] at c0 d y;have R:(k:Int)<(m:Int):=(by omega);have s:=al I c;clear I b a j l z J f c;go_wp2_with fail;refine s.o.1.mono ?_;rintro e w6 ⟨rfl,u⟩;have K:=ak (show HaR w0 C wb D L G nb (T+1) (Z7 Z9 ((k:Int)+1)) (Z2 ZW) w6 from ⟨k+1,by omega,rfl,rfl,(u.mono (by omega) λB q=>S _ B q s.o.2).Sp⟩);clear u N c0 n1;go_wp2;exact ⟨K.o,by simp [intOf];omega⟩
  . obtain ⟨m,f⟩:=nM (Q.length);rw [f] at c0 d y;have R:¬ (k:Int)<(m:Int):=(by omega);clear b a j l z f c;go_wp2;go_ret;exact ⟨rfl,M.o⟩
section
def iA.arr {A:aC} (e:az w p A F) (f:aa (F.S) w w'):iA B w w':=λT g j cs _ d=>f.block j (T5.1 d).1 (λq=>by
 have b:T≠75/\T≠79/\T≠114/\T≠4:=by
  rcases g with (rfl|rfl|rfl|rfl|rfl)|rfl|rfl<;>exact ⟨by decide,by decide,by decide,by decide⟩
 obtain ⟨cs',T',c,h⟩:=e.kind q;rw [d] at c;simp only [US,Vl] at c;have a:=c.2.1;rcases h with k|k|k|k
 . exact b.1 (a.trans k)
 . exact b.2.1 (a.trans k)
 . exact b.2.2.1 (a.trans k)
 . exact b.2.2.2 (a.trans k))
def yX {a r:ZT} (f:iz w wb D L G a s r nb out want cache) (c:aa (λj=>j=wb) w w'):iA w.heap.size w w':=λT d j cs hl b=>c.block j hl (λe=>by
 have g:w.heap[wb]?=ZX (Z4 _ 42 (0,0)):=f;subst e;rw [g] at b;simp only [US,Vl] at b;have e:=b.2.1;rcases d with (q|q|q|q|q)|q|q<;>exact absurd (e.trans q) (by decide))
structure AB (w0 w:ZU) (wb D L G nb t p r:Nat) (s:ZT) (xs:aX) (A:aC) (F:aH) (out want:ZT) (cache kc:Int):Prop where
 wbA:iz w wb D L G (Z6 (ZX ⟨p,0,ZY⟩)) s (Z6 (ZX ⟨r,0,ZY⟩)) nb out want cache
 sp:∃ o,s=.pointer o
 opn:JY w p D L G t kc xs A F
 nb:A.nb=nb
 base:bW w0 w
 TO:bY w0
 hK:3<=w0.heap.size
 TS:w0.heap.size<=wb
 fB:∀ k,F.S k->w0.heap.size<=k
def AB.wbF {xs:aX} {A:aC} {kc:Int} (h:AB w0 w wb D L G nb t p r s xs A F out want cache kc):¬ F.S wb:=λq=>by
 have c:w.heap[wb]?=ZX (Z4 _ 42 (0,0)):=h.wbA;obtain ⟨cs,T,a,d⟩:=h.opn.arr.kind q;rw [c] at a;simp only [US,Vl] at a;have b:=a.2.1;rcases d with k|k|k|k<;>exact absurd (b.trans k) (by decide)
def PA {w2:ZU} {xs:aX} {A:aC} (h:AB w0 w3 wb D L G nb t p r s xs A F out want cache cache) (I:Dc KW w3 r Q xs out want) (w:bW w3 w4) (C:Nr w4 p D L G t cache xs A F e w2):w2.heap[wb]?=w3.heap[wb]?/\bY w2/\∃ sa,e=Z3 (ZZ #[Z6 (ZX ⟨sa,0,ZY⟩),.nilIface])/\∀ w6,bW w2 w6->MS KW (fj A) w0 (w6.setCell ⟨wb,4,ZY⟩ (Z6 (ZX ⟨sa,0,ZY⟩))) wb D L G nb t:=by
 have d:aa F.S w3 w2:=(aa.RT w _).trans C.out;have z:=ai.lt h.wbA;have y:=h.wbF;have i:=d.block _ z y;have M:=I.keep (iA.arr (B:=w3.heap.size) h.opn.arr d) lR;have:=w.size;have f:bW w0 w2:=h.base.trans (d.below λk a=>⟨T9 a h.base.size,λq=>by have:=h.fB k q;omega⟩);obtain ⟨sa,ar,J,W,n,v,sb,ps,pg,ob,P,B,hl,u,a,X,U,g⟩:=C.ans;refine ⟨i,h.TO.below f,sa,J,λw6 b=>?_⟩;have m:iz w6 wb D L G (Z6 (ZX ⟨p,0,ZY⟩)) s (Z6 (ZX ⟨r,0,ZY⟩)) nb out want cache:=ai.keep h.wbA ((b.block _ (T9 z d.size)).trans i);have c:aa (λj=>j=wb) w6 (w6.setCell ⟨wb,4,ZY⟩ (Z6 (ZX ⟨sa,0,ZY⟩))):=aa.setCell _ _ _ rfl;have K:iz (w6.setCell ⟨wb,4,ZY⟩ (Z6 (ZX ⟨sa,0,ZY⟩))) wb D L G (Z6 (ZX ⟨p,0,ZY⟩)) (Z6 (ZX ⟨sa,0,ZY⟩)) (Z6 (ZX ⟨r,0,ZY⟩)) nb out want cache:=ai.set m 4 [Z6 (ZX ⟨sa,0,ZY⟩)] (by simp [P0]);have o:iA w6.heap.size w6 (w6.setCell ⟨wb,4,ZY⟩ (Z6 (ZX ⟨sa,0,ZY⟩))):=yX m c;have:=h.base.size;have H:ZO w6 sa 105 (Z6 (ZX ⟨ar,0,ZY⟩)):=(b.block _ n.lt).trans n;have O:=(hl.below b).other c.size (λj N R=>c.block j R N) (by omega) (by omega) y (TZ h.hK h.TS) (λq=>by have:=g _ q;omega);have l:bW w0 w6:=f.trans (b.mono f.size);exact ⟨_,_,_,_,_,_,_,_,m9 sb cache D L G,ps,_,_,_,B,F,_,_,_,⟨K,o.SQ.box H lR,O,u.nb.trans h.nb,l.trans (c.below λk a=>⟨T9 a l.size,λq=>by have:=h.TS;omega⟩),h.TO,h.hK,h.TS,by omega,h.fB,by omega,λk q=>by have:=g k q;omega,⟨yS h.opn.par,λps x a=>by
  obtain ⟨E,T,ho,rfl⟩:=a;exact ⟨E,T,x,rfl⟩,G8,a⟩,λq=>by have:=g _ q;omega,⟨h.opn.c0,h.opn.c1⟩⟩,(M.keep (iA.below b _) lR).keep o lR,TY _,u⟩
def vH {xs:aX} {A:aC} (h:AB w0 w wb D L G nb t p r s xs A F out want cache cache) (g:Dc KW w r Q xs out want) :
 ZS ZN 11 #[Z6 (ZX ⟨wb,0,ZY⟩)] w λe w'=>e=Z3 (Z2 ZW)/\MS KW (fj A) w0 w' wb D L G nb t:=by
 have c:bW w w.drew:=(T6 _ w).drew;refine (J1 h.wbA h.sp (λsa w2=>w2.heap[wb]?=w.heap[wb]?/\∀ w6,bW w2 w6->MS KW (fj A) w0 (w6.setCell ⟨wb,4,ZY⟩ (Z6 (ZX ⟨sa,0,ZY⟩))) wb D L G nb t) (λ_ _ q=>q.1) ((JZ (h.opn.below c)).mono λe w2 i=>?_)).mono ?_
 . obtain ⟨j,_,sa,b,a⟩:=PA h g c i;exact ⟨sa,b,j,a⟩
 . rintro e w' ⟨b,sa,w2,w3,⟨_,a⟩,f,_,rfl⟩;exact ⟨b,(a _ f).mono lR λB d=>d⟩
section
variable {KW w0 w:ZU} {wb D L G nb t:Nat} {xs:aX} {Q:List (ByteArray×ZT)} {p r sa ar v:Nat} {Kind:bf->Prop} {ps:bf} {pg ob:ZT} {P:a8} {A:aC} {F:aH} {out want:ZT} {cache:Int}
theorem J7 (h:MB w0 w wb D L G nb t xs p r sa ar v Kind ps pg ob P A F out want cache) (V:Dc KW w r Q xs out want) (h7:8<=A.nb) (o:qD) (R:ZT) (hq:∃ H m I,R=.slice H m I) (g:o.kind=5) :
 ZS ZN 13 #[Z6 (ZX ⟨wb,0,ZY⟩),.agg #[Z7 Z9 o.kind,Z7 Z9 o.a,Z0 o.s,R]] w λe w'=>e=Z3 (Z2 ZW)/\MS KW (fj A) w0 w' wb D L G nb (t+1):=by
 obtain ⟨H,m,I,rfl⟩:=hq;obtain ⟨B,hs,C⟩:=jj o.a 65 (by decide) (by decide);have T:wrap64 ((IntKind.u64.wrap o.a).tmod 65)=(B:Int):=by simpa using C
 clear C;obtain ⟨w1,M⟩:=nM (w.alloc (Z4 #[Z7 Z9 o.kind,Z7 Z9 o.a,Z0 o.s,.slice H m I] 47));have f:=st0 h V o _ M;have hm:=Dz f.b.live.vol.arr f.b.live.n0;obtain ⟨O,x1,x2,x3⟩:=f.op.cells;have a1:=f.b.wbA.cells.2.2.2.1;obtain ⟨q0,x⟩:=nM (w.heap.size);have HS:=al f x;clear f h V;rw [g] at O M ⊢;rw [x] at O x1 x2 x3;clear g;go_enter func13,ntmps13;go_wp2_with fail;clear x M O x1 x2 x3;refine hm.mono ?_;rintro e w2 ⟨E,rfl,u,J,z⟩;clear hm a1;obtain ⟨f,x⟩:=HS.o;have l:iz w2 wb D L G (Z6 (ZX ⟨p,0,ZY⟩)) (Z6 (ZX ⟨sa,0,ZY⟩)) (Z6 (ZX ⟨r,0,ZY⟩)) nb out want cache:=ai.keep f.b.wbA (u.block _ (ai.lt f.b.wbA));obtain ⟨_,_,_,c3,_,_,_,_,_,c9⟩:=l.cells;have f3:=ai.Sa l 3;have f9:=ai.Sa l 9;have X:me w2 q0 o (.slice H m I):=by rw [<- x];exact ai.keep f.op (u.block _ f.lt)
 have y1:=X.cells.2.1;obtain ⟨c,hj⟩:=nM (w1.heap.size);rw [hj] at J z ⊢;have ha:wb<w1.heap.size:=ai.lt f.b.wbA;obtain ⟨w3,N⟩:=nM ((w2.setCell ⟨wb,3,ZY⟩ (Z6 (ZX ⟨c,0,ZY⟩))).setCell ⟨wb,9,ZY⟩ (Z7 Z9 (B:Nat)));have i:aa (λj=>j=wb) w2 w3:=by rw [<- N];exact (aa.setCell (S:=λj=>j=wb) w2 ⟨wb,3,ZY⟩ _ rfl).trans (aa.setCell (S:=λj=>j=wb) _ ⟨wb,9,ZY⟩ _ rfl)
 have Y:iz w3 wb D L G (Z6 (ZX ⟨c,0,ZY⟩)) (Z6 (ZX ⟨sa,0,ZY⟩)) (Z6 (ZX ⟨r,0,ZY⟩)) nb out want (B:Int):=by
  rw [<- N];exact ai.set (ai.set l 3 [Z6 (ZX ⟨c,0,ZY⟩)] (by simp [P0])) 9 [Z7 Z9 (B:Nat)] (by simp [P0])
 have W:az w3 c A E:=J.keep λk g=>i.block k (J.RS g) (λe=>by have:=z k g;omega);have d:=f.b;have hi:=d.base.size;have hr:=TZ d.hK d.TS;have K:bW w0 w2:=d.base.trans (u.mono hi);have y:=d.live.vol.below u lR;have Z:AB w0 w3 wb D L G nb t c r (Z6 (ZX ⟨sa,0,ZY⟩)) xs A E out want (B:Int) (B:Int):=⟨Y,⟨_,rfl⟩,⟨W,d.live.vol.n,d.live.vol.par,by omega,by omega,h7,d.live.nb,y.laid.keep (i.block _ y.laid.lt (by omega)),y.tab.keep (i.block _ y.tab.lt (by omega)),TZ y.room i.size,λq=>by have:=z _ q;have:=d.hK;omega,λq=>by have:=z _ q;have:=d.hK;omega,.inr ⟨d.live.turn,P,d.live.disk⟩,d.live.fine⟩,d.nb,K.trans (i.below λk g=>⟨by have:=K.size;omega,λq=>by have:=d.TS;omega⟩),d.TO,d.hK,d.TS,λk g=>by have:=z k g;omega⟩;have hn:=(f.c.keep (iA.below u _) lR).keep (yX l i) lR;have hp:=vH Z hn;clear f x u J z l X hj ha i Y W d hi K Z hn y hr;go_wp2_with fail;clear N;refine hp.mono ?_;rintro e w4 ⟨rfl,U⟩;have H4:=ak U;clear U hp;go_wp2;go_ret;exact ⟨rfl,H4.o.mono (by omega) λ_ q=>q⟩
end
end
section
open Go.ChangeShapes Go.WideShapes Go.Joins
def Tryz.SP:laidOutB ZN=ZW:=by kernel_rfl
def Tryz.Tc:ZN.cellsOf 47=4:=by kernel_rfl
def Tryz.SB:ZN.cellsOf 3=1:=by kernel_rfl
def Tryz.Tf:ZN.cellsOf 9=1:=by kernel_rfl
def Tryz.SI:ZN.cellsOf 40=1:=by kernel_rfl
def Tryz.SX:ZN.cellsOf 5=1:=by kernel_rfl
def Tryz.SU:ZN.bytesOf 5=1:=by kernel_rfl
instance:Inhabited qD:=⟨⟨0,0,YG,[]⟩⟩
def yY:reachBytes=140737488351232:=rfl
def aah {l:List ZT} (h:l.length=4):∃ a b c d,l=[a,b,c,d]:=by
 match l,h with
 | [a,b,c,d],_=>exact ⟨a,b,c,d,rfl⟩
def lj {P:Program} {e:ZP}:∀ {ds:List (DataW H)} {d:DataW H},d∈ds->∀ n∈d.weights P e,n∈DataW.weightsAll P e ds
 | c::ds,d,a,n,b=>by
  simp only [DataW.weightsAll,Un];rcases Uz.1 a with rfl|a
  . exact .inl b
  . exact .inr (lj a n b)
def F9 {enc:ZP×ZT->H} {v:ZT} {x:DataW H×List MemPlace} (h:DataW.trod enc ZN W 0 (λ_=>ZW) ZW n 40 [v]=ZX x) (t:∀ k∈x.1.weights ZN 40,k<=reachBytes):∃ l:a8,Bs W v l:=by
 rcases open_ints Uq Xq Tryz.SX h with ⟨c,_⟩|⟨a,len,cap,d,c,_,hl,F,C,A,g,m⟩
 . simp at c;exact ⟨[],ZY,0,c,by simp,by simp,by simp,λh=>absurd rfl h⟩
 . simp at c;simp only [if_true] at C;subst A;have w:=t (d.length*1) (by
    simp only [DataW.weights,Uq,lits,Tryz.SU];refine Uz.2 (.inl ?_);simp only [Ud,Us,Ur];omega)
   rw [yY] at w;have hll:((d.take len).map Int.toNat).length=len:=(by simp;omega);refine ⟨(d.take len).map Int.toNat,ZX a,cap,by rw [hll];exact c,by rw [hll];exact hl,by rw [hll];omega,λy B=>?_,λr=>?_⟩
   . obtain ⟨z,u,rfl⟩:=Ua.1 B;have:=bounds_u8 (m z (U2 u));omega
   . have:0<len:=by
      rcases WU len with e|e
      . subst e;exact absurd rfl r
      . exact e
     obtain ⟨b,o,sp⟩:=a;have p:=g 0 (by omega);have s:sp=ZY:=(by simpa [Addr.add] using acj p);subst s;refine ⟨b,o,rfl,λk j=>?_⟩;have q:k<len:=(by rw [hll] at j;exact j);have f:k<d.length:=(by omega);have i:=g k f;rw [WJ] at i;rw [i];have:=bounds_u8 (m _ (T8 f));simp [f,q];omega
def Ga {enc:ZP×ZT->H} {cs:List ZT} {x:DataW H×List MemPlace} (h:DataW.trod enc ZN W 0 (λ_=>ZW) ZW n 47 cs=ZX x) (i:∀ k∈x.1.weights ZN 47,k<=reachBytes) :
 ∃ o:qD×ZT,cs=[Z7 Z9 o.1.kind,Z7 Z9 o.1.a,Z0 o.1.s,o.2]/\Bs W o.2 o.1.d/\o.1.s.size<=140737488355328:=by
 obtain ⟨l,p,q,r,m,rfl,hl,t,u,w,j⟩:=trod_struct4 underlying47 h;rw [Tryz.Tc] at hl;obtain ⟨a,b,c,d,rfl⟩:=aah hl;obtain ⟨B,e,_,w0⟩:=Xu WH t;obtain ⟨C,f,_,w1⟩:=Xu WH u;obtain ⟨s,g,y,_⟩:=DataW.trod_string abJ w;rw [show ZN.cellsOf 3=1 from Tryz.SB] at e f;rw [show ZN.cellsOf 9=1 from Tryz.Tf] at g;rw [show ZN.cellsOf 40=1 from Tryz.SI] at j;simp at e f g;subst e f g;simp only [DataW.weights,underlying47] at i;obtain ⟨dl,z⟩:=F9 (v:=d) (by simpa using j) (λk A=>i k (by
  show k∈l.1.weights ZN _++(p.1.weights ZN _++(q.1.weights ZN _++(r.1.weights ZN 40++[])));simp only [Un];exact .inr (.inr (.inr (.inl A)))))
 refine ⟨(⟨B,C,s,dl⟩,d),rfl,z,?_⟩;have:=i s.size (by
  show s.size∈l.1.weights ZN _++(p.1.weights ZN _++(q.1.weights ZN 9++(r.1.weights ZN _++[])));simp only [Un];refine .inr (.inr (.inl ?_));rw [y];simp only [DataW.weights,Uz];exact .inl (show s.data.size=s.data.toList.length from Wv.symm))
 rw [yY] at this;show s.size<=_;omega
def vI {enc:ZP×ZT->H} {d:DataW H} {ps:List MemPlace} (h:DataW.Trod enc ZN W 0 (λ_=>ZW) ZW 22 (.slice ao len0 cap0) d ps) (B:∀ n∈d.weights ZN 22,n<=reachBytes) :
 ∃ l:List qD,Scr W (.slice ao len0 cap0) l/\∀ x∈l,x.s.size<=140737488355328/\x.d.length<=140737488355328:=by
 obtain ⟨fuel,g⟩:=h;rcases open_slice underlying22 g with ⟨r,_⟩|⟨a,len,cap,m,T,D,R,r,_,hl,S,A,q,z⟩
 . simp [Value.cells] at r;obtain ⟨rfl,rfl,rfl⟩:=r;exact ⟨[],⟨ZY,0,rfl,λh=>absurd rfl h⟩,λx q=>(by cases q)⟩
 . simp [Value.cells] at r;obtain ⟨rfl,rfl,rfl⟩:=r;simp only [Xe] at q;obtain ⟨rfl,_⟩:=q;simp only [DataW.weights,underlying22] at B;simp only [if_true] at A;have K:=A.symm;subst K;rw [Tryz.Tc] at z;obtain ⟨f,g⟩:=choose_lt (α:=qD×ZT) (n:=len0) (p:=λi s=>(∀ j,j<4->W.cell? ((a.add (i*4)).add j)=([Z7 Z9 s.1.kind,Z7 Z9 s.1.a,Z0 s.1.s,s.2]:List ZT)[j]?)/\Bs W s.2 s.1.d/\s.1.s.size<=140737488355328) (λi t=>by
    obtain ⟨cs',I,J⟩:=z i (by omega);obtain ⟨s,rfl,v⟩:=Ga J (λk Q=>B k (UT _ (UO _ (lj (d:=D i) (Ua.2 ⟨i,UA.2 t,rfl⟩) k Q))));obtain ⟨_,_,c⟩:=World.cells?_some I;exact ⟨s,c,v⟩)
   obtain ⟨b,o,sp⟩:=a;refine ⟨(YF len0).map λi=>(f i).1,⟨ZX ⟨b,o,sp⟩,cap0,by simp,λO=>?_⟩,λx q=>?_⟩
   . have w:0<len0:=by
      rcases WU len0 with e|e
      . subst e;exact absurd rfl O
      . exact e
     have L:=(g 0 w).1 0 (by decide);have P:sp=ZY:=by
      have:W.cell? (((⟨b,o,sp⟩:ZR).add (0*4)).add 0)=ZX (Z7 Z9 (f 0).1.kind):=L;simpa [Addr.add] using acj this
     subst P;have y:=(g 0 w).1 0 (by decide);rw [WJ,WJ] at y;refine ⟨b,o,rfl,Ui (show W.cell? _=ZX _ from y),λi t=>?_⟩;have M:i<len0:=(by simpa using t);obtain ⟨c,u,_⟩:=g i M;have C:=c 0 (by decide);have E:=c 1 (by decide);have F:=c 2 (by decide);have G:=c 3 (by decide);rw [WJ,WJ] at C E F G;simp only [UU,YI];exact ⟨(f i).2,C,E,F,G,u⟩
   . obtain ⟨i,t,rfl⟩:=Ua.1 q;obtain ⟨_,u,v⟩:=g i (by simpa using t);obtain ⟨_,_,_,_,N,_⟩:=u;exact ⟨v,N⟩
end
section
open Go.ChangeShapes Go.WideShapes Go.Joins
structure NI where
 kind:Int
 drive:Int
 block:Int
 bit:Int
 at_:Int
def NI.cs (f:NI):List ZT:=[Z7 Z9 f.kind,Z7 Z9 f.drive,Z7 Z9 f.block,Z7 Z9 f.bit,Z7 Z9 f.at_]
def Fts (w:ZU) (v:ZT) (l:List NI):Prop:=
 ∃ ao c,v=.slice ao l.length c/\(l≠[]->∃ b off,ao=ZX ⟨b,off,ZY⟩/\b<w.heap.size/\∀ i (hi:i<l.length),w.cell? ⟨b,off+i*5,ZY⟩=ZX (Z7 Z9 l[i].kind)/\w.cell? ⟨b,off+i*5+1,ZY⟩=ZX (Z7 Z9 l[i].drive)/\w.cell? ⟨b,off+i*5+2,ZY⟩=ZX (Z7 Z9 l[i].block)/\w.cell? ⟨b,off+i*5+3,ZY⟩=ZX (Z7 Z9 l[i].bit)/\w.cell? ⟨b,off+i*5+4,ZY⟩=ZX (Z7 Z9 l[i].at_))
def Tryz.Sv:ZN.cellsOf 60=5:=by kernel_rfl
instance:Inhabited NI:=⟨⟨0,0,0,0,0⟩⟩
def NJ {α:Type} {l:List α} (h:l.length=5):∃ a b c d e,l=[a,b,c,d,e]:=by
 match l,h with
 | [a,b,c,d,e],_=>exact ⟨a,b,c,d,e,rfl⟩
def wF {enc:ZP×ZT->H} {cs:List ZT} {x:DataW H×List MemPlace} (h:DataW.trod enc ZN W 0 (λ_=>ZW) ZW n 60 cs=ZX x):∃ o:NI,cs=o.cs:=by
 obtain ⟨xs,m,_,_,hl,p,f⟩:=DataW.trod_struct underlying60 h;rw [Tryz.Sv] at hl;obtain ⟨a,b,c,d,e,rfl⟩:=NJ hl;obtain ⟨q,r,s,t,u,rfl⟩:=NJ (show xs.length=5 from p);obtain ⟨v,g,_⟩:=Xu (x:=q) WH (f 0 _ rfl);obtain ⟨w,i,_⟩:=Xu (x:=r) WH (f 1 _ rfl);obtain ⟨y,j,_⟩:=Xu (x:=s) WH (f 2 _ rfl);obtain ⟨z,k,_⟩:=Xu (x:=t) WH (f 3 _ rfl);obtain ⟨A,l,_⟩:=Xu (x:=u) WH (f 4 _ rfl);simp [Tryz.SB] at g i j k l;subst g i j k l;exact ⟨⟨v,w,y,z,A⟩,rfl⟩
def vJ {enc:ZP×ZT->H} {d:DataW H} {ps:List MemPlace} (h:DataW.Trod enc ZN W 0 (λ_=>ZW) ZW 24 (.slice ao len0 cap0) d ps) :
 ∃ l:List NI,Fts W (.slice ao len0 cap0) l:=by
 obtain ⟨fuel,k⟩:=h;rcases open_slice underlying24 k with ⟨g,_⟩|⟨a,len,cap,m,L,D,I,g,_,hl,J,t,K,r⟩
 . simp [Value.cells] at g;obtain ⟨rfl,rfl,rfl⟩:=g;exact ⟨[],ZY,0,rfl,λh=>absurd rfl h⟩
 . simp [Value.cells] at g;obtain ⟨rfl,rfl,rfl⟩:=g;simp only [if_true] at t;have C:=t.symm;subst C;rw [Tryz.Sv] at r;obtain ⟨f,k⟩:=choose_lt (α:=NI) (n:=len0) (p:=λi s=>∀ j,j<5->W.cell? ((a.add (i*5)).add j)=s.cs[j]?) (λi u=>by
    obtain ⟨cs',A,B⟩:=r i (by omega);obtain ⟨s,rfl⟩:=wF B;obtain ⟨_,_,c⟩:=World.cells?_some A;exact ⟨s,c⟩)
   obtain ⟨b,o,sp⟩:=a;refine ⟨(YF len0).map f,ZX ⟨b,o,sp⟩,cap0,by simp,λF=>?_⟩;have E:0<len0:=by
    rcases WU len0 with e|e
    . subst e;exact absurd rfl F
    . exact e
   have q:=k 0 E 0 (by decide);have G:sp=ZY:=by
    have:W.cell? (((⟨b,o,sp⟩:ZR).add (0*5)).add 0)=ZX (Z7 Z9 (f 0).kind):=q;simpa [Addr.add] using acj this
   subst G;rw [WJ,WJ] at q;refine ⟨b,o,rfl,Ui (show W.cell? _=ZX _ from q),λi u=>?_⟩;have c:=k i (by simpa using u);have v:=c 0 (by decide);have w:=c 1 (by decide);have x:=c 2 (by decide);have y:=c 3 (by decide);have z:=c 4 (by decide);rw [WJ,WJ] at v w x y z;simp only [UU,YI];exact ⟨v,w,x,y,z⟩
end
section
def NP (M:List (Nat×Nat)):List ZT:=M.flatMap λm=>[Z7 Z9 (m.1:Nat),Z7 Z9 (m.2:Nat)]
def Mk (w0 w:ZU) (tv:ZT) (M:List (Nat×Nat)):Prop:=w.ownsRow w0.heap.size 82 2 tv M.length (NP M)
structure pd (S:Nat) (A B:aC):Prop where
 n:B.n=A.n
 nb:B.nb=A.nb
 rc:B.rc=A.rc
 on:A.on S->B.on S
def pd.refl (S:Nat) (A:aC):pd S A A:=⟨rfl,rfl,rfl,id⟩
def pd.trans {A B C:aC} (h:pd S A B) (k:pd S B C):pd S A C:=⟨k.n.trans h.n,k.nb.trans h.nb,k.rc.trans h.rc,λc=>k.on (h.on c)⟩
def pd.on' {d:Nat} {A B:aC} (b:S.testBit d=ZW) (h:∀ i,i≠d->B.S6 i->A.S6 i) (a:A.on S):B.on S:=λi q=>by
 by_cases e:i=d
 . rw [e];exact b
 . exact a i (h i e q)
def pd.SL {d:Nat} (A:aC) (b:Nat) (a:S.testBit d=ZW):pd S A (A.SL d b):=⟨rfl,rfl,rfl,pd.on' a λi e q=>q.imp id λ⟨m,q⟩=>⟨m,q.imp (λq=>by
 have c:(if i=d/\m=b then ZW else A.bad i m)=ZW:=q;rwa [TW λq=>e q.1] at c) id⟩⟩
def pd.turn {d:Nat} (A:aC) (b:Nat) (a:S.testBit d=ZW):pd S A (A.turn d b):=⟨rfl,rfl,rfl,(pd.SL A b a).on⟩
def pd.TQ {d:Nat} (A:aC) (a:S.testBit d=ZW):pd S A (A.TQ d):=⟨rfl,rfl,rfl,pd.on' a λi e q=>q.imp (λq=>by
 have b:(if i=d then ZW else A.lost i)=ZW:=q;rwa [TW e] at b) id⟩
def pd.renew {d:Nat} (A:aC) (b:S.testBit d=ZW):pd S A (A.renew d):=⟨rfl,rfl,rfl,pd.on' b λi e q=>by
 rcases q with q|⟨m,q|q⟩
 . have a:(if i=d then ZV else A.lost i)=ZW:=q;rw [TW e] at a;exact .inl a
 . have a:(if i=d then ZV else A.bad i m)=ZW:=q;rw [TW e] at a;exact .inr ⟨m,.inl a⟩
 . have a:(if i=d then ZW else A.bl i m)=ZW:=q;rw [TW e] at a;exact .inr ⟨m,.inr a⟩⟩
def mkK (w0 w:ZU) (k:Nat):Prop:=w0.heap.size<=k/\∃ cs,w.heap[k]?=ZX (Z4 cs 82 (0,0))
def mkK.no {cs:Array ZT} {T:ZP} {z:Nat×Nat} (h:w.heap[k]?=ZX (Z4 cs T z)) (a:T≠82):¬ mkK w0 w k:=λ⟨_,cs',e⟩=>by
 rw [h] at e;simp only [US,Vl] at e;exact a e.2.1
def a9.ruin {xs:aX} {A B:aC} (h:a9 w ar v p ps D L G t pg ob P xs A F) (x:3<=w0.heap.size) (m:az w' p B F') (o:∀ k,F'.S k->F.S k\/w.heap.size<=k) (d:aa (λk=>F.S k\/mkK w0 w k) w w') (a:pd S A B) (s:B.fine D L G):a9 w' ar v p ps D L G t pg ob P xs B F':=by
 have c:∀ k,k<w.heap.size->¬ F.S k->¬ F'.S k:=λk hl u q=>(o k q).elim u (by omega);have f:∀ k,(ar<k/\¬ F.S k/\¬ ps.bl k)->k<w.heap.size->((ar<k/\¬ F.S k/\¬ ps.bl k)/\¬ F'.S k):=λk q hl=>⟨q,c k hl q.2.1⟩;have hK:∀ k,Nm w k->((ar<k/\¬ F.S k/\¬ ps.bl k)/\¬ F'.S k)->w'.heap[k]?=w.heap[k]?:=λk c hK=>d.block k c.lt λq=>q.elim hK.1.2.1 λq=>by
  obtain ⟨cs,T,z,e,r⟩:=c;exact mkK.no e r q
 have j:w.heap[ar]?=ZX (Z4 _ 146 (0,0)):=h.arc;have l:w.heap[v]?=ZX (Z4 _ 139 (0,0)):=h.vol.vol;exact { h with fine:=s,nar:=c _ h.arc.lt h.nar,arc:=h.arc.keep (d.block _ h.arc.lt λq=>q.elim h.nar (mkK.no j (by decide))),vol:={ h.vol with vol:=h.vol.vol.keep (d.block _ h.vol.vol.lt λq=>q.elim h.vol.v (mkK.no l (by decide))),arr:=m,v:=c _ h.vol.vol.lt h.vol.v,g:=c _ h.vol.laid.lt h.vol.g,t:=c _ h.vol.tab.lt h.vol.t,laid:=h.vol.laid.keep (d.block _ h.vol.laid.lt λq=>q.elim h.vol.g λq=>by have:=q.1;omega),tab:=h.vol.tab.keep (d.block _ h.vol.tab.lt λq=>q.elim h.vol.t λq=>by have:=q.1;omega),room:=TZ h.vol.room d.size,n:=a.n.trans h.vol.n },disk:=h.disk.off a.n a.nb λb _ i=>by rw [a.rc],pgs:=((h.pgs.wk f).SF hK).wk λk q _=>⟨q.1.1,q.2,q.1.2.2⟩,cat:=((h.cat.wk f).SF hK).wk λk q _=>⟨q.1.1,q.2,q.1.2.2⟩,nb:=by rw [a.nb];exact h.nb,kit:=ps.keep _ _ h.kit λk a=>d.block k (ps.lt _ h.kit k a) λq=>q.elim (h.apt k a).2.2.2 λ⟨_,cs,e⟩=>cP h.kit e (by unfold rM;decide) a,apt:=λk a=>⟨(h.apt k a).1,(h.apt k a).2.1,(h.apt k a).2.2.1,c k (ps.lt _ h.kit k a) (h.apt k a).2.2.2⟩ }
def Mk.below {tv:ZT} (h:Mk w0 w tv M) (a:bW w w'):Mk w0 w' tv M:=an h a
def Mk.apart {tv:ZT} {A:aC} (h:Mk w0 w tv M) (c:az w p A F) {k:Nat} (f:tv.ownBlock=ZX k):¬ F.S k:=λq=>by
 obtain ⟨cs,T,d,b⟩:=c.kind q;obtain ⟨cur,a⟩:=bu h f;rw [d] at a;simp only [US,Vl] at a;have e:=a.2.1;rcases b with q|q|q|q<;>exact absurd (q.symm.trans e) (by decide)
def Mk.arr {tv:ZT} {A:aC} (h:Mk w0 w tv M) (a:az w p A F) (b:aa F.S w w'):Mk w0 w' tv M:=bR h b λk c=>h.apart a c
def Mk.mkK {ws:ZU} {tv:ZT} (h:Mk w0 w tv M) (b:aa (λk=>F.S k\/mkK w0 ws k) ws w) {k:Nat} (a:tv.ownBlock=ZX k) (hl:k<ws.heap.size):F.S k\/mkK w0 ws k:=by
 obtain ⟨cur,c⟩:=bu h a;by_cases q:F.S k\/(w0.heap.size<=k/\∃ cs,ws.heap[k]?=ZX (Z4 cs 82 (0,0)))
 . exact q
 . exact .inr ⟨dK h a,_,(b.block k hl q).symm.trans c⟩
def Tryz.Ts:(ZN.info? 82).map (λi=>(i.zero,i.size,i.bytes))=ZX (ZX (.agg #[Z7 Z9 0,Z7 Z9 0]),2,16):=by kernel_rfl
def NK:∀ (M:List (Nat×Nat)) (k:Nat) (h:k<M.length),(NP M)[k*2]?=ZX (Z7 Z9 (M[k].1:Nat))/\(NP M)[k*2+1]?=ZX (Z7 Z9 (M[k].2:Nat))
 | [],k,h=>absurd h (by simp)
 | q::M,0,_=>⟨rfl,rfl⟩
 | q::M,k+1,h=>by
  obtain ⟨a,b⟩:=NK M k (by simpa using h);have e:NP (q::M)=[Z7 Z9 (q.1:Nat),Z7 Z9 (q.2:Nat)]++NP M:=by unfold NP;rw [VQ]
  rw [e];refine ⟨?_,?_⟩
  . rw [U7 (by simp;omega),show (k+1)*2-[Value.int .i64 (q.1:Nat),Z7 Z9 (q.2:Nat)].length=k*2 by simp;omega];exact a
  . rw [U7 (by simp;omega),show (k+1)*2+1-[Value.int .i64 (q.1:Nat),Z7 Z9 (q.2:Nat)].length=k*2+1 by simp;omega];exact b
def Mk.at {ta:Option ZR} {tc ml:Nat} (h:Mk w0 w (.slice ta ml tc) M) {k:Nat} (c:k<M.length):∃ g,ta=ZX ⟨g,0,ZY⟩/\w.cell? ⟨g,k*2,ZY⟩=ZX (Z7 Z9 (M[k].1:Nat))/\w.cell? ⟨g,k*2+1,ZY⟩=ZX (Z7 Z9 (M[k].2:Nat)):=by
 rcases h.2 with ⟨e,i⟩|⟨g,cap,cur,e,_⟩
 . omega
 . simp only [VA] at e;obtain ⟨a,_,_⟩:=e;obtain ⟨d,f⟩:=NK M k c;have c1:=h.cells (g:=g) (by rw [a];rfl) _ _ d;have b:=h.cells (g:=g) (by rw [a];rfl) _ _ f;rw [jm] at c1 b;exact ⟨g,a,c1,b⟩
theorem wG (a:k<M.length) (x:Nat×Nat):(x∈M.take (k+1))↔(x∈M.take k\/M[k]=x):=by
 rw [Vg,Ue a,Un];exact or_congr Ya (by simp only [Option.toList,Vn];exact eq_comm)
structure Fq (w0 w:ZU) (S:Nat) (A:aC) (F:aH) (B:aC) (F':aH) (wr:ZU):Prop where
 out:aa (λj=>F.S j\/mkK w0 w j) w wr
 TN:pd S A B
 S3:∀ j,F'.S j->F.S j\/w.heap.size<=j
def Fq.refl (w0 w:ZU) (S:Nat) (A:aC) (F:aH):Fq w0 w S A F A F w:=⟨aa.refl _ _,pd.refl S A,λ_ q=>.inl q⟩
def Fq.trans {A B C:aC} {F5:aH} (h:Fq w0 w S A F B F' wr) (k:Fq w0 wr S B F' C F5 w5):Fq w0 w S A F C F5 w5:=by
 refine ⟨h.out.later k.out λj a q=>?_,h.TN.trans k.TN,λj q=>?_⟩
 . rcases q with q|⟨b,cs,c⟩
   . exact (h.S3 j q).elim .inl (by omega)
   . by_cases e:F.S j\/mkK w0 w j
     . exact e
     . exact .inr ⟨b,cs,(h.out.block j a e).symm.trans c⟩
 . rcases k.S3 j q with q|q
   . exact h.S3 j q
   . exact .inr (TZ h.out.size q)
structure FW (w0 w:ZU) (wb D L G nb p:Nat) (A:aC) (F:aH) (M:List (Nat×Nat)) (tv:ZT):Prop where
 wb:∃ s r out want cache,iz w wb D L G (Z6 (ZX ⟨p,0,ZY⟩)) s r nb out want cache
 ru:pX w p A F M
 mrk:Mk w0 w tv M
 n:A.n=D+L+G
 nb:A.nb=nb
 sz:w0.heap.size<=w.heap.size
def sG {a r:ZT} {A:aC} (h:iz w wb D L G a s r nb out want cache) (e:az w p A F) (f:aa (λj=>F.S j\/mkK w0 w j) w w'):iz w' wb D L G a s r nb out want cache:=by
 have c:w.heap[wb]?=ZX (Z4 _ 42 (0,0)):=h;refine ai.keep h (f.block _ (ai.lt h) λq=>q.elim (λq=>?_) (mkK.no c (by decide)));obtain ⟨cs,T,b,g⟩:=e.kind q;rw [c] at b;simp only [US,Vl] at b;have d:=b.2.1;rcases g with k|k|k|k<;>exact absurd (d.trans k) (by decide)
def FW.below {A:aC} {tv:ZT} (h:FW w0 w wb D L G nb p A F M tv) (a:bW w w'):FW w0 w' wb D L G nb p A F M tv:=by
 obtain ⟨s,r,out,want,cache,b⟩:=h.wb;exact { h with wb:=⟨s,r,out,want,cache,ai.keep b (a.block _ (ai.lt b))⟩,ru:=h.ru.keep λk c=>a.block k (h.ru.1.RS c),mrk:=h.mrk.below a,sz:=TZ h.sz a.size }
def FW.next {A B:aC} {tv:ZT} (h:FW w0 w wb D L G nb p A F M tv) (a:aa F.S w w') (e:pX w' p B F' M) (b:pd S A B) (d:∀ j,F'.S j->F.S j\/w.heap.size<=j):FW w0 w' wb D L G nb p B F' M tv/\Fq w0 w S A F B F' w':=by
 obtain ⟨s,r,out,want,cache,f⟩:=h.wb;have c:aa (λj=>F.S j\/mkK w0 w j) w w':=a.mono λ_ _=>.inl;exact ⟨⟨⟨s,r,out,want,cache,sG f h.ru.1 c⟩,e,h.mrk.arr h.ru.1 a,b.n.trans h.n,b.nb.trans h.nb,TZ h.sz a.size⟩,c,b,d⟩
def FR (w0 w:ZU) (wb D L G nb p S m n:Nat) (A:aC) (F:aH) (tv i:ZT) (wr:ZU):Prop:=∃ (k:Nat) (B:aC) (F':aH) (M:List (Nat×Nat)),k<=n/\i=Z7 Z9 (k:Nat)/\FW w0 wr wb D L G nb p B F' M tv/\Fq w0 w S A F B F' wr/\M.length<=m+k
section
variable {KW w0 ws w:ZU} {wb D L G nb t m:Nat} {xs:aX} {Q:List (ByteArray×ZT)} {p r sa ar v:Nat} {Kind:bf->Prop} {ps:bf} {pg ob:ZT} {P:a8} {A:aC} {F:aH} {out want:ZT} {cache:Int} {tv:ZT} {M:List (Nat×Nat)}
def MB.fault (h:MB w0 w wb D L G nb t xs p r sa ar v Kind ps pg ob P A F out want cache) (f:Dc KW w r Q xs out want) {w':ZU} {B:aC} {F':aH} (n:az w' p B F') (a:Fq w0 w S A F B F' w') (s:B.fine D L G):MB w0 w' wb D L G nb t xs p r sa ar v Kind ps pg ob P B F' out want cache/\Dc w' w' r Q xs out want:=by
 have b:=a.out;have d:vF w.heap.size w w':=λT g j cs hl i=>b.block j hl λq=>by
  rcases q with q|q
  . obtain ⟨cs',T',c,m⟩:=h.live.vol.arr.kind q;rw [i] at c;simp only [US,Vl] at c;have l:=c.2.1;rcases g with rfl|rfl|rfl|rfl|rfl<;>(rcases m with k|k|k|k<;>exact absurd (l.trans k) (by decide))
  . refine mkK.no i ?_ q;rcases g with rfl|rfl|rfl|rfl|rfl<;>decide
 obtain ⟨rb,rv,x⟩:=f.ref;exact ⟨{ h with wbA:=sG h.wbA h.live.vol.arr b,box:=d.box h.box lR,live:=h.live.ruin h.hK n a.S3 b a.TN s,nb:=a.TN.nb.trans h.nb,base:=h.base.trans (b.below λk u=>⟨T9 u h.base.size,λq=>q.elim (λq=>by have:=h.fB k q;omega) λq=>by have:=q.1;omega⟩),fB:=λk q=>(a.S3 k q).elim (h.fB k) λe=>TZ h.base.size e },⟨rb,rv,d.ref x lR⟩,f.rel.keep λ_ _ o=>d.ow o lR,f.ow,λ_ _ _ _ _=>rfl⟩
theorem yZ (hW:FW w0 w wb D L G nb p A F M tv) (h8:zQ D L G) (q6:0<nb) (x7:nb<=1000) {S:Nat} (hS:S<18446744073709551616) {fl:List NI} {fv:ZT} (hf:∀ wr,aa (λj=>F.S j\/mkK w0 w j) w wr->Fts wr fv fl) (hm:M.length<=m) (xc:m+fl.length<=100000) (at_:Int) :
 ZS ZN 10 #[Z6 (ZX ⟨wb,0,ZY⟩),Z7 Z8 (S:Nat),fv,Z7 Z9 at_,tv] w λe w'=>∃ xf B F' a,e=Z3 xf/\FW w0 w' wb D L G nb p B F' a xf/\Fq w0 w S A F B F' w'/\a.length<=m+fl.length:=by
 obtain ⟨N,hN⟩:=nM (D+L+G);have qs:0<N/\N<=16:=by have:=h8.d1;have:=h8.s;omega
 have qn:∀ X,ZS ZN 9 #[.agg #[Z7 Z9 (D:Nat),Z7 Z9 (L:Nat),Z7 Z9 (G:Nat)]] X λe w'=>e=Z3 (Z7 Z9 (N:Nat))/\bW X w':=λX=>by
  rw [<- hN,show ((D+L+G:Nat):Int)=(D:Int)+L+G by omega];have:=h8.d;have:=h8.l4;have:=h8.g;exact dQ (D:Int) (L:Int) (G:Int) X ⟨by omega,by omega⟩ ⟨by omega,by omega⟩ ⟨by omega,by omega⟩
 have hr:∀ x:Int,IntKind.i64.wrap x=wrap64 x:=λx=>by rw [UF];unfold wrap64;omega
 have q7:IntKind.u64.wrap (nb:Int)=(nb:Int):=by rw [Vd];omega
 have qx:IntKind.u64.wrap (N:Int)=(N:Int):=by rw [Vd];omega
 obtain ⟨fo,fp,rfl,_⟩:=hf w (aa.refl _ _);obtain ⟨xp,xq,rfl⟩:=aT hW.mrk;have H:=a6 hW hf qn hN hS;clear hf qn hW hN hS h8;go_enter func10,ntmps10;go_wp2_with fail;go_loopw [4,11] (λtv i wr=>FR w0 w wb D L G nb p S m fl.length A F tv i wr) (λ_ i _=>fl.length-(intOf i).toNat)
 case atStart=>exact ⟨0,A,F,M,T7 _,rfl,H.o.1,Fq.refl _ _ _ _ _,hm⟩
 case round=>
  obtain ⟨k,B,F',a,hk,rfl,k9,hq,ka⟩:=hrel;by_cases q4:k<fl.length;rotate_left
  . have q5:¬ (k:Int)<(fl.length:Int):=(by omega);have l:=aE k9 hq ka;clear k9 hq ka;go_wp2;go_ret;exact ⟨_,rfl,B,F',a,l.o.1,l.o.2.1,by have:=l.o.2.2;omega⟩
  obtain ⟨xk,xm,he,qi⟩:=H.o.2.1 wr hq.out;obtain ⟨fb,xi,qz,_,kg⟩:=qi (λe=>by rw [e] at q4;simp at q4);simp only [VA] at he;obtain ⟨rfl,_,rfl⟩:=he;subst qz;obtain ⟨f0,f1,f2,f3,f4⟩:=kg k q4;obtain ⟨f,qj⟩:=nM (fl[k]);rw [qj] at f0 f1 f2 f3 f4;obtain ⟨d,hd,ed⟩:=jj f.drive N qs.1 (by omega);obtain ⟨b,hb,eb⟩:=jj f.block nb q6 (by omega);obtain ⟨kb,x4,U⟩:=jj f.bit 512 (by decide) (by decide);have q5:(k:Int)<(fl.length:Int):=by omega
  obtain ⟨kind,hx⟩:∃ x,f.kind=x:=⟨_,rfl⟩;obtain ⟨drive,hc⟩:∃ x,f.drive=x:=⟨_,rfl⟩;obtain ⟨block,ha⟩:∃ x,f.block=x:=⟨_,rfl⟩;obtain ⟨bit,Y⟩:∃ x,f.bit=x:=⟨_,rfl⟩;obtain ⟨V,hs⟩:∃ x,f.at_=x:=⟨_,rfl⟩;rw [hx] at f0;rw [hc] at f1 ed;rw [ha] at f2 eb;rw [Y] at f3 U;rw [hs] at f4;have HE:=ak (show IntKind.i64.wrap ((IntKind.u64.wrap drive).tmod (N:Int))=(d:Nat) from (hr _).trans ed);have xg:IntKind.i64.wrap ((IntKind.u64.wrap block).tmod (nb:Int))=(b:Nat):=(hr _).trans eb;have xj:IntKind.i64.wrap ((IntKind.u64.wrap bit).tmod 512)=(kb:Nat):=(hr _).trans U;obtain ⟨ta,tc,x8⟩:=aT k9.mrk;subst x8;obtain ⟨ml,I⟩:=nM (a.length);obtain ⟨w1,ko⟩:=nM (wr.alloc (Z4 #[Z7 Z9 kind,Z7 Z9 drive,Z7 Z9 block,Z7 Z9 bit,Z7 Z9 V] 60));have q8:ai w1 wr.heap.size 60 [Z7 Z9 kind,Z7 Z9 drive,Z7 Z9 block,Z7 Z9 bit,Z7 Z9 V]:=by rw [<- ko];exact UN wr _
  have kx:bW wr w1:=by rw [<- ko];exact bA wr _
  obtain ⟨q,q9⟩:=nM (wr.heap.size);rw [q9] at q8;have hp:=k9.below kx;rw [I] at hp;have ki:Fq w0 w S A F B F' w1:=⟨hq.out.trans (aa.RT kx _),hq.TN,hq.S3⟩;rw [I] at ka ⊢;have r:=a7 hp ki q8 I ko q9;have HL:=ak ka;have k5:∀ w5 P K M5 qr,FW w0 w5 wb D L G nb p P K M5 qr->Fq w0 w1 S B F' P K w5->M5.length<=ml+1->FR w0 w wb D L G nb p S m fl.length A F qr (Z7 Z9 ((k:Int)+1)) w5:=λw5 P K M5 qr C E g3=>⟨k+1,P,K,M5,by omega,rfl,C,r.o.2.1.trans E,by have:=HL.o;omega⟩;have HX:=ak k5;have qq:=ak (k5 w1 B F' a _ hp (Fq.refl _ _ _ _ _) (by omega));clear k9 hq ka kg qi ed eb U qj hx hc ha Y hs hr q8 kx hp ki I ko q9 k5;by_cases qy:V=at_;rotate_left
  . go_wp2;rw [r.o.2.2.2.2.1];go_roundw
    case rel=>exact qq.out
    case measure=>simp only [intOf];omega
  subst qy;go_upto_region 6 with fail;clear f0 f1 f2 f3 f4;rw [r.o.2.2.2.2.1,r.o.2.2.2.2.2];have q1:=r.o.2.2.1.cell (j:=1) (u:=Z7 Z9 drive) rfl;obtain ⟨s0,r0,xe,xd,O,ks⟩:=r.o.1.wb;obtain ⟨c0,c1,c2,_⟩:=ks.cells;have HW:=ak ks;clear ks;go_cut [13] from 33 to 43 (λxh wx=>xh=Z7 Z9 (d:Nat)/\bW w1 wx)
  case first=>
   go_region_with (go_at_call 9;refine (H.o.2.2.1 _).mono ?_;rintro e w2 ⟨rfl,hz⟩;have H2:=ak ((T6 _ w1).drew.trans hz);have k6:ai w2 q 60 _:=r.o.2.2.1.keep (H2.o.block _ r.o.2.2.1.lt);have y1:=k6.cell (j:=1) (u:=Z7 Z9 drive) rfl;clear hz k6);all_goals (go_wp2_with fail;go_meet;case rel=>exact ⟨by rw [HE.o],H2.o⟩)
  case rest=>
   obtain ⟨rfl,hz⟩:=hcut;clear q1 c0 c1 c2 qx;have k6:ai wc q 60 _:=r.o.2.2.1.keep (hz.block _ r.o.2.2.1.lt);have y0:=k6.cell (j:=0) (u:=Z7 Z9 kind) rfl;have y2:=k6.cell (j:=2) (u:=Z7 Z9 block) rfl;have y3:=k6.cell (j:=3) (u:=Z7 Z9 bit) rfl;have h2:iz wc _ _ _ _ _ _ _ _ _ _ _:=ai.keep HW.o (hz.block _ (ai.lt HW.o));obtain ⟨_,_,_,c3,_,_,c6,_⟩:=h2.cells;clear h2 k6;have H2:=ak hz;clear hz;go_upto_region 7 with fail;go_quiet (fail);have ke:bW w1 (wc.drewN nq):=H2.o.trans ⟨rfl,rfl,rfl,TY _,λ_ _=>rfl⟩;obtain ⟨w3,kj⟩:=nM (wc.drewN nq);have d0:w3.cell? ⟨q,0,ZY⟩=ZX (Z7 Z9 kind):=(by rw [<- kj];exact y0);have d3:w3.cell? ⟨q,3,ZY⟩=ZX (Z7 Z9 bit):=(by rw [<- kj];exact y3);have e3:w3.cell? ⟨wb,3,ZY⟩=ZX (Z6 (ZX ⟨p,0,ZY⟩)):=(by rw [<- kj];exact c3);rw [kj] at ke ⊢;have t:=r.o.1.below ke;have h7:ZS ZN 17 #[Z7 Z8 (S:Nat),Z7 Z9 (d:Nat)] w3 λe w'=>e=Z3 (Z2 (S.testBit d))/\w'=w3:=(Ac S d H.o.2.2.2.2 (by omega) w3).mono λe w' h=>⟨by rw [h.1,Wy];rcases V0 (S/2^d) with e|e<;>rw [e]<;>rfl,h.2⟩;have Z:∀ P K w5,Fq w0 w3 S B F' P K w5->Fq w0 w1 S B F' P K w5:=λP K w5 g=>Fq.trans ⟨aa.RT ke _,pd.refl _ _,λ_=>.inl⟩ g;have qd:d<B.n:=(by rw [t.n,H.o.2.2.2.1];exact hd);have qc:b<B.nb:=(by rw [t.nb];exact hb);have c:=a6 ke t Z qd qc;have HS:=ak (HX.o w3 B F' a _ t (Z _ _ _ (Fq.refl _ _ _ _ _)) (by have:=r.o.2.2.2.1;omega));clear kj y0 y2 y3 c3 c6 ke H2 xg q7 t Z qd qc;by_cases Y:S.testBit d=ZW;rotate_left
   . rw [Ym.2 Y] at h7;go_wp2_with fail;refine h7.mono ?_;rintro e w4 ⟨rfl,kk⟩;obtain rfl:w3=w4:=kk.symm;clear kk h7;go_wp2;go_roundw
     case rel=>exact HS.o
     case measure=>simp only [intOf];omega
   rw [Y] at h7;have km:=ak Y;clear Y;go_wp2_with fail;refine h7.mono ?_;rintro e w4 ⟨rfl,kk⟩;obtain rfl:w3=w4:=kk.symm;clear kk h7;by_cases k0:kind=0
   . subst k0;have T:=LX c.o.2.1.ru d c.o.2.2.2.1;go_wp2_with fail;refine T.mono ?_;rintro e w5 ⟨rfl,v,y⟩;obtain ⟨C,E⟩:=c.o.2.1.next y v (pd.TQ B km.out) λ_=>.inl;have HF:=ak (HX.o w5 _ _ a _ C (c.o.2.2.1 _ _ _ E) (by have:=r.o.2.2.2.1;omega));clear v y T C E;go_wp2;go_roundw
     case rel=>exact HF.o
     case measure=>simp only [intOf];omega
   by_cases k1:kind=1
   . subst k1;have T:=IX c.o.2.1.ru d c.o.2.2.2.1;go_wp2_with fail;refine T.mono ?_;rintro e w5 ⟨rfl,y,K,v,qe⟩;obtain ⟨C,E⟩:=c.o.2.1.next y v (pd.renew B km.out) qe;have HF:=ak (HX.o w5 _ _ a _ C (c.o.2.2.1 _ _ _ E) (by have:=r.o.2.2.2.1;omega));clear v y T C E qe;go_wp2;go_roundw
     case rel=>exact HF.o
     case measure=>simp only [intOf];omega
   by_cases k2:kind=2
   . subst k2;have T:=IW c.o.2.1.ru d b c.o.2.2.2.1 c.o.2.2.2.2;go_wp2_with fail;refine T.mono ?_;rintro e w5 ⟨rfl,v,y⟩;obtain ⟨C,E⟩:=c.o.2.1.next y v (pd.SL B b km.out) λ_=>.inl;have HF:=ak (HX.o w5 _ _ a _ C (c.o.2.2.1 _ _ _ E) (by have:=r.o.2.2.2.1;omega));clear v y T C E;go_wp2;go_roundw
     case rel=>exact HF.o
     case measure=>simp only [intOf];omega
   by_cases k3:kind=3;rotate_left
   . go_wp2;go_roundw
     case rel=>exact HS.o
     case measure=>simp only [intOf];omega
   subst k3;go_wp2_with fail;go_loopw [16,17] (λdn i wx=>∃ j:Nat,j<=ml/\i=Z7 Z9 (j:Nat)/\dn=Z2 (decide ((d,b)∈a.take j))/\wx=w3) (λ_ i _=>ml-(intOf i).toNat)
   case atStart=>exact ⟨0,T7 _,rfl,by simp,rfl⟩
   case round=>
    rename ZU=>wx;obtain ⟨j,hj,rfl,rfl,rfl⟩:=hrel;by_cases x3:j<ml
    . have qk:j<a.length:=(by rw [r.o.2.2.2.1];exact x3);have qf:Mk w0 wx (.slice ta ml tc) a:=c.o.2.1.mrk;obtain ⟨g,rfl,C,E⟩:=qf.at qk;have J:=wG qk (d,b);obtain ⟨x1,qa⟩:=nM (a[j].1);obtain ⟨x2,qb⟩:=nM (a[j].2);have qg:a[j]=(x1,x2):=(by rw [<- qa,<- qb]);rw [qg] at J;simp only [Xe] at J;rw [qa] at C;rw [qb] at E;have xb:IntKind.i64.wrap ((j:Int)+1)=(j:Int)+1:=(by rw [UF];have:=HL.o;omega);have xa:(j:Int)<(ml:Int):=(by omega);clear qf qa qb qg;by_cases z:(d,b)∈a.take j
      . rw [U1 z];have l:=ak (J.2 (.inl z));clear J z;go_wp2;go_roundw
        case rel=>exact ⟨j+1,by omega,by go_num,by rw [U1 l.o],by first|rfl|exact trivial⟩
        case measure=>simp only [intOf];omega
      . rw [Vz z];by_cases q1:x1=d
        . subst q1;by_cases q2:x2=b
          . subst q2;have l:=ak (J.2 (.inr ⟨rfl,rfl⟩));clear J z;go_wp2;go_roundw
            case rel=>exact ⟨j+1,by omega,by go_num,by rw [U1 l.o],by first|rfl|exact trivial⟩
            case measure=>simp only [intOf];omega
          . have l:=ak (λe=>(J.1 e).elim z λe=>q2 e.2);have xo:¬ (x2:Int)=(b:Int):=(by omega);clear J z;go_wp2;go_roundw
            case rel=>exact ⟨j+1,by omega,by go_num,by first|(rw [Vz l.o];done)|(rw [Vz l.o];simp_all),by first|rfl|exact trivial⟩
            case measure=>simp only [intOf];omega
        . have l:=ak (λe=>(J.1 e).elim z λe=>q1 e.1);have xn:¬ (x1:Int)=(d:Int):=(by omega);clear J z;go_wp2;go_roundw
          case rel=>exact ⟨j+1,by omega,by go_num,by first|(rw [Vz l.o];done)|(rw [Vz l.o];simp_all),by first|rfl|exact trivial⟩
          case measure=>simp only [intOf];omega
    . have x5:j=ml:=(by omega);subst x5;have x6:a.take j=a:=UJ (by rw [r.o.2.2.2.1];exact TY _);rw [x6];by_cases z:(d,b)∈a
      . rw [U1 z];go_wp2;go_roundw
        case rel=>exact HS.o
        case measure=>simp only [intOf];omega
      . rw [Vz z];have qp:=LY c.o.2.1.ru d b kb c.o.2.2.2.1 c.o.2.2.2.2 x4 z;obtain ⟨im,x0,ky,kz,q3⟩:=Uu Tryz.Ts;have HT:=ak qp;clear qp;go_wp2_with fail;refine HT.o.mono ?_;rintro e w5 ⟨rfl,v,y⟩;obtain ⟨_,t,Z,_,_⟩:=c.o;have I:=r.o.2.2.2.1;have k8:Mk w0 w5 (.slice ta j tc) a:=t.mrk.arr t.ru.1 y;have qh:ai (w5.alloc (Z4 #[Z7 Z9 (d:Nat),Z7 Z9 (b:Nat)] 82)) w5.heap.size 82 [Z7 Z9 (d:Nat),Z7 Z9 (b:Nat)]:=UN w5 _;have kf:bW w5 (w5.alloc (Z4 #[Z7 Z9 (d:Nat),Z7 Z9 (b:Nat)] 82)):=bA w5 _;have k7:Src ZN 2 43 (Z5 (ZX ⟨w5.heap.size,0,ZY⟩) 1 1) 1 [Z7 Z9 (d:Nat),Z7 Z9 (b:Nat)] (w5.alloc (Z4 #[Z7 Z9 (d:Nat),Z7 Z9 (b:Nat)] 82)):=
         Vk _ underlying43 ⟨w5.heap.size,0,ZY⟩ 1 1 [Z7 Z9 (d:Nat),Z7 Z9 (b:Nat)] rfl (λj u hj=>by rw [Vp,Um];exact qh.cell hj) (λu hu=>by
          simp only [Uz,W4,or_false] at hu;rcases hu with rfl|rfl<;>rfl)
        have kr:=k8.below kf;have kp:w0.heap.size<=w5.heap.size:=TZ t.sz y.size;have l:=hide8 k8 v k7 kr kf I y kp;have x9:j<=100000:=(by have:=HL.o;omega);clear t Z I k8 v y qh k7 kr kf kp;go_wp2_with (at_builtin;refine ae _ rfl (Z1 128) (Z1 132) 43 43 rfl w0.heap.size 82 im _ 2 16 underlying43 x0 ky kz q3 rfl (.slice ta j tc) j (NP a) (by rfl) (by have h9:=l.o.2.2.2.1;unfold Mk at h9;rw [l.o.2.2.2.2.2.1] at h9;exact h9) _ (by rfl) 1 [Z7 Z9 (d:Nat),Z7 Z9 (b:Nat)] (by exact l.o.2.2.1) (by unfold maxLen;omega) (by omega) (by have h9:=l.o.2.2.2.2.2.2.2;simp;omega) ?_;intro v7 w7 kh R kv;obtain ⟨va,vc,rfl⟩:=aT kh;have H7:=al kh R;clear kh R kv);go_roundw
        case measure=>simp only [intOf];omega
        case rel=>
         obtain ⟨k8,v,k7,kr,kf,I,W,kp⟩:=l.o;obtain ⟨_,t,Z,_,_⟩:=c.o;obtain ⟨kh,R⟩:=H7.o;have qo:w5.heap.size<=w7.heap.size:=(by have:=R.size;simp at this;omega);have qm:∀ i,i<w5.heap.size->(Value.slice ta j tc).ownBlock≠ZX i->w7.heap[i]?=w5.heap[i]?:=λi Q hn=>(R.block i (by simp;omega) (λe=>hn e.symm)).trans (kf.block i Q);have kc:aa (λk=>F'.S k\/mkK w0 wx k) wx w7:=⟨R.os.trans W.os,R.tape.trans W.tape,R.output.trans W.output,TZ W.size qo,λi Q hn=>(qm i (T9 Q W.size) λe=>hn (k8.mkK (W.mono λ_ _=>.inl) e Q)).trans (W.block i Q λq=>hn (.inl q))⟩;obtain ⟨s0,r0,xe,xd,O,qv⟩:=t.wb;have e:NP (a++[(d,b)])=NP a++[Z7 Z9 (d:Nat),Z7 Z9 (b:Nat)]:=(by unfold NP;rw [Wz];rfl);exact HX.o w7 (B.turn d b) F' (a++[(d,b)]) _ ⟨⟨_,_,_,_,_,sG qv t.ru.1 kc⟩,v.keep λi Q=>qm i (v.1.RS Q) λe=>k8.apart v.1 e Q,by unfold Mk;rw [e,Uc,I];exact kh,t.n,t.nb,TZ kp qo⟩ (Z _ _ _ ⟨kc,pd.turn B b km.out,λ_=>.inl⟩) (by rw [Uc,I];exact TY _)
end
end
def PC {base:Nat} {R:eB} {lv:ZT} {xs:List ZT} (d:ag wr p R F) (g:wr.ownsRow base 3 1 lv k xs) (a:(wr.alloc o).grownBy w' lv.ownBlock) (f:∀ j,F.S j->j<base) (i:base<=wr.heap.size):ag w' p R F/\aa (λj=>base<=j) wr w':=by
 have h:wr.heap.size<=w'.heap.size:=by have:=a.size;rw [Uw] at this;omega
 have c:∀ j,j<base->w'.heap[j]?=wr.heap[j]?:=λj b=>(a.block j (by rw [Uw];omega) (λe=>by have:=dK g e.symm;omega)).trans (Uy _ _ _ (by omega));exact ⟨d.keep λj b=>c j (f j b),a.os,a.tape,a.output,h,λj _ l=>c j (by omega)⟩
structure RsI (w:ZU) (p:Nat) (R:eB) (F:aH) (k:Nat) (vals:List ZT) (wr:ZU):Prop where
 arr:ag wr p R F
 out:aa F.S w wr
 len:vals.length=k
 done:∀ i,i<k->wr.cell? ⟨F.g,i*4+3,ZY⟩=ZX (Z7 Z9 0)/\∃ r,w.cell? ⟨F.g,i*4+3,ZY⟩=ZX (Z7 Z9 r)/\vals[i]?=ZX (Z7 Z9 r)
 rest:∀ i,k<=i->wr.cell? ⟨F.g,i*4+3,ZY⟩=w.cell? ⟨F.g,i*4+3,ZY⟩
def RsR (w:ZU) (p:Nat) (R:eB) (F:aH) (lv iv:ZT) (wr:ZU):Prop:=∃ (k:Nat) (vals:List ZT),k<=R.n/\iv=Z7 Z9 k/\wr.ownsRow w.heap.size 3 1 lv k vals/\RsI w p R F k vals wr
def RsI.next {R:eB} {vals:List ZT} {x:Int} (h:RsI w p R F k vals wr) (f:wr.cell? ⟨F.g,k*4+3,ZY⟩=ZX (Z7 Z9 x)) (c:ag w' p R F) (d:aa (λj=>w.heap.size<=j) wr w') (l:F.g<w.heap.size):RsI w p R F (k+1) (vals++[Z7 Z9 x]) (w'.setCell ⟨F.g,k*4+3,ZY⟩ (Z7 Z9 0)):=by
 have a:∀ j,w'.cell? ⟨F.g,j,ZY⟩=wr.cell? ⟨F.g,j,ZY⟩:=λj=>Uo (d.block _ (h.arr.RS h.arr.sg) (Nat.not_le.2 l));refine ⟨c.count k 0,(h.out.later d λj b t=>by omega).trans (aa.setCell _ _ _ c.sg),by simp [h.len],λi m=>?_,λi m=>?_⟩
 . by_cases e:i=k
   . subst e;exact ⟨(ly ((a _).trans f) _).trans (by rw [TX rfl]),x,(h.rest i lR).symm.trans f,by rw [U7 (by have:=h.len;omega),h.len];simp⟩
   . obtain ⟨o,r,q,s⟩:=h.done i (by omega);exact ⟨(ly ((a _).trans o) _).trans (by rw [TW (by omega)]),r,q,by rw [VG (by have:=h.len;omega)];exact s⟩
 . cases hc:w'.cell? ⟨F.g,i*4+3,ZY⟩ with
   | some u=>rw [ly hc,TW (by omega),<- hc,a,h.rest i (by omega)]
   | none=>
    rw [<- h.rest i (by omega),<- a,hc];obtain ⟨cs,b,_⟩:=c.TA;have n:(w'.setCell ⟨F.g,k*4+3,ZY⟩ (Z7 Z9 0)).heap[F.g]?=ZX (Z4 (cs.setIfInBounds (k*4+3) (Z7 Z9 0)) 79 (0,0)):=(by simp [World.setCell,Vw,b]);simp only [World.cell?,b] at hc;simp only [World.cell?,n];simp only [Option.isSome_none,Bool.false_eq_true,if_false] at hc ⊢;rw [Yt,TW (by omega)];exact hc
theorem Gb {A:aC} (h:az w p A F) :
 ZS ZN 12 #[Z6 (ZX ⟨p,0,ZY⟩)] w λe w'=>∃ v vals,e=Z3 v/\w'.ownsRow w.heap.size 3 1 v A.n vals/\az w' p A F/\aa F.S w w'/\PJ w' F A.n (λ_=>0)/\∀ c,PJ w F A.n c->∀ i,i<A.n->∃ r:Int,vals[i]?=ZX (Z7 Z9 r)/\r<=c i:=by
 obtain ⟨R,h,m⟩:=h;obtain ⟨i0,N,T,U,V⟩:=Uu Tryz.Sk;obtain ⟨c0,_⟩:=h.RX;have hn:=h.n;have M:=h.RS h.sg;have y:RsR w p R F (Z5 ZY 0 0) (Z7 Z9 (0:Nat)) w:=⟨0,[],T7 _,rfl,UP _ _ _ _,h,aa.refl _ _,rfl,λi f=>absurd f (XH _),λ_ _=>rfl⟩;have H:=aE y (λj (W:F.S j)=>h.RS W) m;clear y h m;go_enter func12,ntmps12;go_wp2;go_loopw [3,10] (λlv t wr=>RsR w p R F lv t wr) (λ_ t _=>R.n-(intOf t).toNat)
 case atStart=>exact H.o.1
 case round=>
  clear c0;rename ZU=>wr;obtain ⟨k,vals,hk,rfl,d,a⟩:=hrel;have X:=a.out.size;by_cases z:k<R.n
  . obtain ⟨c0,_⟩:=a.arr.RX;obtain ⟨G,d1,I,x,J⟩:=a.arr.R8 k z;have l:=aE d a J;clear G d1 I a;go_wp2_with (at_builtin;refine XZ _ rfl (Z1 13) (Z1 22) 48 rfl w.heap.size 3 i0 (Z7 Z9 0) 1 8 Yi N T U V rfl (by decide) _ k _ rfl (d.alloc _) ⟨wr.heap.size,0,ZY⟩ 1 1 _ rfl rfl (lB wr _ _) (by intro u C;simp at C;subst C;rfl) (by unfold maxLen;omega) (by omega) (by simp;omega) ?_;intro v' w' ho B K L;obtain ⟨b,s⟩:=PC l.o.2.1.arr l.o.1 B H.o.2.1 X;obtain ⟨y0,_⟩:=b.RX;obtain ⟨ry,y3⟩:=(b.R8 k z).2.2.2;have yf:=b.R9 (k*4+3);have E:=aE ho b s;clear ho B K L b s);go_roundw
    case rel=>
     obtain ⟨ho,b,s⟩:=E.o;obtain ⟨_,a,Z⟩:=l.o;have P:v'.ownBlock≠ZX F.g:=λe=>by have:=dK ho e;omega
     exact ⟨k+1,_,by omega,by go_num,bR ho (aa.setCell (S:=λj=>j=F.g) _ ⟨F.g,k*4+3,ZY⟩ _ rfl) (λq Y e=>P (e▸Y)),a.next Z b s M⟩
    case measure=>simp [intOf]<;>omega
  . have O:k=R.n:=(by omega);subst O;have l:=al d a;clear d a;go_wp2;go_ret;obtain ⟨d,a⟩:=l.o;have m:=H.o.2.2;rw [<- m.n];refine ⟨_,vals,rfl,d,⟨R,a.arr,m⟩,a.out,λi f=>⟨0,(a.done i f).1,by decide,Int.le_refl _⟩,λc Q i f=>?_⟩;obtain ⟨r,q1,_,q3⟩:=Q i f;obtain ⟨_,r',D,q4⟩:=a.done i f;rw [q1] at D;cases D;exact ⟨r,q4,q3⟩
section
def Fts.keep {v:ZT} {l:List NI} (h:Fts w v l) (d:bW w wr):Fts wr v l:=by
 obtain ⟨ao,c,e,h⟩:=h;refine ⟨ao,c,e,λhl=>?_⟩;obtain ⟨b,off,f,a,g⟩:=h hl;refine ⟨b,off,f,T9 a d.size,λi j=>?_⟩;obtain ⟨k,m,n,o,q⟩:=g i j;exact ⟨(d.cell (p:=⟨b,off+i*5,ZY⟩) a).trans k,(d.cell (p:=⟨b,off+i*5+1,ZY⟩) a).trans m,(d.cell (p:=⟨b,off+i*5+2,ZY⟩) a).trans n,(d.cell (p:=⟨b,off+i*5+3,ZY⟩) a).trans o,(d.cell (p:=⟨b,off+i*5+4,ZY⟩) a).trans q⟩
def PD (l:List qD) (k:Nat) (a:k<l.length):l[k].d.length<=gz l:=by
 have:=rm l k a;have:=DD l (k+1);omega
def PE (S:Nat) (M:List (Nat×Nat)) (A:aC):Prop:=A.on S/\∀ i b,A.tn i b=ZW->(i,b)∈M
def PE.alk {A B:aC} (h:PE S M A) (k:fj A B):PE S M B:=⟨k.on h.1,λi b q=>h.2 i b (by rw [<- k.tn];exact q)⟩
def DM {tv:ZT} {fl:List NI} (h:MS KW (PE S M) w0 wr wb D L G nb T) (u:Mk w0 wr tv M) (C:M.length<=m) (x:gW D L G S) (H:S<18446744073709551616) (J:Fts w fv fl) (y:bW w w0) (I:m+fl.length<=100000) (i:0<nb) (j:nb<=1000) (at_:Int) :
 ZS ZN 10 #[Z6 (ZX ⟨wb,0,ZY⟩),Z7 Z8 (S:Nat),fv,Z7 Z9 at_,tv] wr λe w'=>∃ b c,e=Z3 b/\MS w' (PE S c) w0 w' wb D L G nb T/\Mk w0 w' b c/\c.length<=m+fl.length:=by
 obtain ⟨t,xs,Q,p,r,sa,ar,v,Kind,ps,pg,ob,P,A,F,out,want,cache,a,z,N,d⟩:=h;have s:FW w0 wr wb D L G nb p A F M tv:=⟨⟨_,_,_,_,_,a.wbA⟩,⟨a.live.vol.arr,d.2⟩,u,a.live.vol.n,a.nb,a.base.size⟩;refine (yZ s a.live.vol.par i j H (λwx E=>(J.keep y).keep (a.base.trans (E.below λk K=>⟨T9 K a.base.size,λq=>q.elim (λq=>by have:=a.fB k q;omega) λq=>by have:=q.1;omega⟩))) C I at_).mono ?_;rintro e w' ⟨b,B,F',c,rfl,f,g,hl⟩;obtain ⟨l,o⟩:=a.fault z f.ru.1 g ⟨S,x,g.TN.on d.1⟩;exact ⟨b,c,rfl,⟨_,_,_,_,_,_,_,_,_,_,_,_,_,_,_,_,_,_,l,o,N,g.TN.on d.1,f.ru.2⟩,f.mrk,hl⟩
section
variable {KW w0 w:ZU} {wb D L G nb t:Nat} {xs:aX} {Q:List (ByteArray×ZT)} {p r sa ar v:Nat} {Kind:bf->Prop} {ps:bf} {pg ob:ZT} {P:a8} {A:aC} {F:aH} {out want:ZT} {cache:Int}
def DN (h:MB w0 w wb D L G nb t xs p r sa ar v Kind ps pg ob P A F out want cache) (b:Dc KW w r Q xs out want) :
 ZS ZN 12 #[Z6 (ZX ⟨p,0,ZY⟩)] w λe w'=>∃ u vals,e=Z3 u/\w'.ownsRow w.heap.size 3 1 u A.n vals/\MB w0 w' wb D L G nb t xs p r sa ar v Kind ps pg ob P A F out want cache/\Dc KW w' r Q xs out want/\aa F.S w w'/\PJ w' F A.n (λ_=>0)/\∀ c,PJ w F A.n c->∀ i,i<A.n->∃ r:Int,vals[i]?=ZX (Z7 Z9 r)/\r<=c i:=by
 refine (Gb h.live.vol.arr).mono ?_;rintro e w' ⟨u,vals,rfl,ho,f,a,g,j⟩;obtain ⟨d,_⟩:=h.fault (S:=0) b f ⟨a.mono λ_ _=>.inl,pd.refl _ _,λ_=>.inl⟩ h.live.fine;exact ⟨u,vals,rfl,ho,d,b.keep (iA.arr (B:=w.heap.size) h.live.vol.arr a) lR,a,g,j⟩
def StD (KW w0 w:ZU) (wb D L G nb T:Nat) (A:aC) (o:qD):Prop:=∃ t xs Q p r sa ar v Kind ps pg ob P B F out want cache,MB w0 w wb D L G nb t xs p r sa ar v Kind ps pg ob P B F out want cache/\Dc KW w r Q xs out want/\t<=T/\fj A B/\(o.kind=2->∃ c,PJ w F B.n (λ_=>c)/\CnR D xs o.s c)
def NL (f:MB w0 w wb D L G nb t xs p r sa ar v Kind ps pg ob P A F out want cache) (g:Dc KW w r Q xs out want) (o:qD) (b:ZT) (C:Bs w0 b o.d) (V:o.d.length<=100000) (ht:t<=T) (hT:T<1000000) (R:D<=6) (O:8<=nb) (ha:o.kind<=5) (W:PJ w F A.n λ_=>0) :
 ZS ZN 13 #[Z6 (ZX ⟨wb,0,ZY⟩),.agg #[Z7 Z9 o.kind,Z7 Z9 o.a,Z0 o.s,b]] w λe w'=>e=Z3 (Z2 ZW)/\StD KW w0 w' wb D L G nb (T+1) A o:=by
 have h:∃ u m x,b=.slice u m x:=by obtain ⟨u,x,e,_⟩:=C;exact ⟨u,_,x,e⟩
 by_cases k2:o.kind=2
 . refine (DK f g o b h k2).mono ?_;rintro e w' ⟨rfl,⟨_,_,_,_,_,_,J,S⟩,_,c,Y,U⟩;refine ⟨rfl,_,_,_,_,_,_,_,_,_,_,_,_,_,_,_,_,_,_,J,S,by omega,fj.refl A,λ_=>⟨c,λi X=>?_,U⟩⟩;obtain ⟨y,q1,q2,q3⟩:=Y _ W i X;exact ⟨y,q1,q2,by have H:y<=((0+c:Nat):Int):=q3;rw [Um] at H;exact H⟩
 have j:∀ (e:ZQ) (w':ZU),e=Z3 (Z2 ZW)/\MS KW (fj A) w0 w' wb D L G nb (t+1)->e=Z3 (Z2 ZW)/\StD KW w0 w' wb D L G nb (T+1) A o:=by
  rintro e w' ⟨rfl,t',xs',Q',p',y,he,I,v',l,ps',hc,hb,P',B,F',E,z,k,K,M,h3,N⟩;exact ⟨rfl,_,_,_,_,_,_,_,_,_,_,_,_,_,_,_,_,_,_,K,M,by omega,N,λq=>absurd q k2⟩
 by_cases Z:o.kind<1\/6<o.kind
 . exact (J6 f g o b h Z (fj.refl A)).mono j
 by_cases k1:o.kind=1
 . exact (NF f g o b C V (by omega) R k1).mono j
 by_cases k3:o.kind=3
 . exact (NC f g o b h (by omega) k3).mono j
 by_cases k4:o.kind=4
 . exact (yW f g o b h k4 (fj.refl A)).mono j
 . exact (J7 f g (by rw [f.nb];exact O) o b h (by omega)).mono j
def Gc (h:MB w0 w wb D L G nb t xs p r sa ar v Kind ps pg ob P A F out want cache) (b:Dc KW w r Q xs out want) (a:8<=nb) :
 ZS ZN 11 #[Z6 (ZX ⟨wb,0,ZY⟩)] w λe w'=>e=Z3 (Z2 ZW)/\MS KW (fj A) w0 w' wb D L G nb t:=
 vH ⟨h.wbA,⟨_,rfl⟩,⟨h.live.vol.arr,h.live.vol.n,h.live.vol.par,h.cb.1,h.cb.2,by rw [h.nb];exact a,h.live.nb,h.live.vol.laid,h.live.vol.tab,h.live.vol.room,h.live.vol.g,h.live.vol.t,.inr ⟨h.live.turn,P,h.live.disk⟩,h.live.fine⟩,h.nb,h.base,h.TO,h.hK,h.TS,h.fB⟩ b
def NM (n:ja w Q xs) (o:Up xs.names) (r:∀ x∈xs,jR D x) (x:ByteArray) {c:Nat} (d:CnR D xs x c):∃ ao m g k,(∀ e,Lz Q x e->e=Z3 (ZZ #[.slice ao m g,Z7 Z9 k]))/\m<=1500/\c<=m/(D*44)+1:=by
 have f:∀ X∈xs,X.1.name=x->c<=X.2.length/(D*44)+1->∃ ao m g k,(∀ e,Lz Q x e->e=Z3 (ZZ #[.slice ao m g,Z7 Z9 k]))/\m<=1500/\c<=m/(D*44)+1:=by
  rintro X f rfl hl;obtain ⟨u,a,⟨base,ho⟩,_,b⟩:=Hc n o r f;obtain ⟨s,t,rfl⟩:=aT ho;exact ⟨s,_,t,0,a,b,hl⟩
 rcases d with d|⟨X,a,b,p⟩
 . by_cases l:x∈xs.names
   . obtain ⟨X,a,b⟩:=DJ l;exact f X a b (TZ d (Yl (T7 _)))
   . by_cases j:eI x
     . exact ⟨ZY,0,0,9,λe i=>by
        rcases i with ⟨q,_⟩|⟨_,_,h⟩|⟨_,k,q,_⟩
        . exact absurd j q
        . exact h
        . exact absurd (iZ n o q).2.2 l,by decide,TZ d (Yl (T7 _))⟩
     . exact ⟨ZY,0,0,6,λe i=>by
        rcases i with ⟨_,h⟩|⟨q,_⟩|⟨q,_⟩
        . exact h
        . exact absurd q j
        . exact absurd q j,by decide,TZ d (Yl (T7 _))⟩
 . exact f X a b p
def Dc.Sp (h:Dc KW w r Q xs out want):Dc w w r Q xs out want:=⟨h.ref,h.rel,h.ow,λ_ _ _ _ _=>rfl⟩
end
end
def abt (w5:ZU) (N:Nat) (sv iv:ZT) (wr:ZU):Prop:=∃ S k:Nat,sv=Z7 Z8 (S:Nat)/\S<18446744073709551616/\k<=N/\iv=Z7 Z9 (k:Nat)/\bW w5 wr
def PF (D L G:Nat) (w:ZU) (e:ZQ) (w':ZU):Prop:=∃ S:Nat,e=Z3 (Z7 Z8 (S:Nat))/\S<18446744073709551616/\gW D L G S/\bW w w'
theorem Gd (a:zQ D L G) (f:Nat) (R:f<18446744073709551616) (w:ZU) :
 ZS ZN 7 #[.agg #[Z7 Z9 (D:Nat),Z7 Z9 (L:Nat),Z7 Z9 (G:Nat)],Z7 Z8 (f:Nat)] w (PF D L G w):=by
 have H:bW w (w.alloc (Z4 #[Z7 Z9 (D:Nat),Z7 Z9 (L:Nat),Z7 Z9 (G:Nat)] 27)):=bA w _;have b:ai (w.alloc (Z4 #[Z7 Z9 (D:Nat),Z7 Z9 (L:Nat),Z7 Z9 (G:Nat)] 27)) w.heap.size 27 [Z7 Z9 (D:Nat),Z7 Z9 (L:Nat),Z7 Z9 (G:Nat)]:=UN w _;obtain ⟨w1,k5⟩:=nM (w.alloc (Z4 #[Z7 Z9 (D:Nat),Z7 Z9 (L:Nat),Z7 Z9 (G:Nat)] 27));rw [k5] at H b;obtain ⟨q,hq⟩:=nM (w.heap.size);have K:=ak H;rw [hq] at b;have p0:=b.cell (j:=0) (u:=Z7 Z9 (D:Nat)) rfl;have p1:=b.cell (j:=1) (u:=Z7 Z9 (L:Nat)) rfl;have p2:=b.cell (j:=2) (u:=Z7 Z9 (G:Nat)) rfl;have k0:=Ei (D:Int) (L:Int) (G:Int) w1;have M:=ak b;clear b H;go_enter func7,ntmps7;go_wp2_with fail;clear p0 p1 p2;refine k0.mono ?_;rintro e w2 ⟨rfl,p⟩;clear k0 k5;have I:=M.o.keep (p.block _ M.o.lt);have t:bW w2 (w2.alloc (Z4 #[Z7 Z9 (D:Int),Z7 Z9 (L:Int),Z7 Z9 (G:Int)] 70)):=bA w2 _;have x:ai (w2.alloc (Z4 #[Z7 Z9 (D:Int),Z7 Z9 (L:Int),Z7 Z9 (G:Int)] 70)) w2.heap.size 70 [Z7 Z9 (D:Int),Z7 Z9 (L:Int),Z7 Z9 (G:Int)]:=UN w2 _;obtain ⟨w3,k6⟩:=nM (w2.alloc (Z4 #[Z7 Z9 (D:Int),Z7 Z9 (L:Int),Z7 Z9 (G:Int)] 70));rw [k6] at t x;obtain ⟨q2,ke⟩:=nM (w2.heap.size);rw [ke] at x;have v:=I.keep (t.block _ I.lt);have c0:=v.cell (j:=0) (u:=Z7 Z9 (D:Nat)) rfl;have c1:=v.cell (j:=1) (u:=Z7 Z9 (L:Nat)) rfl;have c2:=v.cell (j:=2) (u:=Z7 Z9 (G:Nat)) rfl;have Q:=ak (K.o.trans ((p.trans (t.mono p.size)).mono K.o.size));have C:=ak x;obtain ⟨N,hN⟩:=nM (D+L+G);have O:N<=16:=by have:=a.s;omega
 have hz:ZS ZN 9 #[.agg #[Z7 Z9 (D:Nat),Z7 Z9 (L:Nat),Z7 Z9 (G:Nat)]] w3 λe w'=>e=Z3 (Z7 Z9 (N:Nat))/\bW w3 w':=by
  rw [<- hN,show ((D+L+G:Nat):Int)=(D:Int)+L+G by omega];have:=a.d;have:=a.l4;have:=a.g;exact dQ (D:Int) (L:Int) (G:Int) w3 ⟨by omega,by omega⟩ ⟨by omega,by omega⟩ ⟨by omega,by omega⟩
 clear I v p t x;go_wp2_with fail;clear k6 c0 c1 c2;refine hz.mono ?_;rintro e w4 ⟨rfl,V⟩;have l:=ak V;clear hz V;have hy:2^N<=2^16:=U9 (by decide) O;obtain ⟨X,F⟩:=nM (2^N);rw [F] at hy;have k7:(2:Int)^N=(X:Nat):=by rw [<- F,XE];rfl
 have ka:0<X:=by rw [<- F];exact Wh N
 have k8:IntKind.u64.wrap ((X:Int)-1)=((X-1:Nat):Int):=by rw [Vd];omega
 have k9:IntKind.u64.wrap (X:Int)=(X:Int):=by rw [Vd];omega
 have U:=fI f (X-1) R (by omega);have E:f &&& (X-1)<18446744073709551616:=Xj WT R;obtain ⟨S1,T⟩:=nM (f &&& (X-1));rw [T] at U E;clear T;go_wp2_with fail;go_loopw [1,7] (λsv J wr=>abt w4 N sv J wr) (λ_ J _=>N-(intOf J).toNat)
 case atStart=>exact ⟨S1,0,rfl,E,T7 _,rfl,T6 _ _⟩
 case round=>
  clear U k7 k8 k9 hy ka E;obtain ⟨S,k,rfl,A,hk,rfl,h⟩:=hrel;have m:bW w wr:=Q.out.trans ((l.out.trans (h.mono l.out.size)).mono Q.out.size);by_cases kc:k<N
  . have y:=C.o.keep ((h.block _ (T9 C.o.lt l.out.size)).trans (l.out.block _ C.o.lt));have t0:=y.cell (j:=0) (u:=Z7 Z9 (D:Int)) rfl;have t1:=y.cell (j:=1) (u:=Z7 Z9 (L:Int)) rfl;have t2:=y.cell (j:=2) (u:=Z7 Z9 (G:Int)) rfl;have hs:=pS D L G S a.r a.d a.l1 a.l4 a.g a.div A wr;have c:=al h m;have he:(k:Int)<(N:Int):=(by omega);clear h m y;go_wp2_with fail;clear t0 t1 t2;refine hs.mono ?_;rintro e w5 ⟨bb,rfl,Z,W⟩;have B:=al Z W;clear Z W hs;cases bb
    . have kb:2^k<65536:=T9 (VS (by decide) kc) (U9 (n:=2) (i:=N) (j:=16) (by decide) O);obtain ⟨Y,P⟩:=nM (2^k);rw [P] at kb;have kf:(2:Int)^k=(Y:Nat):=(by rw [<- P,XE];rfl);have kg:IntKind.u64.wrap (Y:Int)=(Y:Int):=(by rw [Vd];omega);have hv:=YC S Y A (by omega);have hx:DR S Y<18446744073709551616:=Xj (WT:DR S Y<=S) A;have hc:bits .andNot .u64 (S:Int) (Y:Int)=((DR S Y:Nat):Int):=hv;clear hv;generalize DR S Y=z at hc hx;go_wp2;go_roundw
      case rel=>exact ⟨z,k+1,rfl,hx,by omega,by go_num,c.o.1.trans (B.o.2.mono c.o.1.size)⟩
      case measure=>simp [intOf];omega
    . go_wp2;go_ret;exact ⟨S,rfl,A,B.o.1.1 (by trivial),c.o.2.trans (B.o.2.mono c.o.2.size)⟩
  . have he:¬ (k:Int)<(N:Int):=(by omega);have c:=ak m;clear h m;go_wp2;go_ret;exact ⟨0,rfl,by decide,JX a.d a.g λi _=>by rw [Nat.zero_div],c.o⟩
def DgR (w0:ZU) (wb D L G nb S n:Nat) (ok tv i:ZT) (wr:ZU):Prop:=∃ (k:Nat) (M:List (Nat×Nat)),k<=n/\i=Z7 Z9 (k:Nat)/\ok=Z2 ZW/\Mk w0 wr tv M/\M.length<=200*(k+1)/\MS wr (PE S M) w0 wr wb D L G nb (1+k)
def aai (w:ZU) (e:ZQ) (w':ZU):Prop:=e=Z3 (Z2 ZW)/\bW w w'
theorem PG {sv:ZT} {l:List qD} {fl:List NI} (h:Scr w sv l) (hs:∀ x∈l,x.s.size<=140737488355328/\x.d.length<=140737488355328) (a b c bk:Int) (S0:Nat) (z2:S0<18446744073709551616) (hf:Fts w fv fl) (hg:bY w) (hv:bh w) (ht:aJ w) (hK:3<=w.heap.size) :
 ZS ZN 3 #[sv,Z7 Z9 a,Z7 Z9 b,Z7 Z9 c,Z7 Z9 bk,Z7 Z8 (S0:Nat),fv] w (aai w):=by
 have yx:=J0 h hs;obtain ⟨ao,cp,rfl,k9⟩:=h;have yg:=hf;obtain ⟨fo,fp,rfl,z6⟩:=hf;obtain ⟨kb,zg,zp⟩:=jj bk 300 (by decide) (by decide);have qm:∀ x:Int,IntKind.i64.wrap x=wrap64 x:=λx=>by rw [UF];unfold wrap64;omega
 have qr:wrap64 ((IntKind.u64.wrap bk).tmod 300)=(kb:Int):=by simpa using zp
 have b5:IntKind.i64.wrap ((IntKind.u64.wrap bk).tmod 300)=(kb:Int):=(qm _).trans qr;have H:=a6 k9 yg hg hv ht;clear k9 z6 hg hv ht hs zp qm yg;go_enter func3,ntmps3;go_wp2_with fail;refine yx.mono ?_;rintro e w1 ⟨bb,rfl,x8,ya⟩;have H1:=ak ya;clear yx ya;by_cases xe:bb=ZW/\fl.length<=200;rotate_left
 . clear x8;cases bb with
   | false=>
    go_wp2;go_ret;exact ⟨rfl,H1.o⟩
   | true=>
    have hx:(200:Int)<(fl.length:Int):=by
     have:¬ fl.length<=200:=λq=>xe ⟨rfl,q⟩;omega
    clear xe;go_wp2;go_ret;exact ⟨rfl,H1.o⟩
 obtain ⟨rfl,zf⟩:=xe;obtain ⟨yj,xh⟩:=x8 rfl;clear x8;go_wp2_with fail;refine (Pr a b c w1).mono ?_;rintro e w2 ⟨D,L,G,rfl,hP,z0,yb⟩;have H2:=al hP (H1.o.trans (yb.mono H1.o.size));have ye:=λw'=>Gd hP S0 z2 w';clear hP yb;obtain ⟨w3,xk⟩:=nM (w2.alloc (Z4 #[Z7 Z9 (D:Nat),Z7 Z9 (L:Nat),Z7 Z9 (G:Nat)] 27));have yc:bW w w3:=by rw [<- xk];exact H2.o.2.alloc H2.o.2.size _
 have ks:ai w3 w2.heap.size 27 [Z7 Z9 (D:Nat),Z7 Z9 (L:Nat),Z7 Z9 (G:Nat)]:=by rw [<- xk];exact UN w2 _
 have p0:=ks.cell (j:=0) (u:=Z7 Z9 (D:Nat)) rfl;have p1:=ks.cell (j:=1) (u:=Z7 Z9 (L:Nat)) rfl;have p2:=ks.cell (j:=2) (u:=Z7 Z9 (G:Nat)) rfl;go_wp2_with fail;clear p0 p1 p2;obtain ⟨pb,J⟩:=nM (w2.heap.size);rw [J] at ks ⊢;have H3:=al yc ks;clear yc xk ks J;refine (ye w3).mono ?_;rintro e w4 ⟨S,rfl,hS,y7,x7⟩;clear ye;have q7:bW w w4:=H3.o.1.trans (x7.mono H3.o.1.size);have I:=H3.o.2.keep (x7.block _ H3.o.2.lt);have p0:=I.cell (j:=0) (u:=Z7 Z9 (D:Nat)) rfl;have p1:=I.cell (j:=1) (u:=Z7 Z9 (L:Nat)) rfl;have p2:=I.cell (j:=2) (u:=Z7 Z9 (G:Nat)) rfl;obtain ⟨nb,zi⟩:=nM (8+kb);have z9:8+(kb:Int)=(nb:Int):=by omega
 have hr:=H2.o.1;have yv:=yP (D:Int) (L:Int) (G:Int) w4 ⟨by omega,by have:=hr.d;omega⟩ ⟨by omega,by have:=hr.l4;omega⟩ ⟨by omega,by have:=hr.g;omega⟩;have f:=aE q7 y7 I;clear x7 q7 I y7 hr;go_wp2_with fail;refine yv.mono ?_;rintro e w5 ⟨rfl,k7⟩;have Y:bW w4 w5:=by rw [k7];exact bA w4 _
 clear k7 p0 p1 p2 yv;have xd:=zZ (D+L+G) nb w5 (by have:=H2.o.1.d1;omega) (by have:=H2.o.1.s;omega) (by omega);rw [show ((D+L+G:Nat):Int)=(D:Int)+(L:Int)+(G:Int) by omega] at xd;go_wp2_with fail;refine xd.mono ?_;rintro e w6 ⟨rfl,yd,F,V,U⟩;have h1:bW w4 w6:=Y.trans (yd.mono Y.size);have kh:=f.o.2.2.keep (h1.block _ f.o.2.2.lt);have y0:=kh.cell (j:=0) (u:=Z7 Z9 (D:Nat)) rfl;have y1:=kh.cell (j:=1) (u:=Z7 Z9 (L:Nat)) rfl;have y2:=kh.cell (j:=2) (u:=Z7 Z9 (G:Nat)) rfl;obtain ⟨p,hp⟩:=nM (w5.heap.size);rw [hp] at V U ⊢;have I:w4.heap.size<=p:=by rw [<- hp];exact Y.size
 have H6:=a6 V U h1 kh I;clear V U h1 kh hp xd Y yd I qr b5;dsimp only;go_wp2_with fail;obtain ⟨E,qn⟩:=nM ((w6.alloc (Z4 #[Z5 ZY 0 0] 38)).alloc (Z4 #[Z7 Z9 (D:Nat),Z7 Z9 (L:Nat),Z7 Z9 (G:Nat),Z6 (ZX ⟨p,0,ZY⟩),.pointer ZY,Z6 (ZX ⟨w6.heap.size,0,ZY⟩),Z7 Z9 (nb:Nat),Z5 ZY 0 0,Z5 ZY 0 0,Z7 Z9 3] 42));have ki:E.heap[w6.heap.size]?=ZX (Z4 #[Z5 ZY 0 0] 38 (0,0)):=by rw [<- qn];exact (Uy _ _ _ (by simp)).trans (UN w6 _)
 have ko:iz E (w6.heap.size+1) D L G (Z6 (ZX ⟨p,0,ZY⟩)) (.pointer ZY) (Z6 (ZX ⟨w6.heap.size,0,ZY⟩)) nb (Z5 ZY 0 0) (Z5 ZY 0 0) (3:Int):=by
  rw [<- qn];have:=UN (w6.alloc (Z4 #[Z5 ZY 0 0] 38)) (Z4 #[Z7 Z9 (D:Nat),Z7 Z9 (L:Nat),Z7 Z9 (G:Nat),Z6 (ZX ⟨p,0,ZY⟩),.pointer ZY,Z6 (ZX ⟨w6.heap.size,0,ZY⟩),Z7 Z9 (nb:Nat),Z5 ZY 0 0,Z5 ZY 0 0,Z7 Z9 3] 42);rw [Uw] at this;exact this
 have k5:bW w6 E:=by rw [<- qn];exact (bA w6 _).alloc (by simp) _
 obtain ⟨V,U,h1,kh,I⟩:=H6.o;have kj:az E p (tJ (D+L+G) nb) F:=V.below k5 lR;have h2:bW w4 E:=h1.trans (k5.mono h1.size);have xy:FW w4 E (w6.heap.size+1) D L G nb p (tJ (D+L+G) nb) F [] (Z5 ZY 0 0):=⟨⟨_,_,_,_,_,ko⟩,⟨kj,λi b q=>(by cases q)⟩,UP _ _ _ _,rfl,rfl,h2.size⟩;have h4:∀ wx,aa (λj=>F.S j\/mkK w4 E j) E wx->bW w4 wx:=λwx hO=>h2.trans (hO.below λk K=>⟨T9 K h2.size,λq=>q.elim (λq=>by have:=U k q;omega) λq=>by have:=q.1;omega⟩);have q6:=yZ (m:=0) xy H2.o.1 (by omega) (by omega) hS (λwx hO=>(H.o.2.1.keep f.o.1).keep (h4 wx hO)) lR (by simp;omega) (-1);have H8:=hide10 ki ko kj h2 h4 U (λk (K:F.S k)=>V.RS K) k5.size I h1.size;clear ki ko k5 V U h1 kh I kj h2 xy h4 y0 y1 y2;rw [qn];refine q6.mono ?_;rintro e w9 ⟨tv,B,F',M,rfl,k8,N,kf⟩;clear q6 qn;obtain ⟨ki,ko,kj,h2,h4,U,xx,xo,I,xm⟩:=H8.o;have kg:=h4 w9 N.out;have hy:bW w w9:=f.o.1.trans (kg.mono f.o.1.size);have qo:=f.o.1.size;have xn:=h2.size;have xc:∀ k,k<w4.heap.size->¬ F'.S k:=λk K q=>(N.S3 k q).elim (λq=>by have:=U k q;omega) (by omega);have yr:w9.heap[w6.heap.size]?=ZX (Z4 #[Z5 ZY 0 0] 38 (0,0)):=(N.out.block _ (T5.1 ki).1 λq=>q.elim (λq=>by have:=xx _ q;omega) (mkK.no ki (by decide))).trans ki;have xf:(tJ (D+L+G) nb).on S:=λi q=>by rcases q with q|⟨m,q|q⟩<;>cases q
 have y8:AB w4 w9 (w6.heap.size+1) D L G nb 1 p w6.heap.size (.pointer ZY) [] B F' (Z5 ZY 0 0) (Z5 ZY 0 0) (3:Int) (3:Int):=⟨sG ko kj N.out,⟨_,rfl⟩,⟨k8.ru.1,k8.n,H2.o.1,by decide,by decide,by rw [k8.nb];omega,by rw [k8.nb];omega,H.o.2.2.2.1.below hy H.o.2.2.2.1.lt,H.o.2.2.2.2.keep (hy.block _ H.o.2.2.2.2.lt),TZ hK hy.size,xc _ (by omega),xc _ (by omega),.inl ⟨rfl,rfl,λi _=>by rw [N.TN.rc];rfl⟩,⟨S,f.o.2.1,N.TN.on xf⟩⟩,k8.nb,kg,H.o.2.2.1.below f.o.1,TZ hK qo,by omega,λk q=>(N.S3 k q).elim (λq=>by have:=U k q;omega) (by omega)⟩;have yf:Dc w9 w9 w6.heap.size [] [] (Z5 ZY 0 0) (Z5 ZY 0 0):=⟨⟨w6.heap.size+1,Z5 ZY 0 0,yr,UP _ _ _ _⟩,trivial,⟨⟨_,_,_,rfl,by decide⟩,⟨_,_,_,rfl,by decide⟩⟩,λ_ _ _ _ _=>rfl⟩;have yk:=vH y8 yf;have R:=a5 yk k8.mrk kf (show PE S M B from ⟨N.TN.on xf,k8.ru.2⟩);clear ki ko kj h2 h4 U xx xo I xm kg hy qo xn xc yr xf y8 yf yk k8 N kf H8;obtain ⟨wb,yy⟩:=nM (w6.heap.size+1);rw [yy] at R ⊢;obtain ⟨b6,b7,xj⟩:=aT R.o.2.1;subst xj;go_wp2_with fail;refine R.o.1.mono ?_;rintro e hd ⟨rfl,ka⟩;have HM:=ak (show MS hd (PE S M) w4 hd wb D L G nb 1/\Mk w4 hd (.slice b6 M.length b7) M/\M.length<=200 from ⟨(ka.mono lR λC hC=>R.o.2.2.2.alk hC).Sp,pY R.o.2.1 λk K=>(by
  obtain ⟨cur,hc⟩:=bu R.o.2.1 K;exact ka.marks hc),by have:=R.o.2.2.1;omega⟩)
 clear ka R yy;go_wp2_with fail;go_loopw [20,21,22] (λtv ok i wr=>DgR w4 wb D L G nb S l.length ok tv i wr) (λ_ _ i _=>l.length-(intOf i).toNat)
 case atStart=>exact ⟨0,M,T7 _,rfl,rfl,HM.o.2.1,by have:=HM.o.2.2;omega,HM.o.1⟩
 case round=>
  clear HM;obtain ⟨k,M,K,rfl,rfl,km,kf,ka⟩:=hrel;by_cases qz:k<l.length
  . obtain ⟨sb,off,rfl,qx,y9⟩:=H.o.1 (λe=>by rw [e] at qz;simp at qz);have q6:=DM ka km kf f.o.2.1 hS H.o.2.1 f.o.1 (by omega) (by omega) (by omega) (k:Int);have xa:(k:Int)<(l.length:Int):=(by omega);obtain ⟨ta,tc,xi⟩:=aT km;subst xi;have HA:=ak q6;have HT:=ak y9;clear q6 ka km kf y9;go_wp2_with fail;refine HA.o.mono ?_;rintro e wy ⟨hb,M',rfl,xb,kz,hi⟩;obtain ⟨t,xs,Q,p,r,sa,ar,v,Kind,ps,pg,ob,P,A,F,out,want,cache,hB,hC,ht,qp⟩:=xb;obtain ⟨dv,r1,r2,r3,r4,r5⟩:=HT.o k qz;have qa:l[k].d.length<=100000:=TZ (PD l k qz) xh;obtain ⟨o,ho⟩:=nM (l[k]);rw [ho] at r1 r2 r3 r5 qa;have q8:bW w wy:=f.o.1.trans (hB.base.mono f.o.1.size);have q1:=(q8.cell (p:=⟨sb,off+k*4,ZY⟩) qx).trans r1;have q2:=(q8.cell (p:=⟨sb,off+k*4+1,ZY⟩) qx).trans r2;have q3:=(q8.cell (p:=⟨sb,off+k*4+2,ZY⟩) qx).trans r3;have q4:=(q8.cell (p:=⟨sb,off+k*4+3,ZY⟩) qx).trans r4;obtain ⟨da,dc,z5,_⟩:=id r5;subst z5;have O:=r5.mono f.o.1;obtain ⟨m,hm⟩:=nM (o.d.length);rw [hm] at q4 O;obtain ⟨w5,k7⟩:=nM (wy.alloc (Z4 #[Z7 Z9 o.kind,Z7 Z9 o.a,Z0 o.s,.slice da m dc] 47));have Y:bW wy w5:=(by rw [<- k7];exact bA wy _);have h3:ai w5 wy.heap.size 47 [Z7 Z9 o.kind,Z7 Z9 o.a,Z0 o.s,.slice da m dc]:=(by rw [<- k7];exact UN wy _);have qq:=hB.below Y;have qs:=(hC.keep (iA.below Y _) lR).Sp;have hh:=kz.below Y;have kk:∀ k,F.S k->k<wy.heap.size:=λk K=>hB.live.vol.arr.RS K;obtain ⟨q0,yp⟩:=nM (wy.heap.size);rw [yp] at h3 kk;have y:=hide13 qq qs ht qp hh hi O qa h3 k7 yp hm kk;have kc:∀ wn,MS w5 (PE S M') w4 wn wb D L G nb (1+k+1)->DgR w4 wb D L G nb S l.length (Z2 ZW) hb (Z7 Z9 ((k:Int)+1)) wn:=λwn hn=>⟨k+1,M',by omega,rfl,rfl,pY y.o.2.2.2.2.1 (λj hj=>by
     obtain ⟨cur,hc⟩:=bu y.o.2.2.2.2.1 hj;exact hn.marks hc),by have:=y.o.2.2.2.2.2.1;omega,hn.Sp⟩
    have HN:=ak kc;clear hB hC ht qp kz hi r1 r2 r3 r4 r5 O q8 qq qs h3 Y k7 kc HA HT ho hh kk;by_cases yi:o.kind<=5;rotate_left
    . have qc:(5:Int)<o.kind:=(by omega);have H5:=ak (show DgR w4 wb D L G nb S l.length (Z2 ZW) hb (Z7 Z9 ((k:Int)+1)) w5 from HN.o w5 ⟨_,_,_,_,_,_,_,_,_,_,_,_,_,_,_,_,_,_,y.o.1,y.o.2.1,by have:=y.o.2.2.1;omega,y.o.2.2.2.1⟩);rw [<- y.o.2.2.2.2.2.2.2.2.2.1] at H5;clear yi;go_wp2;go_roundw
      case rel=>exact H5.o
      case measure=>simp only [intOf];omega
    have qc:¬ (5:Int)<o.kind:=(by omega);go_upto_region 18 with fail;clear q1 q2 q3 q4 qc;rw [y.o.2.2.2.2.2.2.2.2.2.1];obtain ⟨_,_,_,c3,_⟩:=y.o.1.wbA.cells;have HR:=ak (DN y.o.1 y.o.2.1);go_wp2_with fail;refine HR.o.mono ?_;rintro e w6 ⟨u6,bi,rfl,-,ky,kx,xz,y4,-⟩;obtain ⟨qq,qs,ht,qp,hh,hi,O,qa,h3,k7,_,_,kk⟩:=y.o;have qi:ai w6 q0 47 [Z7 Z9 o.kind,Z7 Z9 o.a,Z0 o.s,.slice da m dc]:=h3.keep (xz.block _ h3.lt λq=>by have:=kk _ q;omega);have x0:=qi.cell (j:=0) (u:=Z7 Z9 o.kind) rfl;have x1:=qi.cell (j:=1) (u:=Z7 Z9 o.a) rfl;have x2:=qi.cell (j:=2) (u:=Z0 o.s) rfl;have x3:=qi.cell (j:=3) (u:=.slice da m dc) rfl;have xp:=ak (NL (T:=1+k) ky kx o (.slice da m dc) O qa ht (by omega) z0 (by omega) yi y4);clear ky kx xz y4 qi qq qs ht qp hh hi O qa h3 k7 kk HR c3;go_wp2_with fail;refine xp.out.mono ?_;rintro e w7 ⟨rfl,t7,zr,Q7,p7,r7,c6,bp,v7,zz,c5,c4,c2,P7,A7,F7,bo,bn,zs,x5,xq,qk,qd,Z⟩;clear xp x0 x1 x2 x3;obtain ⟨_,_,_,c3,_⟩:=x5.wbA.cells;have HR:=a5 (DN x5 xq) Z qk qd;clear x5 xq qk qd Z;go_wp2_with fail;refine HR.o.1.mono ?_;rintro e E ⟨u8,vals,rfl,W,X,ke,z1,-,kv⟩;obtain ⟨_,Z,qk,qd⟩:=HR.o;obtain ⟨lo,lc,ze⟩:=aT W;subst ze;have z7:=X.live.vol.n;have x6:=X.live.vol.par.s;obtain ⟨n7,qh⟩:=nM (A7.n);rw [qh] at W kv Z ⊢;have yq:ai E q0 47 [Z7 Z9 o.kind,Z7 Z9 o.a,Z0 o.s,.slice da m dc]:=y.o.2.2.2.2.2.2.2.2.1.keep (ke.mks q0 _ _ (.inr rfl) y.o.2.2.2.2.2.2.2.2.1);have h8:∀ wx,bW E wx->DgR w4 wb D L G nb S l.length (Z2 ZW) hb (Z7 Z9 ((k:Int)+1)) wx:=λwx kp=>HN.o wx ⟨_,_,_,_,_,_,_,_,_,_,_,_,_,_,_,_,_,_,X.below kp,ke.keep (iA.below kp _) lR,qk,y.o.2.2.2.1.alk qd⟩;have J:ai E pb 27 [Z7 Z9 (D:Nat),Z7 Z9 (L:Nat),Z7 Z9 (G:Nat)]:=f.o.2.2.keep (X.base.block _ f.o.2.2.lt);have H8:=hide8 X ke yq h8 J W kv Z;have z8:n7<=16:=(by omega);clear HR X ke z1 W kv Z qk qd z7 x6 qh yq h8 J c3;go_wp2_with fail;go_loopw [21,25] (λok i wx=>∃ j:Nat,j<=n7/\i=Z7 Z9 (j:Nat)/\ok=Z2 ZW/\bW E wx) (λ_ i _=>n7-(intOf i).toNat)
    case atStart=>exact ⟨0,T7 _,rfl,rfl,T6 _ _⟩
    case round=>
     rename ZU=>wx;obtain ⟨j,hj,rfl,rfl,kp⟩:=hrel;have N:=H8.o.2.2.1.keep (kp.block _ H8.o.2.2.1.lt);have x0:=N.cell (j:=0) (u:=Z7 Z9 o.kind) rfl;have x2:=N.cell (j:=2) (u:=Z0 o.s) rfl;have HX:=ak kp;clear kp N;by_cases qy:j<n7/\o.kind=2;rotate_left
     . have HF:=ak (H8.o.2.2.2.1 wx HX.o);by_cases x9:j<n7
       . have qb:(j:Int)<(n7:Int):=(by omega);have yh:¬ o.kind=2:=λe=>qy ⟨x9,e⟩;clear qy;go_wp2;exact ⟨HF.o,by simp [intOf];omega⟩
       . have qb:¬ (j:Int)<(n7:Int):=(by omega);clear qy;go_wp2;exact ⟨HF.o,by simp [intOf];omega⟩
     obtain ⟨x9,yh⟩:=qy;obtain ⟨X,ke,_,_,J,W,kv,Z⟩:=H8.o;obtain ⟨cc,y6,xv⟩:=Z yh;obtain ⟨rv,qj,x4⟩:=kv _ y6 j x9;have q5:=X.below HX.o;have qv:=ke.keep (iA.below HX.o _) lR;obtain ⟨ba,bm,bc,b4,y5,z4,q9⟩:=NM qv.rel q5.live.disk.up q5.live.disk.fits o.s xv;have y3:Q7.length<=1000000:=by
      rw [qv.rel.len];have:=q5.live.Sq.1;have e:zr.os.length=zr.length:=(by simp [aX.os]);omega
     have ys:∀ k,ZS ZN 14 #[Z6 (ZX ⟨r7,0,ZY⟩),Z0 o.s] (wx.drewN k) λe w'=>e=Z3 (ZZ #[.slice ba bm bc,Z7 Z9 b4])/\w'=wx.drewN k:=λk=>by
      have z3:bW wx (wx.drewN k):=⟨rfl,rfl,rfl,TY _,λ_ _=>rfl⟩;obtain ⟨rb,rv,hr⟩:=(qv.keep (iA.below z3 _) lR).ref;exact (tN hr y3 o.s).mono λe w' q=>⟨y5 e q.2,q.1⟩
     have r5:=q5.wbA.cells.2.2.2.2.2.1;have qb:(j:Int)<(n7:Int):=(by omega);have ym:=an W HX.o;have yn:=J.keep (HX.o.block _ J.lt);have HZ:=a7 ys qj x4 q9 ym yn;clear X ke J W kv Z y6 xv qj x4 q5 qv y5 q9 y3 ys ym yn;go_upto_region 24 with fail;go_quiet ((go_at_call 14;refine Ys (HZ.o.1 _)));have kr:bW E (wx.drewN nq):=HX.o.trans ⟨rfl,rfl,rfl,TY _,λ_ _=>rfl⟩;obtain ⟨wz,yz⟩:=nM (wx.drewN nq);rw [yz] at kr ⊢;obtain ⟨_,_,_,h8,J,W,_⟩:=H8.o;obtain ⟨_,qj,x4,q9,_,_⟩:=HZ.o;have xg:=an W kr;have yo:=J.keep (kr.block _ J.lt);have y0:=yo.cell (j:=0) (u:=Z7 Z9 (D:Nat)) rfl;obtain ⟨g,hg,g1⟩:∃ g,lo=ZX ⟨g,0,ZY⟩/\wz.cell? ⟨g,j,ZY⟩=ZX (Z7 Z9 rv):=by
      rcases xg.2 with ⟨e,h0⟩|⟨g,cap,cur,e,_⟩
      . omega
      . simp only [VA] at e;have c1:=xg.cells (g:=g) (by rw [e.1];rfl) _ _ qj;rw [jm] at c1;exact ⟨g,e.1,c1⟩
     subst hg;obtain ⟨q,zc⟩:=nM (D*44);obtain ⟨z,hz⟩:=nM (bm/q);have za:0<q/\q<=264:=(by have:=H2.o.1.d1;omega);have zj:z<=1500:=(by rw [<- hz];exact TZ (VT _ _) z4);have em:(D:Int)*44=(q:Int):=(by omega);have br:(bm:Int).tdiv (q:Int)=(z:Int):=(by rw [Xt (by omega),<- hz];rfl);have zh:rv<=(z:Int)+1:=by
      rw [zc,hz] at q9;omega
     have HF:=al kr (h8 wz kr);clear h8 J W qj x4 q9 xg yo kr yz r5 x2;go_upto_region 25 with fail;go_quiet (fail);have HE:=ak (show ∃ i:Nat,i<=n7/\Value.int .i64 ((j:Int)+1)=Z7 Z9 (i:Nat)/\Value.bool ZW=Z2 ZW/\bW E (wz.drewN nq) from ⟨j+1,by omega,rfl,rfl,HF.o.1.trans ⟨rfl,rfl,rfl,TY _,λ_ _=>rfl⟩⟩);clear g1 y0;go_wp2;exact ⟨HE.o,by simp [intOf];omega⟩
  . have xa:¬ (k:Int)<(l.length:Int):=(by omega);have HA:=ak (DM ka km kf f.o.2.1 hS H.o.2.1 f.o.1 (by omega) (by omega) (by omega) (l.length:Int));obtain ⟨ta,tc,xi⟩:=aT km;subst xi;clear ka km kf;go_wp2_with fail;refine HA.o.mono ?_;rintro e w5 ⟨hb,M',rfl,qe,-,-⟩;have HB:=ak (NH qe λA B K hA=>hA.alk K);clear HA qe;go_wp2_with fail;refine HB.o.mono ?_;rintro e w6 ⟨rfl,t,xs,Q,p,r,sa,ar,v,Kind,ps,pg,ob,P,A,F,out,want,cache,ky,kx,zd,V⟩;have R:=al (Gc ky kx (by omega)) V;clear HB ky kx zd V;go_wp2_with fail;refine R.o.1.mono ?_;rintro e w7 ⟨rfl,qf⟩;have HB:=ak (NH (qf.mono lR λB hB=>R.o.2.alk hB) λA B K hA=>hA.alk K);clear R qf;go_wp2_with fail;refine HB.o.mono ?_;rintro e E ⟨rfl,qg⟩;have HF:=ak qg.base;clear HB qg;go_wp2;go_ret;exact ⟨rfl,f.o.1.trans (HF.o.mono f.o.1.size)⟩
