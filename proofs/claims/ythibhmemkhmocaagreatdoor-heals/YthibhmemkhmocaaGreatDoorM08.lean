import Derived.Test.YthibhmemkhmocaaGreatDoorM07
import Derived.SizedLaws
import Derived.BigRegionIn
set_option maxRecDepth 100000
set_option linter.all false
set_option maxHeartbeats 8000000
open Go.IntKind renaming i64 -> Z9, u64 -> Z8
open Go.Value renaming int -> Z7, pointer -> Z6, slice -> Z5, bool -> Z1, string -> ZZ, tuple -> ZY
open Go.Obj renaming cells -> Z4
open Go.Ending renaming returned -> Z3
open Go.Operand renaming tmp -> Z0
open Go renaming undef -> ZX, World -> ZS, Value -> ZR, Calls -> ZQ, Ending -> ZP, TypeId -> ZO, Boxed -> ZN
open Option renaming none -> ZW, some -> ZV
open Bool renaming true -> ZU, false -> ZT
open List renaming range -> YE, getElem_range -> YG
open Exists renaming intro -> YF
open Int renaming natCast_emod -> YH
open ByteArray renaming empty -> YI
open Go.Proofs.YthibhmemkhmocaaGreatDoor renaming pgs -> YJ
open Go.Proofs.Tryz renaming prog -> ZM
open Go.Proofs.Tryz
namespace Go.Proofs.YthibhmemkhmocaaGreatDoor
def abG:=@Go.World.cell?_spot
def V8:=@Go.WideShapes.add_plain
def W9:=@Go.DataW.trod_int
def ach:=@Go.World.cells?_some
end Go.Proofs.YthibhmemkhmocaaGreatDoor
namespace Go.Proofs.YthibhmemkhmocaaGreatDoor
open Go.RowKit Go.Deep Go.Shelf Gf
variable {cp:Array ZR} {off:Bool} {x:ByteArray} {e:ZP} {F F':aK} {cf:FuncId} {cache:Int} {ps ps':aR} {Kind:aR->Prop} {Q:List (ByteArray×ZR)} {M:List (Nat×Nat)} {page P l dl d:a8} {os:List Ob} {D n po sk c v p r g N sz n1 f1 L G y D1 L1 G1 t1 k ar D' L' G' t f nn ho b S i tt wb blocks B T B' rb sa q nb m len0 cap0 gone sp:Nat} {sg:Nat->Nat} {R:Nat->Option bG} {lo:Nat->Prop} {xs':aL} {ao:Option Addr} {lk:Prop} {H:Type} {up uq pg ob u s out want rv rr:ZR} {w w' wr w5 w0 a KW wx X W Z:ZS} {J:ZS->Prop}
section
structure mN (w:ZS) (ar v p:Nat) (ps:aR) (D L G:Nat) (A:az) (F:aK):Prop where
 vol:pG w v p D L G ps.ps ps.ho A F
 nar:¬ F.S ar
 vlt:3<=v/\v<ar
 arl:ar<w.heap.size
 kit:ps.S w
 apt:∀ k,ps.bl k->3<=k/\k≠ar/\k≠v/\¬ F.S k
 hl:ps.ho<2^(D+L+G)
 fine:A.fine D L G
section
variable {w w':ZS} {ar v p D L G:Nat} {ps ps':aR} {A:az} {F:aK}
def mN.below (h:mN w ar v p ps D L G A F) (a:bW w w'):mN w' ar v p ps D L G A F:=
 { h with vol:=h.vol.below a lR,arl:=T7 h.arl a.size,kit:=ps.keep _ _ h.kit λk b=>a.block k (ps.lt _ h.kit k b) }
def mN.got (h:mN w ar v p ps D L G A F) {Kind:aR->Prop} (a:aa (λj=>F.S j\/j=v\/ps.bl j) w w') (m:aA w' p A F) (hK:mM w v p D L G Kind ps A ps' w'):mN w' ar v p ps' D L G A F:=by
 have i:2<3:=ee
 have l:1<3:=ee
 have:=h.vlt;have b:∀ k,k<3->¬ F.S k->k<w.heap.size->w'.heap[k]?=w.heap[k]?:=λk d f c=>a.block k c (λq=>by
  rcases q with q|q|q
  . exact f q
  . omega
  . have:=(h.apt k q).1;omega)
 exact { h with
  vol:={ h.vol with vol:=Zz,arr:=m,laid:=h.vol.laid.keep (b _ i h.vol.g h.vol.laid.lt),tab:=h.vol.tab.keep (b _ l h.vol.t h.vol.tab.lt),room:=TU h.vol.room a.size }
  arl:=T7 h.arl a.size
  kit:=hK.kit
  apt:=λk n=>by
   rcases hK.bl k n with q|q
   . exact h.apt k q
   . have:=h.arl;have:=h.vol.room;exact ⟨ec,ec,ec,λe=>e9 (h.vol.arr.RN e)⟩
  hl:=hK.hol }
def mN.arc (h:mN w ar v p ps D L G A F) (a:aa (λj=>F.S j\/j=v\/ps.bl j) w w') {D' L' G' t f n:Nat} {pg ob:ZR} {off:Bool} (b:a9 w ar v D' L' G' t f n pg ob off):a9 w' ar v D' L' G' t f n pg ob off:=
 b.keep (a.block _ h.arl λq=>by
  rcases q with q|q|q
  . exact h.nar q
  . have:=h.vlt;omega
  . exact (h.apt _ q).2.1 rfl)
end
structure PW (A:az) (D L G:Nat) (P l:a8):Prop where
 on:A.holds D L G P (cj D P l)
 pl:P.length=YJ D l.length
 nb:∀ x∈P,x<A.nb
 le:P.length<=A.nb
 byt:∀ x∈l,x<256
def Pi (e:1<=D) {k:Nat} (d:k<pgs D n):k*(D*44-4)<=n:=by
 unfold pgs at d;by_cases a:k=0
 . subst a;omega
 . have b:k<(n+(D*44-4)-1)/(D*44-4):=ec;have hs:0<D*44-4:=ec;have c:=(acg hs).1 (Nat.succ_le_of_lt b);rw [W5] at c;omega
def Pj (c:1<=D):n<=pgs D n*(D*44-4):=by
 have hs:0<D*44-4:=ec
 have a:(n+(D*44-4)-1)/(D*44-4)<=pgs D n:=Nat.le_max_right _ _;have:=W0 (D*44-4) a;have b:=Nat.div_add_mod (n+(D*44-4)-1) (D*44-4);have:=Wc (n+(D*44-4)-1) hs;rw [WC] at b;omega
def FP (P l:a8) (k:Nat):(cj D P l k).length=4+min (l.length-k*(D*44-4)) (D*44-4):=by
 unfold cj;rw [Ua,aD,Uo,Um,Nat.min_comm]
def JI (w:ZS) (pb po n:Nat) (page:a8):Prop:=∀ q,q<n->w.cell? ⟨pb,po+q,ZW⟩=ZV (Z7 .u8 ((page.getD q 0:Nat):Int))
def JI.grown {pb:Nat} {row:Option Nat} (h:JI w pb po n page) (b:w.grownBy w' row) (a:row≠ZV pb):JI w' pb po n page:=λq c=>b.cell (h q c) (λe=>a e.symm)
def JI.alloc {pb:Nat} (h:JI w pb po n page) (o:Obj):JI (w.alloc o) pb po n page:=h.grown (aca w o ZW) (λe=>Y4)
theorem JI.src {pb:Nat} (h:JI w pb po (4+sk) page) (hl:page.length=4+sk):Src ZM 1 40 (Z5 (ZV ⟨pb,po+4,ZW⟩) sk sk) sk (aJ (page.drop 4)) w:=by
 refine Vl w Un ⟨pb,po+4,ZW⟩ sk sk (aJ (page.drop 4)) (by rw [aX,Um,hl];omega) (λq u a=>?_) (λu f=>by obtain ⟨x,_,rfl⟩:=T9.1 f;rfl);have g:q<sk:=by
  have:=(Va.1 a).1;rw [aX,Um,hl] at this;omega
 have d:=h (4+q) ec;have e:(Value.int .u8 ((page.getD (4+q) 0:Nat):Int))=u:=by
  unfold aJ at a;rw [UD,Wf,Uc ec] at a;simp at a;rw [<- a];simp [Ub,(ec:4+q<page.length)]
 have b:w.cell? ⟨pb,po+4+q,ZW⟩=ZV u:=by rw [<- e,Vv];exact d
 unfold Addr.add;split
 . rename_i c;subst c;exact b
 . exact b
def JI.src0 {pb:Nat}:Src ZM 1 40 (Z5 (ZV ⟨pb,po,ZW⟩) 0 0) 0 [] w:=Vl w Un ⟨pb,po,ZW⟩ 0 0 [] rfl (λq u a=>Zm) (λu b=>acw)
def JI.head {pb x:Nat} (h:JI w pb po n page) (d:4<=n) (hc:4<=c) (b:page.take 4=be x 4):Bs w (Z5 (ZV ⟨pb,po,ZW⟩) 4 c) (be x 4):=by
 refine ⟨ZV ⟨pb,po,ZW⟩,c,by rw [aD],by rw [aD];exact hc,acv,qT _ _,λ_=>⟨pb,po,rfl,λq a=>?_⟩⟩;rw [aD] at a;rw [h q ec,<- b];have:(page.take 4).getD q 0=page.getD q 0:=by
  rw [Ub,Ub,VM a]
 rw [this]
structure RpG (w:ZS) (v p r g N sz n1 f1 D L G:Nat) (Kind:aR->Prop) (ps:aR) (A:az) (F:aK) (P l:a8) (D1 L1 G1 t1 k:Nat) (up uq:ZR) (wr:ZS):Prop where
 pk:wr.ownsRow w.heap.size 5 1 up (min (k*sz) n1) (aJ (l.take (k*sz)))
 pg:wr.ownsRow w.heap.size 3 1 uq k (jZ (P.take k))
 rd:∃ b gone sp,dZ wr r v b g N gone sp
 row:∃ f,wr.rowIs g 40 N f
 kit:∃ ps',mM w v p D L G Kind ps A ps' wr
 arr:aA wr p A F
 out:aa (λj=>F.S j\/j=v\/ps.bl j) w wr
 box:wr.heap[w.heap.size]?=ZV (Z4 (aj D1 L1 G1 t1 f1 n1) 142 (0,0))
def abh (w:ZS) (v p r g N sz n1 f1 D L G:Nat) (Kind:aR->Prop) (ps:aR) (A:az) (F:aK) (P l:a8) (D1 L1 G1 t1 K:Nat) (up uq nx i:ZR) (wr:ZS):Prop:=∃ k:Nat,k<=K/\i=Z7 Z9 k/\nx=Z7 Z9 ((P.getD k 0:Nat):Int)/\RpG w v p r g N sz n1 f1 D L G Kind ps A F P l D1 L1 G1 t1 k up uq wr
def FQ:¬ jX 3:=vf
def Pm:¬ jX 142:=vf
def M7 {A:az} (a:RpG w v p r g N sz n1 f1 D L G Kind ps A F P l D1 L1 G1 t1 k up uq wr) (hK:mM w v p D L G Kind ps A ps' wr) (d:my wr.drew r v y g N p D L G Kind ps' A F dl e w5) (C:N=D+L+G) (re:∀ ps h,Kind ps->Kind (ps.SF h)) (m:∀ k,F.S k->k<w.heap.size) (J:v<w.heap.size) (Q:w.heap.size<r) (O:w.heap.size<g):aa (λj=>F.S j\/j=v\/ps.bl j) w w5/\(∃ b,mM w v p D L G Kind ps A b w5)/\w5.heap[w.heap.size]?=ZV (Z4 (aj D1 L1 G1 t1 f1 n1) 142 (0,0))/\(∀ {T:ZO} {s n:Nat} {u:ZR} {xs:List ZR},wr.ownsRow w.heap.size T s u n xs->¬ jX T->T≠200->T≠40->w5.ownsRow w.heap.size T s u n xs):=by
 have:w.heap.size<=wr.heap.size:=a.out.size;have:wr.drew.heap.size=wr.heap.size:=rfl;obtain ⟨_,_,_,B⟩:=a.rd;obtain ⟨I,t⟩:=a.row;refine ⟨(a.out.trans (aa.drew _)).later d.out λj o h=>?_,?_,?_,?_⟩
 . rcases h with h|h|h|h|h
   . omega
   . omega
   . exact .inr (.inl h)
   . exact .inl h
   . rcases hK.bl j h with q|q
     . exact .inr (.inr q)
     . omega
 . obtain ⟨b,hl,k1,k2,k3,k4,E,H⟩:=d.kit;refine ⟨b.SF hl,re _ _ k1,k2.trans hK.psE,k3,by rw [<- hK.psE];exact k4,by rw [<- C];exact E,λj o=>?_⟩;rcases H j o with q|q
   . exact hK.bl j q
   . exact .inr ec
 . refine (d.out.block _ (TX.1 a.box).1 (λh=>?_)).trans a.box;rcases h with h|h|h|h|h
   . omega
   . omega
   . omega
   . have:=m _ h;omega
   . exact bU hK.kit a.box Pm h
 . intro T s n u xs ho f i x;refine bR (show wr.drew.ownsRow w.heap.size T s u n xs from ho) d.out λq c h=>?_;rcases h with h|h|h|h|h
   . subst h;obtain ⟨cs,z,_⟩:=t;exact bC ho z x c
   . subst h;exact bC ho B i c
   . subst h;have:=dY ho c;omega
   . have f:=m q h;have:=dY ho c;omega
   . obtain ⟨cur,hc⟩:=bw ho c;exact bU hK.kit hc f h
theorem M8 {w6 w7:ZS} {x pl:Nat} {A:az} {v6 v7:ZR} {o:Obj} (W:RpG w v p r g N sz n1 f1 D L G Kind ps A F P l D1 L1 G1 t1 k up uq wr) (hK:mM w v p D L G Kind ps A ps' wr) (C:my wr.drew r v y g N p D L G Kind ps' A F dl e w5) (X:N=D+L+G) (re:∀ ps h,Kind ps->Kind (ps.SF h)) (Q:∀ k,F.S k->k<w.heap.size) (k0:v<w.heap.size) (hr:w.heap.size<r) (E:w.heap.size<g)
 (U:k<P.length) (hx:P.getD k 0=x) (K:w5.ownsRow w.heap.size 3 1 uq k (jZ (P.take k))) (V:w6.ownsRow w.heap.size 3 1 v6 (k+1) (jZ (P.take k)++[Z7 Z9 (x:Int)])) (i:(w5.alloc o).grownBy w6 uq.ownBlock) (B:w6.ownsRow w.heap.size 5 1 up pl (aJ (l.take pl))) (hv:w7.ownsRow w.heap.size 5 1 v7 (pl+sk) (aJ (l.take pl)++aJ ((l.drop pl).take sz))) (b:w6.grownBy w7 up.ownBlock)
 (hy:k*sz=pl) (k7:min (n1-pl) sz=sk) (k5:pl<=n1):RpG w v p r g N sz n1 f1 D L G Kind ps A F P l D1 L1 G1 t1 (k+1) v7 v6 w7:=by
 obtain ⟨R,⟨m,d⟩,I,_⟩:=M7 W hK C X re Q k0 hr E;have k8:w.heap.size<=w5.heap.size:=R.size;have k9:w5.heap.size+1<=w6.heap.size:=by have:=i.size;simp at this;omega
 have M:=K.alloc o;have t:∀ {q:Nat} {cs:Array ZR} {T:ZO} {z:Nat×Nat},w5.heap[q]?=ZV (Z4 cs T z)->3≠T->5≠T->w7.heap[q]?=w5.heap[q]?:=by
  intro q cs T z n s u;have hz:q<w5.heap.size:=(TX.1 n).1;have a:(w5.alloc o).heap[q]?=w5.heap[q]?:=UF _ _ _ hz;have c:w6.heap[q]?=(w5.alloc o).heap[q]?:=i.block q en (λe=>by
   obtain ⟨cur,hc⟩:=bw M e.symm;rw [a.trans n] at hc;simp only [UB,UQ] at hc;exact s hc.2.1.symm)
  refine (b.block q ec (λe=>?_)).trans (c.trans a);obtain ⟨cur,hc⟩:=bw B e.symm;rw [(c.trans a).trans n] at hc;simp only [UB,UQ] at hc;exact u hc.2.1.symm
 have J:∀ q,q<w.heap.size->w7.heap[q]?=w5.heap[q]?:=λq n=>by
  have a:(w5.alloc o).heap[q]?=w5.heap[q]?:=UF _ _ _ ec;have c:w6.heap[q]?=(w5.alloc o).heap[q]?:=i.block q en (λe=>e9 (dY M e.symm));exact (b.block q ec (λe=>e9 (dY B e.symm))).trans (c.trans a)
 have Z:(k+1)*sz=pl+sz:=by rw [W5,hy]
 obtain ⟨gone,sp,O⟩:=C.rd;refine ⟨?_,?_,⟨y,gone,sp,O.keep (t O ee ee)⟩,?_,⟨m,{ d with kit:=m.keep _ _ d.kit (λj H=>?_),vol:=d.vol.keep (t d.vol ee ee) }⟩,C.arr.keep λq n=>J q (Q q n),?_,(t I ee ee).trans I⟩
 . rw [Z,acb,bJ,(ec:min (pl+sz) n1=pl+sk)];exact hv
 . have e:jZ (P.take (k+1))=jZ (P.take k)++[Z7 Z9 (x:Int)]:=by
    have E:P.getD k 0=P[k]:=(by simp [Ub,U]);rw [Ve,Uc U,<- hx,E];unfold jZ;rw [Uw];rfl
   rw [e];refine V.kept b ?_;cases h8:v6.ownBlock with
   | none=>exact .inl rfl
   | some q=>
    refine .inr λe=>?_;obtain ⟨cur,Y⟩:=bw V h8;exact bC B Y ee e.symm
 . obtain ⟨f,cs,s,u⟩:=C.row;exact ⟨f,cs,(t s ee ee).trans s,u⟩
 . have hs:=m.lt _ d.kit j H;have a:(w5.alloc o).heap[j]?=w5.heap[j]?:=UF _ _ _ hs;have c:w6.heap[j]?=(w5.alloc o).heap[j]?:=i.block j en (λe=>by
    obtain ⟨cur,hc⟩:=bw K e.symm;exact bU d.kit hc FQ H)
   refine (b.block j ec (λe=>?_)).trans (c.trans a);obtain ⟨cur,hc⟩:=bw B e.symm;rw [c.trans a] at hc;exact bU d.kit hc oY H
 . exact R.later (T:=λq=>w.heap.size<=q) ⟨b.os.trans (i.os.trans rfl),b.tape.trans (i.tape.trans rfl),b.output.trans (i.output.trans rfl),e9 b.size,λq _ k6=>J q ec⟩ (λq s u=>ec)
structure Pn (w:ZS) (v p D L G:Nat) (Kind:aR->Prop) (ps:aR) (A:az) (F:aK) (P l:a8) (e:ZP) (w':ZS):Prop where
 kit:∃ ps',mM w v p D L G Kind ps A ps' w'
 arr:aA w' p A F
 out:aa (λj=>F.S j\/j=v\/ps.bl j) w w'
 ans:∃ up uq,e=Z3 (ZY #[up,uq,.nilIface])/\Bs w' up l/\w'.ownsRow w.heap.size 3 1 uq P.length (jZ P)
structure RpD (w w4 w5:ZS) (r v y g N p D L G:Nat) (Kind:aR->Prop) (ps':aR) (A:az) (F:aK) (sk pl k sz nx' pb po pc:Nat) (pa:Option Addr) (u5:ZR) (page l P:a8) (e:ZP):Prop where
 dt:my w4 r v y g N p D L G Kind ps' A F page e w5
 pk5:w5.ownsRow w.heap.size 5 1 (.slice pa pl pc) pl (aJ (l.take pl))
 pg5:w5.ownsRow w.heap.size 3 1 u5 k (jZ (P.take k))
 cell:JI w5 pb po (4+sk) page
 len:page.length=4+sk
 pg1:page.take 4=be nx' 4
 pg2:page.drop 4=(l.drop pl).take sz
 bq:(Value.slice pa pl pc).ownBlock=ZW\/(Value.slice pa pl pc).ownBlock≠u5.ownBlock
 pq:u5.ownBlock≠ZV pb
 pp:(Value.slice pa pl pc).ownBlock≠ZV pb
 mul:k*sz=pl
theorem wL {A:az} (ho:mN w ar v p ps D L G A F) (h:a9 w ar v D' L' G' t f nn pg ob off) (hv:vt D L G Kind ps) (x8:A.nb<=1000) (Y:PW A D L G P l) :
 ZQ ZM 154 #[Z6 (ZV ⟨ar,0,ZW⟩),.agg (aj D1 L1 G1 t1 (P.getD 0 0) l.length)] w (Pn w v p D L G Kind ps A F P l):=by
 obtain ⟨ib,x6,ki,kj,kk⟩:=Uu Tryz.R5;obtain ⟨ii,xn,qf,qg,qh⟩:=Uu Tryz.Sr;have q1:=ho.vol.par.d1;have qb:=ho.vol.par.d;have ky:=ho.vol.vol.lt;have xd:=ho.vol.room;have W:=ho.vol.n;have hc:∀ k,F.S k->k<w.heap.size:=λk hk=>ho.vol.arr.RN hk;have b:=Pj (n:=l.length) q1;have x0:P.length<=1000:=TU Y.le x8;have qn:l.length<=524000:=by
  rw [<- Y.pl] at b;exact TU b (TU (Xm x0 (ec:D*44-4<=524)) ee)
 obtain ⟨n1,q2⟩:=nM (l.length);obtain ⟨f1,qc⟩:=nM (P.getD 0 0);obtain ⟨K,kc⟩:=nM (P.length);have hK:pgs D n1=K:=by rw [<- kc,Y.pl,q2]
 rw [q2] at b qn ⊢;rw [qc];rw [kc] at x0;have HP:=a5 Y q2 qc kc;clear Y q2;have C:(w.alloc (Z4 (aj D1 L1 G1 t1 f1 n1) 142)).heap[w.heap.size]?=ZV (Z4 (aj D1 L1 G1 t1 f1 n1) 142 (0,0)):=Ug _ _;have B:bW w (w.alloc (Z4 (aj D1 L1 G1 t1 f1 n1) 142)):=bA w _;have q4:(w.alloc (Z4 (aj D1 L1 G1 t1 f1 n1) 142)).heap.size=w.heap.size+1:=ek
 obtain ⟨w1,qy⟩:=nM (w.alloc (Z4 (aj D1 L1 G1 t1 f1 n1) 142));rw [qy] at C B q4;have cl:w1.cell? ⟨w.heap.size,5,ZW⟩=ZV (Z7 Z9 n1):=by simp [World.cell?,C,aj]
 have cf:w1.cell? ⟨w.heap.size,4,ZW⟩=ZV (Z7 Z9 f1):=by simp [World.cell?,C,aj]
 have U:=h.keep (B.block _ h.lt);have E:=ho.below B;obtain ⟨d0,_⟩:=U.cells;have qq:=jh U E.vol.vol q1 ec n1 ec;have q9:=jz E.vol.vol E.vol.arr ec;obtain ⟨NB,s⟩:=nM (A.nb);rw [s] at x8;have xj:K<=NB:=by rw [<- s,<- kc];exact HP.o.1.le
 rw [hK] at qq;rw [s] at q9;have N:=hide9 U E C B q4 qq q9 hK s;have y0:w.alloc (Z4 #[Z7 Z9 D1,Z7 Z9 L1,Z7 Z9 G1,Z7 Z8 t1,Z7 Z9 f1,Z7 Z9 n1] 142)=w1:=qy;have HV:=a5 ho h hc ky;clear ho h C B U E qq q9 q4 qy hK s hc kc qc;unfold aj;go_enter func154,ntmps154;go_wp2_with fail;refine N.o.2.2.2.2.2.1.mono ?_;rintro e w2 ⟨rfl,I⟩;obtain rfl:w1=w2:=I.symm;clear I;go_wp2_with fail;refine N.o.2.2.2.2.2.2.1.mono ?_;rintro e w2 ⟨rfl,I⟩;obtain rfl:w1=w2:=I.symm;clear I;have y3:¬ NB<K:=ec
 have y4:¬ (K:Int)>(NB:Int):=ec
 have ks:=qJ (N.o.2.1.vol.vol.keep (w':=w1.drew) rfl) qb N.o.2.1.vol.par.l4 N.o.2.1.vol.par.g W;go_upto_region 4 with fail;go_cut [8,9] from 25 to 31 (λv8 v9 wx=>v8=Z7 Z9 (f1:Int)/\v9=Z6 (ZV ⟨w1.heap.size+2,0,ZW⟩)/\dZ wx (w1.heap.size+2) v 0 (w1.heap.size+1) A.n 0 0/\wx.rowIs (w1.heap.size+1) 40 A.n wE/\bW w1 wx)
 case first=>
  go_region_with (go_at_call 83;refine ks.mono ?_;rintro e w3 ⟨rfl,xb,R,M⟩;have O:=aE xb R M;clear xb R M;have hd:w3.cell? ⟨w.heap.size,4,ZW⟩=ZV (Z7 Z9 f1):=(O.o.2.2.cell (p:=⟨w.heap.size,4,ZW⟩) (Uf cf)).trans cf);all_goals (go_wp2_with fail;go_meet;case rel=>exact ⟨rfl,rfl,O.o.1,O.o.2.1,(TW _ w1).drew.trans O.o.2.2⟩)
 case rest=>
  obtain ⟨rfl,rfl,k9,R,M⟩:=hcut;rename ZS=>w3;obtain ⟨U,E,C,B,q4,y1,y2,hK,s⟩:=N.o;clear y1 y2 ks;have kf:=(M.block _ ec).trans C;obtain ⟨ho,h,hc,_⟩:=HV.o;have x1:aa (λj=>F.S j\/j=v\/ps.bl j) w w3:=aa.RL (B.trans (M.mono ec)) _;have kp:=E.below M;obtain ⟨r,qv⟩:=nM (w1.heap.size+2);obtain ⟨g,qe⟩:=nM (w1.heap.size+1);rw [qv,qe] at k9;rw [qe] at R;rw [qv];have xk:r≠g:=ec
  have y5:w.heap.size+1<g:=ec
  have y7:w.heap.size+1<r:=ec
  obtain ⟨sz,kx⟩:=nM (D*44-4);have qz:RpG w v p r g A.n sz n1 f1 D L G Kind ps A F P l D1 L1 G1 t1 0 (Z5 ZW 0 0) (Z5 ZW 0 0) w3:=
   ⟨by rw [abt,Nat.zero_min,Wq];exact UK _ _ _ _,UK _ _ _ _,⟨0,0,0,k9⟩,⟨_,R⟩,⟨ps,hv.kind,rfl,kp.kit,kp.vol.vol,kp.hl,λ_ q=>.inl q⟩,kp.vol.arr,x1,kf⟩
  have O:=ak qz;have xz:40<=sz/\sz<=524:=ec
  rw [hK,kx] at b;have km:∀ k,k<K->k*sz<=n1:=λk hk=>by
   have:=Pi (n:=n1) q1 (k:=k) ec;rw [kx] at this;exact this
  have HK:=a5 hK s b km;clear U E C B k9 R kp kf x1 M qz cl cf d0 qv qe hK s b km ho h hc;go_wp2_with fail;go_loopw [4,5,8,33] (λup uq nx i wr=>abh w v p r g A.n sz n1 f1 D L G Kind ps A F P l D1 L1 G1 t1 K up uq nx i wr) (λ_ _ _ i _=>K-(intOf i).toNat)
  case atStart=>exact ⟨0,T8 _,rfl,by rw [HP.o.2.2.1],O.o⟩
  case round=>
   obtain ⟨k,y6,rfl,rfl,z⟩:=hrel;by_cases qk:k<K
   . have qj:=HK.o.2.2.2 k qk;obtain ⟨y,kr,⟨b0,gone,sp,xc⟩,⟨f0,kv⟩,⟨ps',kz⟩,hh,X,ke⟩:=id z;rw [Wo qj] at y;have x7:k<P.length:=(by rw [HP.o.2.2.2];exact qk);obtain ⟨x,H⟩:=nM (P.getD k 0);have xh:x<A.nb:=(by rw [<- H];exact HP.o.1.nb _ (lV x7));rw [H];obtain ⟨pa,pc,rfl⟩:=bm y;obtain ⟨pl,hs⟩:=nM (k*sz);obtain ⟨ho,h,hc,_⟩:=HV.o;have qp:=ho.got X hh kz;have q5:=ho.arc X h;obtain ⟨ca,_⟩:=q5.cells;have cn:wr.cell? ⟨w.heap.size,5,ZW⟩=ZV (Z7 Z9 n1):=(by simp [World.cell?,ke,aj]);have qs:=kH (w:=wr.drew) (q5.keep rfl) (qp.vol.vol.keep rfl) q1 ec;rw [kx] at qs;obtain ⟨sk,xe⟩:=nM (min (n1-pl) sz);rw [hs] at qj y ⊢;have qm:∀ V ty w,(Builtin.min_ V ty #[Z7 Z9 ((n1:Int)-(pl:Int)),Z7 Z9 (sz:Nat)]).run ZM w=.ok (Z7 Z9 (sk:Nat)) w:=λV ty w=>by
      rw [je];by_cases h1:((sz:Nat):Int)<(n1:Int)-(pl:Int)
      . rw [TT h1,(ec:sk=sz)]
      . rw [TS h1,(ec:(sk:Int)=(n1:Int)-(pl:Int))]
     have xq:IntKind.i64.wrap ((n1:Int)-(pl:Int))=(n1:Int)-(pl:Int):=l3;have hm:(cj D P l k).length=4+sk:=(by rw [FP,kx,hs,HP.o.2.1,<- xe]);have c:=qp.below ((TW _ wr).drew);have xf:qK wr.drew r v x g A.n p D L G Kind ps' A F (cj D P l k):=
      { vol:=c.vol,nN:=W,hol:=by rw [W];exact c.hl,kit:=c.kit,kind:=kz.kind,apt:=λj hj=>⟨(c.apt j hj).1,(c.apt j hj).2.2.1,(c.apt j hj).2.2.2⟩,vr:=ec,vg:=ec,rg:=xk,gF:=λe=>e9 (hc _ e),rF:=λe=>e9 (hc _ e),rK:=ec,vK:=c.vlt.1,gK:=ec,nb:=xh,cw:=by rw [<- H];exact HP.o.1.on k x7,len:=by rw [hm];omega,fine:=c.fine,byt:=ug HP.o.1.byt P k }
     have x4:=DD xf hv.sh (xc.keep rfl) (kv.of_block rfl) hm.symm (m:=(4+sk+43)/44) rfl ec;have Q:=a5 z kz hc ky;have HR:=hide7 x4 y kr hs hm H qs;clear z kz hc x4 y kr hs qs xf qp c q5 ho h xc kv hh X ke hm H xh;go_upto_region 7 with fail;go_cut [10] from 35 to 42 (λv10 wx=>v10=Z7 Z9 (sk:Int)/\wx=wr.drew)
     case first=>
      go_region_with (go_at_call 141;refine HR.o.2.2.2.2.2.2.mono ?_;rintro e wq ⟨rfl,rfl⟩);all_goals (go_wp2_with fail;go_meet;case rel=>exact ⟨rfl,rfl⟩)
     case rest=>
      obtain ⟨rfl,rfl⟩:=hcut;clear ca cn qm xq;have y8:IntKind.i64.wrap ((4:Int)+(sk:Int))=(4:Int)+(sk:Int):=l3;go_wp2_with fail;rw [(ec:(4:Int)+(sk:Int)=((4+sk:Nat):Int))];refine HR.o.1.mono ?_;intro e w5 kb;have ko:=M7 Q.o.1 Q.o.2.1 kb W hv.re Q.o.2.2.1 ky ec ec;obtain ⟨u,rfl,x3,x5,kg⟩:=kb.ans;obtain ⟨_,k7,k5,hs,T,H,_⟩:=HR.o;obtain ⟨ao,uc,hu,xg,_,qa,h7⟩:=id x3;rw [T] at hu xg h7;obtain ⟨pb,po,rfl,he⟩:=h7 (λe=>by rw [e] at T;have h0:(0:Nat)=4+sk:=T;omega);subst hu;have qx:uc=4+sk:=by
       obtain ⟨hb,n',xp⟩:=kg;injection xp with h1 h2 h3;omega
      subst qx;obtain ⟨x2,_,_,k0⟩:=ko;have xv:wr.heap.size<=pb:=x5 pb rfl;have k8:=k0 k7 oY ee ee;have k6:=k0 k5 FQ ee ee;have yb:=x2.size;have q0:(cj D P l k).take 4=be (P.getD (k+1) 0) 4:=(by unfold cj;rw [VW Bf,UI Bf]);have q6:(cj D P l k).drop 4=(l.drop pl).take sz:=by
       unfold cj;rw [Xe Bf,WT Bf,kx,hs];rfl
      obtain ⟨x',q3⟩:=nM (P.getD (k+1) 0);rw [q3] at q0;have y9:x'<4294967296:=by
       rw [<- q3];by_cases h9:k+1<P.length
       . have:=HP.o.1.nb _ (lV h9);have h8:=HK.o.2.1;omega
       . simp [Ub,Vm (by omega:P.length<=k+1)]
      have qo:fT (be x' 4)=x':=lu x' 4 ec ec;obtain ⟨page,hr⟩:=nM (cj D P l k);rw [hr] at kb q0 q6 T he;have a:b9 (RpD w wr.drew w5 r v x g A.n p D L G Kind ps' A F sk pl k sz x' pb po pc pa u5 page l P _):=ak ⟨kb,k8,k6,he,T,q0,q6,by
       cases h8:(Value.slice pa pl pc).ownBlock with
       | none=>exact .inl rfl
       | some q=>
        refine .inr λe=>?_;obtain ⟨cur,Z⟩:=bw k8 h8;exact bC k6 Z ee e.symm,λe=>by
       obtain ⟨cur,Z⟩:=bw k5 e;have:=(TX.1 Z).1;omega,λe=>by
       obtain ⟨cur,Z⟩:=bw k7 e;have:=(TX.1 Z).1;omega,hs⟩
      have HX:=al H q3;clear kb k8 k6 he T qa q3 H x2 k0 k7 k5 hs x3 h7 x5 kg xg HR q0 q6 hr;have ya:IntKind.i64.wrap (x':Int)=(x':Int):=l3;have xy:sk<=1000000:=ec;by_cases xx:sk=0;subst xx;rotate_left
      all_goals (
       go_wp2_with (first
        | (show wpList _ _ _ ({ dst:=ZV 57,op:=_,type:=_,pos:=_,after:=_,guard:=_ }::_) _ _;refine Yu _ rfl (Z0 54) (Z0 56) 48 rfl w.heap.size 3 ii (Z7 Z9 0) 1 8 abB xn qf qg qh rfl ee u5 k (jZ (P.take k)) rfl (by exact a.o.pg5.alloc _) ⟨w5.heap.size,0,ZW⟩ 1 1 _ rfl rfl (nT w5 _ _) (by intro u hu;simp at hu;subst hu;rfl) eD ec en ?_;intro v6 w6 x9 kh xm q7;have J:=a5 x9 kh ((a.o.pk5.alloc _).kept kh a.o.bq) ((a.o.cell.alloc _).grown kh a.o.pq);have xi:=kh.size;clear x9 kh xm q7)
        | (show wpList _ _ _ ({ dst:=ZV 61,op:=_,type:=_,pos:=_,after:=_,guard:=_ }::_) _ _;(first|(refine ae _ rfl (Z0 58) (Z0 60) 40 40 rfl w.heap.size 5 ib (Z7 .u8 0) 1 1 Un x6 ki kj kk rfl (.slice pa pl pc) pl (aJ (l.take pl)) um (by exact J.o.2.2.1) _ um 0 ([]) (by exact JI.src0) eD ec (by simp at xi;omega) ?_)|(refine ae _ rfl (Z0 58) (Z0 60) 40 40 rfl w.heap.size 5 ib (Z7 .u8 0) 1 1 Un x6 ki kj kk rfl (.slice pa pl pc) pl (aJ (l.take pl)) um (by exact J.o.2.2.1) _ um sk (aJ (page.drop 4)) (by exact J.o.2.2.2.src a.o.len) eD ec (by simp at xi;omega) ?_));intro v7 w7 xa qd q8;have H7:=aE xa qd (J.o.2.2.2.grown qd a.o.pp);clear xa qd q8))
       refine (zA _ (be x' 4) w7 (H7.o.2.2.head ec ec a.o.pg1)).mono ?_;rintro e w8 ⟨rfl,I⟩;obtain rfl:w7=w8:=I.symm;clear I;rw [qo];go_wp2;go_roundw
       case rel=>
        obtain ⟨z,hK,hc,ky⟩:=Q.o;rw [a.o.mul] at z;exact ⟨k+1,ec,eT,by rw [HX.o.2],M8 z hK a.o.dt W hv.re hc ky ec ec (by rw [HP.o.2.2.2];exact qk) HX.o.1 a.o.pg5 J.o.1 J.o.2.1 J.o.2.2.1 (by have h9:=H7.o.1;rw [<- a.o.pg2];first|exact h9|(rw [show page.drop 4=[] from Xl.1 (by rw [Um,a.o.len])];exact h9)) H7.o.2.1 a.o.mul xe qj⟩
       case measure=>simp [intOf];omega)
   . have xo:k=K:=ec;subst xo;have Q:=ak z;clear z;go_wp2;go_ret3
     obtain ⟨y,kr,_,_,qi,hh,X,_⟩:=Q.o;obtain ⟨hK,s,b,_⟩:=HK.o;rw [acd b,UI (by rw [HP.o.2.1];exact b)] at y;rw [UI (by rw [HP.o.2.2.2];exact TV _)] at kr;refine ⟨qi,hh,X,_,_,rfl,?_,by rw [HP.o.2.2.2];exact kr⟩;rw [<- HP.o.2.1] at y;exact Bs.Se y HP.o.1.byt (by rw [HP.o.2.1];omega)
end
def JJ {base:Nat} (h:w.ownsRow base 3 1 u n (jZ l)) (hll:l.length<=1000000) {K:Nat->Prop} (hK:∀ k,u.ownBlock=ZV k->K k):bf K w u l:=by
 have e:n=l.length:=by have:=h.1;unfold jZ at this;rw [Ue,Wg] at this;omega
 rcases h.2 with ⟨c,j⟩|⟨g,cap,cur,a,f,b,_⟩
 . have:l=[]:=UW ec;subst this;rw [c];exact ⟨ZW,0,rfl,T8 _,λh=>absurd rfl h⟩
 . refine ⟨ZV ⟨g,0,ZW⟩,cap,by rw [a,e],hll,λ_=>⟨g,0,rfl,hK g T2,⟨_,_,_,b,ee⟩,λi d=>?_⟩⟩;have:=h.cells (g:=g) T2 i (Z7 Z9 ((l[i]:Nat):Int)) (by unfold jZ;simp [d]);rw [jG] at this;rw [Uj];exact this
structure Po (w:ZS) (ar v p D L G t:Nat) (Kind:aR->Prop) (ps:aR) (P:a8) (xs:aL) (A:az) (F:aK) (e:ZP) (w':ZS):Prop where
 out:aa (λj=>F.S j\/j=v\/ps.bl j\/j=ar) w w'
 ans:∃ ps' pg ob,e=Z3 .nilIface/\(Kind ps'/\∀ k,ps'.bl k->ps.bl k\/w.heap.size<=k)/\aS w' ar v p ps' D L G t pg ob P xs A F
def aaW {A:az} {xs:aL} (h:cK A D L G t P xs):PW A D L G P (an xs.os):=⟨h.page,h.pl,λx a=>(h.Tl x (UG _ a)).2,e9 h.room,oZ _⟩
theorem rY {xs:aL} {A:az} (ho:mN w ar v p ps D L G A F) (J:a9 w ar v D' L' G' t f nn pg ob ZT) (hv:vt D L G Kind ps) (q2:A.nb<=1000) (qg:t1<=1000000) (hd:cK A D L G t1 P xs) :
 ZQ ZM 121 #[Z6 (ZV ⟨ar,0,ZW⟩),.agg (aj D L G t1 (P.getD 0 0) (an xs.os).length)] w (Po w ar v p D L G t1 Kind ps P xs A F):=by
 have M:∀ k,F.S k->k<w.heap.size:=λk c=>ho.vol.arr.RN c;have qa:=ho.arl;have qb:=ho.vol.par.d1;have qd:=ho.vol.par.d;have hP:=aaW hd;have km:=uM hd.fits;have kc:=hd.room;have hU:Du D (an xs.os) xs.os:=AI D ⟨qb,ec⟩ (λo ho=>by obtain ⟨x,hx,rfl⟩:=T9.1 ho;exact (hd.fits x hx).fit) (λo ho=>by obtain ⟨x,hx,rfl⟩:=T9.1 ho;exact (hd.fits x hx).st) (At (by rw [eC];exact hd.up)) ec;have ke:(tk A.nb (P++af xs.os)).2=ZU:=(LJ hd.nod hd.Tl).1;obtain ⟨f1,k9⟩:=nM (P.getD 0 0);obtain ⟨n1,ka⟩:=nM ((an xs.os).length);have W:(w.alloc (Z4 (aj D L G t1 f1 n1) 142)).heap[w.heap.size]?=ZV (Z4 (aj D L G t1 f1 n1) 142 (0,0)):=Ug _ _;have y:bW w (w.alloc (Z4 (aj D L G t1 f1 n1) 142)):=bA w _;have ki:(w.alloc (Z4 (aj D L G t1 f1 n1) 142)).heap.size=w.heap.size+1:=ek
 obtain ⟨w1,kx⟩:=nM (w.alloc (Z4 (aj D L G t1 f1 n1) 142));rw [kx] at W y ki;have V:=J.keep (y.block _ J.lt);have hs:=ho.below y;have kp:=wL (D1:=D) (L1:=L) (G1:=G) (t1:=t1) hs V hv q2 hP;rw [k9,ka] at kp ⊢;have H1:=a7 V hs W y ki kp;have qh:w.alloc (Z4 #[Z7 Z9 D,Z7 Z9 L,Z7 Z9 G,Z7 Z8 t1,Z7 Z9 f1,Z7 Z9 n1] 142)=w1:=kx;have E:=hide8 ho J M hd hU ke k9 ka;clear ho J W y V hs ki kx kp M hd hU ke k9 ka hP km kc;show ZQ ZM 121 #[Z6 (ZV ⟨ar,0,ZW⟩),.agg #[Z7 Z9 D,Z7 Z9 L,Z7 Z9 G,Z7 Z8 t1,Z7 Z9 f1,Z7 Z9 n1]] w _;go_enter func121,ntmps121;go_wp2_with (show wpList _ _ _ ({ dst:=ZV 14,op:=_,type:=_,pos:=_,after:=_,guard:=_ }::_) _ _;refine kS (D:=D) (L:=L) (G:=G) (t:=t1) (f:=f1) (n:=n1) (b:=w.heap.size) rfl (Z0 3) rfl rfl um (by exact H1.o.2.2.1) ?_);refine H1.o.2.2.2.2.2.mono ?_;intro e w2 s;obtain ⟨V,hs,W,y,ki,hx⟩:=H1.o;clear hx;have k7:=s.arr;obtain ⟨ps',m⟩:=s.kit;have h:=hs.got s.out k7 m;have u:=hs.arc s.out V;have q1:aa (λj=>F.S j\/j=v\/ps.bl j) w w2:=(aa.RL y _).trans s.out;have H:aa (λj=>F.S j\/j=v\/ps.bl j\/j=ar) w w2:=q1.mono λj _ q=>by
  rcases q with q|q|q
  . exact .inl q
  . exact .inr (.inl q)
  . exact .inr (.inr (.inl q))
 obtain ⟨up,uq,rfl,kk,l⟩:=s.ans;have C:w2.heap[w.heap.size]?=ZV (Z4 (aj D L G t1 f1 n1) 142 (0,0)):=(s.out.block _ ec (λq=>by
  rcases q with q|q|q
  . have:=E.o.2.2.1 _ q;omega
  . have:=E.o.1.vol.vol.lt;omega
  . have:=ps.lt _ E.o.1.kit _ q;omega)).trans W
 obtain ⟨d0,_⟩:=u.cells;have kr:=dE h.vol.vol ec;have ks:=E.o.2.2.2.2.1 w2 up kk;obtain ⟨hb,hj⟩:=nM (D*44);rw [hj] at kr ks;have qm:=s.out.size;obtain ⟨qn,uc,kf,_⟩:=id kk;rw [E.o.2.2.2.2.2.2.2] at kf;obtain ⟨i,qc,kg⟩:=bm l;obtain ⟨Y,N⟩:=nM (P.length);rw [N] at kg;have X:=hide10 u h C kr ks l H m N hj;clear V hs W y s u h C kr ks q1 H k7 m N l kk;subst kf;subst kg;go_wp2_with fail;refine X.o.2.2.2.1.mono ?_;rintro e R ⟨rfl,q7⟩;obtain rfl:w2=R:=q7.symm;clear q7;go_wp2_with fail;refine X.o.2.2.2.2.1.mono ?_;rintro e R ⟨o,rfl,U,r⟩;obtain ⟨u,h,C,kz,q0,l,H,m,N,hj⟩:=X.o;clear kz q0;have kj:=u.keep (r.block _ u.lt);have a:=h.below r;have k6:aa (λj=>F.S j\/j=v\/ps.bl j\/j=ar) w R:=H.trans (aa.RL r _);obtain ⟨z,oc,q4,_⟩:=id U;have k8:=(r.block _ (TX.1 C).1).trans C;have q5:=kj.there;have O:=CH (D:=D) (L:=L) (G:=G) (t:=t1) (f:=f1) (n:=n1) kj;have T:aa (λk=>k=ar) R (R.setCells ar 1 (aj D L G t1 f1 n1).toList):=aa.setCells _ ar 1 _ rfl;obtain ⟨w8,ky⟩:=nM (R.setCells ar 1 (aj D L G t1 f1 n1).toList);rw [ky] at O T;obtain ⟨c7,f7,c8,f8⟩:=O.tail;have qj:=r.size;have H3:=hide9 O T q5 k8 ky k6 U a r;clear u h C l H m N kj a k8 k6 q5 O T ky U r d0;obtain ⟨no,q3⟩:=nM (xs.os.length);rw [q3] at q4;clear q3;subst q4;go_wp2_with (first|(show wpList _ _ _ ({ dst:=ZV 38,op:=_,type:=_,pos:=_,after:=_,guard:=_ }::_) _ _;refine kS (D:=D) (L:=L) (G:=G) (t:=t1) (f:=f1) (n:=n1) (b:=w.heap.size) rfl (Z0 3) rfl rfl um (by exact H3.o.2.2.2.1) ?_)|(show wpList _ _ _ ({ dst:=ZW,op:=Op.store 142 (Z0 42) (Z0 38),type:=_,pos:=_,after:=_,guard:=_ }::_) _ _;refine wpList_store_mid rfl 142 (Z0 42) (Z0 38) rfl ar 1 (aj D L G t1 f1 n1) um um (by exact H3.o.2.2.1) (kR _ _ _ _ _ _) (qt _ _ _ _ _ _) ?_;rw [H3.o.2.2.2.2.1]));obtain ⟨O,T,kz,q0,qi,k6,U,a,r⟩:=H3.o;clear kz q0 qi;obtain ⟨u,h,C,_,_,l,H,m,N,hj⟩:=X.o;obtain ⟨ho,J,M,hd,_,ke,_⟩:=E.o;have K:=O.late (.slice i Y qc) (.slice z no oc);have g:aa (λk=>k=ar) R ((w8.setCell ⟨ar,7,ZW⟩ (.slice i Y qc)).setCell ⟨ar,8,ZW⟩ (.slice z no oc)):=(T.trans (aa.setCell _ _ _ rfl)).trans (aa.setCell _ _ _ rfl);obtain ⟨w9,q6⟩:=nM ((w8.setCell ⟨ar,7,ZW⟩ (.slice i Y qc)).setCell ⟨ar,8,ZW⟩ (.slice z no oc));rw [q6] at K g ⊢;have kv:v≠ar:=e9 ho.vlt
 have Q:mN w9 ar v p ps' D L G A F:=by
  have qk:=a.vlt;exact { a with vol:={ a.vol with vol:=a.vol.vol.keep (g.block _ a.vol.vol.lt kv),arr:=a.vol.arr.keep λk c=>g.block k (a.vol.arr.RN c) (λe=>a.nar (e▸c)),laid:=a.vol.laid.keep (g.block _ a.vol.laid.lt ec),tab:=a.vol.tab.keep (g.block _ a.vol.tab.lt ec),room:=TU a.vol.room g.size },arl:=T7 a.arl g.size,kit:=ps'.keep _ _ a.kit λk c=>g.block k (ps'.lt _ a.kit k c) (a.apt k c).2.1 }
 have kb:bf (λk=>w.heap.size<k/\¬ ps'.bl k) w2 (.slice i Y qc) P:=JJ l (e9 hd.room) (λk c=>⟨e9 (dY l c),by obtain ⟨cur,hc⟩:=bw l c;exact bU h.kit hc FQ⟩);have hf:bf (λk=>w.heap.size<k/\¬ ps'.bl k) w9 (.slice i Y qc) P:=kb.keep ⟨TU qj g.size,λk c qf=>(g.block k ec (λe=>ec)).trans (r.block k c)⟩;have Z:eN (λk=>w2.heap.size<=k) w9 (.slice z no oc) xs.os:=U.keep ⟨g.size,λk c qf=>g.block k c (λe=>ec)⟩;have kh:aa (λj=>F.S j\/j=v\/ps.bl j\/j=ar) w w9:=k6.trans (g.mono λ_ _ q=>.inr (.inr (.inr q)));have hz:=yt K Q.vol.vol Q.vol.arr (e9 Q.vol.n) P xs.os hf.ltS Z.ltS;rw [ke] at hz;have H9:=a7 hz K Q hf Z kh;clear O T k6 U a r K g q6 Q hf Z kh hz c7 f7 c8 f8 u h C l H m N ho J M kb hd ke;refine H9.o.1.mono ?_;rintro e qo ⟨gt,rfl,qe,ko,B⟩;have q8:=ak B;clear B ko qe;obtain ⟨NB,q9⟩:=nM (A.nb);rw [q9];go_wp2;go_ret;obtain ⟨_,K,Q,hf,Z,kh⟩:=H9.o;obtain ⟨_,h,_,_,_,_,_,m,_⟩:=X.o;obtain ⟨ho,J,M,hd,_,_,k9,ka⟩:=E.o;have B:=q8.out;have I:=Q.below B;have y:=H1.o.2.2.2.2.1;refine ⟨kh.trans (aa.RL B _),⟨ps',_,_,rfl,⟨m.kind,λk c=>(m.bl k c).imp id λq=>ec⟩,{ arc:=by rw [k9,ka];exact K.keep (B.block _ K.lt),vol:=I.vol,nar:=I.nar,vlt:=I.vlt,disk:=hd,pgs:=(hf.keep (ef.RM B)).wk λk c _=>⟨ec,λe=>e9 (M k e),c.2⟩,cat:=(Z.keep (ef.RM B)).wk λk c _=>⟨ec,λe=>e9 (M k e),λe=>e9 (ps'.lt _ h.kit _ e)⟩,nb:=q2,turn:=qg,kit:=I.kit,apt:=I.apt,hl:=I.hl,fine:=I.fine }⟩⟩
structure FS (w:ZS) (ar v p D L G t:Nat) (Kind:aR->Prop) (ps:aR) (xs:aL) (A:az) (F:aK) (e:ZP) (w':ZS):Prop where
 out:aa (λj=>F.S j\/j=v\/ps.bl j\/j=ar) w w'
 ans:∃ ps' pg ob P B,e=Z3 .nilIface/\(Kind ps'/\∀ k,ps'.bl k->ps.bl k\/w.heap.size<=k)/\dJ A B/\aS w' ar v p ps' D L G t pg ob P xs B F
def mD (h:a9 w ar v D L G t f n pg ob off):w.cell? ⟨ar,0,ZW⟩=ZV (Z6 (ZV ⟨v,0,ZW⟩)):=h.cells.1
def AT {ps:Nat} (h:bg w v p D L G ps ho):w.cell? ⟨v,5,ZW⟩=ZV (Z7 Z8 ho)/\w.frozen? ⟨v,5,ZW⟩=ZT:=by
 have a:w.heap[v]?=ZV (Z4 #[Z6 (ZV ⟨p,0,ZW⟩),Z7 Z9 D,Z7 Z9 L,Z7 Z9 G,Z6 (ZV ⟨ps,0,ZW⟩),Z7 Z8 ho] 139 (0,0)):=h;simp [World.cell?,World.frozen?,a]
def aaX {ps:Nat} (h:bg w v p D L G ps ho) (x:Nat):bg (w.setCell ⟨v,5,ZW⟩ (Z7 Z8 x)) v p D L G ps x:=ag (j:=5) h (Z7 Z8 x)
def mN.SF {A:az} (h:mN w ar v p ps D L G A F) {b:Nat} (d:b<2^(D+L+G)):mN (w.setCell ⟨v,5,ZW⟩ (Z7 Z8 (b:Nat))) ar v p (ps.SF b) D L G A F:=by
 have:=h.vlt;have a:aa (λk=>k=v) w (w.setCell ⟨v,5,ZW⟩ (Z7 Z8 (b:Nat))):=aa.setCell _ _ _ rfl;exact { h with vol:={ h.vol with vol:=aaX h.vol.vol b,arr:=h.vol.arr.keep λk c=>a.block k (h.vol.arr.RN c) (λe=>h.vol.v (e▸c)),laid:=h.vol.laid.keep (a.block _ h.vol.laid.lt ec),tab:=h.vol.tab.keep (a.block _ h.vol.tab.lt ec),room:=TU h.vol.room a.size },arl:=T7 h.arl a.size,kit:=ps.keep _ _ h.kit λk c=>a.block k (ps.lt _ h.kit k c) (h.apt k c).2.2.1,hl:=d }
def mN.same {A:az} (h:mN w ar v p ps D L G A F) (a:aa F.S w w') (c:aA w' p A F):mN w' ar v p ps D L G A F:=
 { h with vol:=h.vol.turn a c rfl,arl:=T7 h.arl a.size,kit:=ps.keep _ _ h.kit λk b=>a.block k (ps.lt _ h.kit k b) (h.apt k b).2.2.2 }
def AU {A:az} {r:bG} (h:A.at b (λ_=>r)) {i:Nat} (a:i<A.n):Fnd (A.RX i b) r:=by
 cases hg:gnB A b i
 . exact .inr (.inr (by rw [LU hg,(h i a).1]))
 . exact (Ff hg).elim (λq=>.inl q.2) λq=>q.elim (λq=>.inl q.2) λq=>.inr (.inl q.2)
theorem FT {A:az} {xs:aL} (h:cK A D L G t P xs) (ds:a8) (a:∀ i∈ds,i<A.n):cK (A.putAt ds 0 (λ_=>.root D L G t (P.getD 0 0) (an xs.os).length)) D L G t P xs/\dJ A (A.putAt ds 0 (λ_=>.root D L G t (P.getD 0 0) (an xs.os).length)):=by
 refine ⟨h.off (dJ.put _ _ _ _).Tq λb _ i=>?_,dJ.put _ _ _ _⟩;show (if b=0/\i∈ds then _ else _)=_;split
 . rename_i q
   rw [q.1];exact (h.root i (a i q.2)).1.symm
 . rfl
def qO (h:S<2^N) {i:Nat} (b:i∈ab S):i<N:=by
 by_cases q:i<N
 . exact q
 . have a:=(cE.1 b).2;rw [WD (T7 h (UY ee ec))] at a;cases a
theorem FU {xs:aL} {A:az} (ho:mN w ar v p ps D L G A F) (x:a9 w ar v D' L' G' t f nn pg ob ZT) (hv:vt D L G Kind ps) (q9:A.nb<=1000) (qb:t1<=1000000) (hd:cK A D L G t1 P xs) (c:w.rowIs g 215 A.n (λi=>fU (A.RX i 0))) (K:¬ F.S g) :
 ZQ ZM 91 #[Z6 (ZV ⟨ar,0,ZW⟩),.agg (aj D L G t1 (P.getD 0 0) (an xs.os).length),Z5 (ZV ⟨g,0,ZW⟩) A.n A.n] w (FS w ar v p D L G t1 Kind ps xs A F):=by
 have I:∀ k,F.S k->k<w.heap.size:=λk hk=>ho.vol.arr.RN hk;have q4:=ho.arl;have q6:=ho.vol.par.d;have kk:A.n<=16:=by rw [ho.vol.n];exact ho.vol.par.s
 have qa:2<=A.nb:=e9 hd.room
 obtain ⟨f1,hc⟩:=nM (P.getD 0 0);obtain ⟨n1,u⟩:=nM ((an xs.os).length);rw [hc,u];have J:(w.alloc (Z4 (aj D L G t1 f1 n1) 142)).heap[w.heap.size]?=ZV (Z4 (aj D L G t1 f1 n1) 142 (0,0)):=Ug _ _;have m:bW w (w.alloc (Z4 (aj D L G t1 f1 n1) 142)):=bA w _;have V:(w.alloc (Z4 (aj D L G t1 f1 n1) 142)).heap.size=w.heap.size+1:=ek
 obtain ⟨w1,ko⟩:=nM (w.alloc (Z4 (aj D L G t1 f1 n1) 142));rw [ko] at J m V;have H:=x.keep (m.block _ x.lt);have z:=ho.below m;have k9:=z.below ((TW _ w1).drew);have q0:=iQ k9.vol 1 ec;obtain ⟨E,kr⟩:=nM (cy (λi=>A.RX i 1) A.n);have q5:E<2^(D+L+G):=by rw [<- kr,<- ho.vol.n];exact iY _ _ ec
 have ca:=mD H;have qc:w.alloc (Z4 #[Z7 Z9 D,Z7 Z9 L,Z7 Z9 G,Z7 Z8 t1,Z7 Z9 f1,Z7 Z9 n1] 142)=w1:=ko;have h:=a7 H z J m V q0;have HV:=hide8 ho x I c K hd hc u;clear x J m H z k9 V ko q0 I c K ho hd hc u;show ZQ ZM 91 #[Z6 (ZV ⟨ar,0,ZW⟩),.agg #[Z7 Z9 D,Z7 Z9 L,Z7 Z9 G,Z7 Z8 t1,Z7 Z9 f1,Z7 Z9 n1],Z5 (ZV ⟨g,0,ZW⟩) A.n A.n] w _;go_enter func91,ntmps91;go_upto_region 1 with fail;go_cut [19] from 8 to 18 (λ_v wx=>∃ X,wx=X.setCell ⟨v,5,ZW⟩ (Z7 Z8 (E:Nat))/\aA X p A F/\aa F.S w1 X)
 case first=>
  go_region_with (first
   | (go_at_call 89;refine h.o.2.2.2.2.2.mono ?_;rintro e w2 ⟨g2,rfl,q7,hx,hm,kg⟩;have H2:=aE hx hm kg;have qf:=mD (h.o.1.keep (kg.block _ h.o.1.lt h.o.2.1.nar));clear hx hm kg q7)
   | (go_at_call 93;refine (vz (λi=>A.RX i 1) ec H2.o.1).mono ?_;rw [kr];rintro e w3 ⟨rfl,ki⟩;have kb:aa (F.S) w1.drew w3:=H2.o.2.2.trans (aa.RL ki _);have qg:=mD (h.o.1.keep (kb.block _ h.o.1.lt h.o.2.1.nar));obtain ⟨qh,qi⟩:=AT (h.o.2.1.vol.vol.keep (kb.block _ h.o.2.1.vol.vol.lt h.o.2.1.vol.v));have H3:=al ki kb;clear ki kb))
  all_goals (go_wp2_with fail;go_meet;case rel=>(
   exact ⟨w3,rfl,H2.o.2.1.below H3.o.1 lR,(aa.drew w1).trans H3.o.2⟩))
 case rest=>
  obtain ⟨X,rfl,hp,T⟩:=hcut;obtain ⟨H,z,J,m,V,_⟩:=h.o;obtain ⟨ho,x,I,c,K,hd,hc,u⟩:=HV.o;have k0:aa (λj=>F.S j\/j=v\/ps.bl j) w1 X:=T.mono λ_ _ q=>.inl q;have ky:=z.same T hp;have km:=ky.SF q5;have k8:aa (λk=>k=v) X (X.setCell ⟨v,5,ZW⟩ (Z7 Z8 (E:Nat))):=aa.setCell _ _ _ rfl;have ka:v≠ar:=e9 ho.vlt
  have ke:=z.arc k0 H;have kf:=ke.keep (k8.block _ ke.lt (λe=>ka e.symm));have Q:(X.setCell ⟨v,5,ZW⟩ (Z7 Z8 (E:Nat))).heap[w.heap.size]?=ZV (Z4 (aj D L G t1 f1 n1) 142 (0,0)):=(k8.block _ (e9 T.size) (e9 ho.vol.vol.lt)).trans ((T.block _ ec (λe=>e9 (I _ e))).trans J);have N:aa (λj=>F.S j\/j=v\/ps.bl j) w1 (X.setCell ⟨v,5,ZW⟩ (Z7 Z8 (E:Nat))):=k0.trans (k8.mono λ_ _ q=>.inr (.inl q));have M:(X.setCell ⟨v,5,ZW⟩ (Z7 Z8 (E:Nat))).rowIs g 215 A.n (λi=>fU (A.RX i 0)):=((c.of_block (m.block _ c.lt)).of_block (T.block _ (e9 c.lt) K)).of_block (k8.block _ (by have:=c.lt;have:=T.size;omega) (λe=>by
   obtain ⟨cs,U,_⟩:=c;have h2:=ho.vol.vol;rw [<- e] at h2;have l:w.heap[g]?=ZV (Z4 #[Z6 (ZV ⟨p,0,ZW⟩),Z7 Z9 D,Z7 Z9 L,Z7 Z9 G,Z6 (ZV ⟨ps.ps,0,ZW⟩),Z7 Z8 ps.ho] 139 (0,0)):=h2;rw [U] at l;simp only [UB,UQ] at l;exact absurd l.2.1 ee))
  obtain ⟨Y,hY⟩:=nM (X.setCell ⟨v,5,ZW⟩ (Z7 Z8 (E:Nat)));rw [hY] at km kf Q N M ⊢;have kj:=rY (t1:=t1) km kf (⟨hv.sh,hv.re,hv.pk,hv.re _ _ hv.kind⟩:vt D L G Kind (ps.SF E)) q9 qb hd;rw [hc,u] at kj;have HL:=a5 kj Q N M;clear H z J m V ho x I c K k0 ky km k8 ke kf Q N kj ca hY hp T M ka hd hc u;go_wp2_with (show wpList _ _ _ ({ dst:=ZV 21,op:=_,type:=_,pos:=_,after:=_,guard:=_ }::_) _ _;refine kS (D:=D) (L:=L) (G:=G) (t:=t1) (f:=f1) (n:=n1) (b:=w.heap.size) rfl (Z0 4) rfl rfl um (by exact HL.o.2.1) ?_);refine HL.o.1.mono ?_;rintro e a ⟨kc,kh⟩;obtain ⟨_,Q,N,M⟩:=HL.o;obtain ⟨ho,x,I,c,K,hd,hc,u⟩:=HV.o;obtain ⟨H,z,J,m,V,_⟩:=h.o;have k7:aa (λj=>F.S j\/j=v\/ps.bl j\/j=ar) w a:=((aa.RL m _).trans (N.mono λj _ q=>by
   rcases q with q|q|q
   . exact .inl q
   . exact .inr (.inl q)
   . exact .inr (.inr (.inl q)))).trans kc
  obtain ⟨C,qd,hb,rfl,kx,hs⟩:=kh;have q2:b9 (∀ k,C.bl k->ps.bl k\/w.heap.size<=k):=ak λk hk=>(kx.2 k hk).imp id λq=>TU (TU m.size N.size) q;have kv:a.rowIs g 215 A.n (λi=>fU (A.RX i 0)):=M.of_block (kc.block _ M.lt (λq=>by
   rcases q with q|q|q|q
   . exact K q
   . obtain ⟨cs,U,_⟩:=c;have l:w.heap[v]?=ZV (Z4 #[Z6 (ZV ⟨p,0,ZW⟩),Z7 Z9 D,Z7 Z9 L,Z7 Z9 G,Z6 (ZV ⟨ps.ps,0,ZW⟩),Z7 Z8 ps.ho] 139 (0,0)):=ho.vol.vol;rw [<- q,U] at l;simp only [UB,UQ] at l;exact absurd l.2.1 ee
   . obtain ⟨cs,U,_⟩:=c;exact bU ho.kit U vf q
   . obtain ⟨cs,U,_⟩:=c;have l:w.heap[ar]?=ZV (Z4 _ 146 (0,0)):=x;rw [<- q,U] at l;simp only [UB,UQ] at l;exact absurd l.2.1 ee))
  have O:a.heap[w.heap.size]?=ZV (Z4 (aj D L G t1 f1 n1) 142 (0,0)):=(kc.block _ (TX.1 Q).1 (λq=>by
   rcases q with q|q|q|q
   . have:=I _ q;omega
   . have:=ho.vol.vol.lt;omega
   . have q':ps.bl w.heap.size:=q;have:=ps.lt _ ho.kit _ q';omega
   . omega)).trans Q
  have q1:=vC (w:=a.drew) (R:=λi=>A.RX i 0) (r:=.root D L G t1 f1 n1) ec trivial (λi Z=>by rw [<- hc,<- u];exact AU hd.root Z) (kv.of_block rfl);have kz:(bG.root D L G t1 f1 n1).ok:=by
   have h1:=ho.vol.par.d;have h2:=ho.vol.par.l4;have l:=ho.vol.par.g;have h4:=hs.packL_le;have h5:f1<A.nb:=by
    rw [<- hc];exact (hd.Tl _ (UG _ (lV (by rw [hd.pl];unfold pgs;omega)))).2
   exact ⟨ec,ec,ec,ec,ec,ec⟩
  have ks:∀ y,y<2^A.n->∀ wx,aA wx p (A.putAt (ab y) 0 (λ_=>.root D L G t1 f1 n1)) F->aa F.S a wx->∃ B,dJ A B/\aS wx ar v p C D L G t1 qd hb P xs B F:=λy hy wx hB hO=>by
   have hg:=FT hd (ab y) λi Z=>qO hy Z;rw [hc,u] at hg;exact ⟨_,hg.2,Jo hs (hs.arc.keep (hO.block _ hs.arc.lt hs.nar)) hB (hO.mono λ_ _ q=>.inr q) hg.2 hg.1⟩
  have z0:a.cell? ⟨w.heap.size,0,ZW⟩=ZV (Z7 Z9 D):=T3
  have z1:a.cell? ⟨w.heap.size,1,ZW⟩=ZV (Z7 Z9 L):=T3
  have z2:a.cell? ⟨w.heap.size,2,ZW⟩=ZV (Z7 Z9 G):=T3
  have z3:a.cell? ⟨w.heap.size,3,ZW⟩=ZV (Z7 Z8 t1):=T3
  have z4:a.cell? ⟨w.heap.size,4,ZW⟩=ZV (Z7 Z9 f1):=T3
  have z5:a.cell? ⟨w.heap.size,5,ZW⟩=ZV (Z7 Z9 n1):=T3
  have qe:=mD hs.arc;have W:=a6 hs q1 kz k7 ks;clear Q N M ho x I c K H z J m V k7 kc kv O q1 kz hs ks hd hc u;go_upto_region 5 with fail;go_cut [36] from 26 to 35 (λ_v wx=>(∃ B,dJ A B/\aS wx ar v p C D L G t1 qd hb P xs B F)/\aa F.S a wx)
  case first=>
   go_region_with (first
    | (go_at_call 117;refine W.o.2.1.mono ?_;rintro e w5 ⟨y,rfl,hy,-,rfl⟩;have HY:=ak hy;clear hy)
    | (go_at_call 118;refine (eZ (W.o.1.vol.below ((TW _ a).drew) lR) 0 y ec (T7 HY.o (jk kk)) (λi Z=>qO HY.o Z) (.root D L G t1 f1 n1) W.o.2.2.1).mono ?_;rintro e w6 ⟨rfl,hn,kp⟩;have H6:=al hn kp;clear hn kp))
   all_goals (go_wp2_with fail;go_meet;case rel=>exact ⟨W.o.2.2.2.2 y HY.o _ H6.o.1 ((aa.drew a).trans H6.o.2),(aa.drew a).trans H6.o.2⟩)
  case rest=>
   have HF:=ak hcut;clear hcut qe;go_wp2;go_ret;obtain ⟨⟨B,hB,q8⟩,q3⟩:=HF.o;exact ⟨W.o.2.2.2.1.trans (q3.mono λ_ _ q=>.inl q),⟨C,_,_,_,B,rfl,⟨kx.1,q2.out⟩,hB,q8⟩⟩
def pf:∀ k,(∀ i,i<k->R i=ZW\/R i=ZV .blank)->bt R k=⟨0,0,0,0,0,0⟩
 | 0,_=>rfl
 | k+1,h=>by
  show lX (bt R k) (R k)=_;rw [pf k λi a=>h i ec];rcases h k ec with e|e<;>rw [e]<;>rfl
def rJ (h:R i=ZV .blank):∀ k,i<k->(cy R k).testBit i=ZU
 | 0,hi=>absurd hi (XK _)
 | k+1,hi=>by
  show (FH (cy R k) k (R k)).testBit i=ZU;by_cases e:i=k
  . subst e;rw [h];show (cy R i|||2^i).testBit i=ZU;simp
  . have ih:=rJ h k ec;cases hb:sH (R k)
    . rw [G0 hb];exact ih
    . have a:FH (cy R k) k (R k)=cy R k|||2^k:=by
       cases hR:R k with
       | none=>rw [hR] at hb;cases hb
       | some r=>cases r<;>first|rfl|(rw [hR] at hb;cases hb)
      rw [a,V6,ih,Bool.true_or]
def zf {lost:Nat} (b:D<=12) (c:G<=4) (h:∀ i,i<D+L+G->lost/2^i%2=0):gu D L G lost:=
 mF.units (nI (λl hl=>oH D L G b c l (ub _ _ _ Zd l hl)) 0) λj a=>aW.mem (j8 j) ((oF _ _ _ _).2 ⟨j,ec,h j ec,by rw [Lw D L G j a,Lv D j a]⟩)
def Pp (x:Nat) (h:x<2^64):(2^64-1)^^^x=2^64-1-x:=by
 refine Xw λi=>?_;rw [abI,XC,(ec:2^64-1-x=2^64-(x+1)),XB h];by_cases a:i<64
 . simp [a]
 . have:x.testBit i=ZT:=WD (T7 h (UY ee ec));simp [a,this]
def Pr (x:Nat) (h:x<18446744073709551616):bits .xor .u64 IntKind.u64.max (x:Int)=((18446744073709551615-x:Nat):Int):=by
 have:=bits_xor_u64_nat 18446744073709551615 x ee h;rw [(ee:(18446744073709551615:Nat)=2^64-1),Pp x ec] at this;exact this
def rM (c:0<t):∀ k,(∀ i,i<k->Fnd (R i) (.root D L G t f n))->(bt R k=⟨D,L,G,t,f,n⟩)\/(bt R k=⟨0,0,0,0,0,0⟩/\∀ i,i<k->R i=ZW\/R i=ZV .blank)
 | 0,_=>.inr ⟨rfl,λ_ h=>absurd h (XK _)⟩
 | k+1,h=>by
  show (lX (bt R k) (R k)=_)\/(lX (bt R k) (R k)=_/\_);have ih:=rM c k λi b=>h i ec;rcases h k ec with e|e|e
  . rw [e];refine ih.imp id λq=>⟨q.1,λi b=>?_⟩;by_cases a:i=k
    . rw [a];exact .inl e
    . exact q.2 i ec
  . rw [e];refine ih.imp id λq=>⟨q.1,λi b=>?_⟩;by_cases a:i=k
    . rw [a];exact .inr e
    . exact q.2 i ec
  . rw [e];refine .inl ?_;rcases ih with q|q
    . rw [q];exact TS (Nat.lt_irrefl _)
    . rw [q.1];exact TT c
def Beg (A:az) (D L G t:Nat) (xs:aL):Prop:=(t=1/\xs=[]/\A.at 0 λ_=>.blank)\/(t<=1000000/\∃ P,cK A D L G t P xs)
def G4 {l:Nat}:l/2^i%2=0↔l.testBit i=ZT:=by
 rw [Wy,decide_eq_false_iff_not];omega
def M9 {A:az} {r:bG} (h:A.at b λ_=>r) {i:Nat} (a:i<A.n) (hs:A.sv.testBit i=ZT):A.RX i b=ZV r:=by
 cases hg:gnB A b i
 . rw [LU hg,(h i a).1]
 . rw [(h i a).2 hg] at hs;cases hs
def Na {A:az} {xs:aL} (h:Beg A D L G t xs) (s:A.n=D+L+G) (r:A.n<=16) (l:1<=D) (m:A.fine D L G):(∃ P,t<=1000000/\cK A D L G t P xs/\bt (λi=>A.RX i 0) A.n=⟨D,L,G,t,P.getD 0 0,(an xs.os).length⟩) \/
 (bt (λi=>A.RX i 0) A.n=⟨0,0,0,0,0,0⟩/\t=1/\xs=[]/\gu D L G (18446744073709551615-cy (λi=>A.RX i 0) A.n)):=by
 have hT:=m.1;rcases h with ⟨j,d,f⟩|⟨o,P,hd⟩
 . refine .inr ⟨pf _ λi a=>(AU f a).imp id λq=>q.elim id id,j,d,yu _ A.sv _ _ D (λi a g=>?_) hT⟩;have c:=rJ (R:=λi=>A.RX i 0) (i:=i) (M9 f ec (G4.1 g)) A.n ec;have:=iY (λi=>A.RX i 0) A.n ec;have:=Ca (k:=A.n) ec;rw [G4];have e:=XB (x:=cy (λi=>A.RX i 0) A.n) (n:=64) ec i;rw [(ec:2^64-(cy (λi=>A.RX i 0) A.n+1)=18446744073709551615-cy (λi=>A.RX i 0) A.n),c] at e;rw [e];simp
 . rcases rM hd.turn A.n (λi a=>AU hd.root a) with q|⟨q,p⟩
   . exact .inl ⟨P,o,hd,q⟩
   . refine absurd hT (II _ _ _ _ l λi a=>?_);have c:A.sv.testBit i=ZU:=by
      cases hh:A.sv.testBit i
      . have b:=p i ec;simp only [M9 hd.root (ec:i<A.n) hh] at b;rcases b with b|b<;>cases b
      . rfl
     rw [Wy] at c;exact WE c
def FV {A:az} (ho:mN w ar v p ps D L G A F) (l:5<=A.nb) (d:A.nb<=1000) (h:aA w' p (nB A D L G) F) (i:a9 w' ar v D L G 1 2 0 u (Z5 ZW 0 0) ZT) (j:bf (λk=>w.heap.size<=k) w' u [2]) (b:aa (λk=>k=ar\/F.S k) w w'):aS w' ar v p ps D L G 1 u (Z5 ZW 0 0) [2] [] (nB A D L G) F/\dJ A (nB A D L G):=by
 have hv:=ho.vlt;have f:pgs D 0=1:=by
  unfold pgs;have:=ho.vol.par.d1;rw [Uj,Xx ec];rfl
 have a:dJ A (nB A D L G):=dJ.trans (B:=A.putAt (YE A.n) 1 (λ_=>.filled)) (dJ.put _ _ _ _) (AN (A.putAt (YE A.n) 1 (λ_=>.filled)) D L G 1 [2] []);have hd:cK (nB A D L G) D L G 1 [2] []:=qC (B:=A.putAt (YE A.n) 1 (λ_=>.filled)) (P':=[2]) (xs':=[]) ((dJ.put _ _ _ _).fine ho.fine) (uE _ _ ho.fine.2) (show [2].length=pgs D 0 from f.symm) ee (λx c=>by
  have:x=2:=by simpa [af,aL.os] using c
  rw [this];show 2<=2/\2<A.nb;omega) (λx c=>by cases c) List.Pairwise.nil (λx c=>by cases c) (by show 0+2*1+2<=A.nb;omega) ee
 exact ⟨{ arc:=i,fine:=a.fine ho.fine,vol:={ ho.vol with vol:=ho.vol.vol.keep (b.block _ ho.vol.vol.lt (λe=>e.elim ec ho.vol.v)),arr:=h,laid:=ho.vol.laid.keep (b.block _ ho.vol.laid.lt (λe=>e.elim ec ho.vol.g)),tab:=ho.vol.tab.keep (b.block _ ho.vol.tab.lt (λe=>e.elim ec ho.vol.t)),room:=TU ho.vol.room b.size,n:=a.n.trans ho.vol.n },nar:=ho.nar,vlt:=ho.vlt,disk:=hd,pgs:=j.wk λk a _=>⟨e9 ho.arl,λe=>by have:=ho.vol.arr.RN (k:=k) e;omega,λe=>e9 (ps.lt _ ho.kit _ e)⟩,cat:=eN.nil _ _,nb:=by rw [a.nb];exact d,turn:=ee,kit:=ps.keep _ _ ho.kit λk a=>b.block k (ps.lt _ ho.kit k a) (λe=>e.elim (ho.apt k a).2.1 (ho.apt k a).2.2.2),apt:=ho.apt,hl:=ho.hl },a⟩
theorem Nb {xs:aL} {A:az} (ho:mN w ar v p ps D L G A F) (U:a9 w ar v 0 0 0 0 0 0 (Z5 ZW 0 0) (Z5 ZW 0 0) ZT) (hv:vt D L G Kind ps) (qb:5<=A.nb) (ke:A.nb<=1000) (hS:Beg A D L G tt xs) :
 ZQ ZM 68 #[Z6 (ZV ⟨ar,0,ZW⟩)] w (FS w ar v p D L G tt Kind ps xs A F):=by
 obtain ⟨c0,_⟩:=U.cells;have Q:=ho.vol.par;have qa:=ho.vol.n;have kc:A.n<=16:=by rw [ho.vol.n];exact Q.s
 have x:=Na hS qa kc Q.d1 ho.fine;have k6:∀ k,F.S k->k<w.heap.size:=λk hk=>ho.vol.arr.RN hk;have q6:=iQ ho.vol 0 ec;have HV:=a5 ho U k6 hS;clear ho U k6 hS;go_enter func68,ntmps68;go_wp2_with fail;refine q6.mono ?_;rintro e w1 ⟨g,rfl,hg,T,kx,V⟩;obtain ⟨ho,U,k6,_⟩:=HV.o;have kf:=ho.same V kx;have hz:=U.keep (V.block _ U.lt ho.nar);have Y:¬ F.S g:=λe=>e9 (k6 _ e)
 have kb:=AS (N:=A.n) (λi=>A.RX i 0) ec (w:=w1) T;obtain ⟨⟨a,l,c,rt,E,H⟩,q7⟩:∃ r,bt (λi=>A.RX i 0) A.n=r:=⟨_,rfl⟩;rw [q7] at kb x;rw [show Jz ⟨a,l,c,rt,E,H⟩=aj a l c rt E H from rfl] at kb;have hj:(0<rt/\a=D/\l=L/\c=G)\/rt=0:=by
  rcases x with ⟨P,_,hd,q⟩|⟨q,_⟩
  . simp only [Rt.mk.injEq] at q;exact .inl ⟨by rw [q.2.2.2.1];exact hd.turn,q.1,q.2.1,q.2.2.1⟩
  . simp only [Rt.mk.injEq] at q;exact .inr q.2.2.2.1
 obtain ⟨N,y⟩:=nM (A.n);have H1:=hide7 hz kf V T y Y x;rw [y] at kb kc;clear hz kf V T kx q6 ho U k6 Y q7 x;rw [y];clear y;go_wp2_with fail;refine kb.mono ?_;rintro e w2 ⟨rfl,ko⟩;have qg:=pZ;obtain ⟨hz,kf,V,T,y,Y,x⟩:=H1.o;have k5:bW w1 (fR w2 a l c rt E H):=ko.trans ((eX w2 a l c rt E H).mono ko.size);have O:=hz.keep (k5.block _ hz.lt);have hs:=kf.below k5;have W:=T.of_block (k5.block g T.lt);have hc:=vw w2 a l c rt E H;obtain ⟨I,kv⟩:=nM (fR w2 a l c rt E H);rw [kv] at k5 O hs W hc;have x0:I.cell? ⟨w2.heap.size,0,ZW⟩=ZV (Z7 Z9 a):=Zj
 have x1:I.cell? ⟨w2.heap.size,1,ZW⟩=ZV (Z7 Z9 l):=Zj
 have x2:I.cell? ⟨w2.heap.size,2,ZW⟩=ZV (Z7 Z9 c):=Zj
 have x3:I.cell? ⟨w2.heap.size,3,ZW⟩=ZV (Z7 Z8 rt):=Zj
 obtain ⟨d0,_⟩:=O.cells;have k7:aa (F.S) w I:=V.trans (aa.RL k5 _);have q8:=fI (w:=I.drew) (hs.vol.vol.keep rfl);have H3:=hide7 O hs W k7 kv hc q8;clear hz kf V T ko k5 O hs W hc k7 kv c0 y Y kb q8 x;have qc:∀ w:ZS,(binOp .neq 27 (.agg #[Z7 Z9 D,Z7 Z9 L,Z7 Z9 G]) (.agg #[Z7 Z9 D,Z7 Z9 L,Z7 Z9 G])).run ZM w=.ok (Z1 ZT) w:=λw=>by
  have h:=Mw D L G D L G w;rw [UZ (by exact ⟨rfl,rfl,rfl⟩)] at h;simp only [binOp];simp [Op.equal,Op.maxDepth,h]
 go_upto_region 3 with (show wpList _ _ _ ({ dst:=ZW,op:=Op.store 142 (Z0 4) (Z0 11),type:=_,pos:=_,after:=_,guard:=_ }::_) _ _;refine AR (w:=w2) (D:=a) (L:=l) (G:=c) (t:=rt) (f:=E) (n:=H) rfl (Z0 4) (Z0 11) rfl um um ?_;rw [H3.o.2.2.2.2.1]);simp only [Act.put];go_cut [12] from 13 to 25 (λqj wx=>bW I wx/\qj=Z1 ZT)
 case first=>
  rcases hj with ⟨q5,rfl,rfl,rfl⟩|h0
  . have ks:(rt:Int)>0:=ec;have km:b9 (w2.heap.size<I.drew.heap.size):=ak (Uf x0);go_region_with (go_at_call 77;refine H3.o.2.2.2.2.2.2.mono ?_;rintro e J ⟨rfl,k9,_,_⟩;have M:=ak k9;have y0:J.cell? ⟨w2.heap.size,0,ZW⟩=ZV (Z7 Z9 a):=(k9.cell (p:=⟨w2.heap.size,0,ZW⟩) km.out).trans x0;have y1:J.cell? ⟨w2.heap.size,1,ZW⟩=ZV (Z7 Z9 l):=(k9.cell (p:=⟨w2.heap.size,1,ZW⟩) km.out).trans x1;have y2:J.cell? ⟨w2.heap.size,2,ZW⟩=ZV (Z7 Z9 c):=(k9.cell (p:=⟨w2.heap.size,2,ZW⟩) km.out).trans x2;clear k9);all_goals (go_wp2_with fail;go_meet;case rel=>exact ⟨(TW _ I).drew.trans M.o,ek⟩)
  . have qk:I.cell? ⟨w2.heap.size,3,ZW⟩=ZV (Z7 Z8 0):=(by rw [x3,h0];rfl);clear x3;go_quiet (fail);go_wp2_with fail;go_meet
    case rel=>exact ⟨⟨rfl,rfl,rfl,TV _,λ_ _=>rfl⟩,rfl⟩
 case rest=>
  rename ZS=>J;obtain ⟨h6,rfl⟩:=hcut;obtain ⟨O,hs,W,k7,_,hc,_⟩:=H3.o;have m:=O.keep (h6.block _ O.lt);have C:=hs.below h6;have z:=W.of_block (h6.block g W.lt);have ky:aa (F.S) w J:=k7.trans (aa.RL h6 _);have hy:=(h6.block _ (TX.1 hc).1).trans hc;have c3:J.cell? ⟨w2.heap.size,3,ZW⟩=ZV (Z7 Z8 rt):=by simp [World.cell?,hy,aj]
  obtain ⟨d4,_⟩:=m.cells;have K:aa (λj=>F.S j\/j=v\/ps.bl j\/j=ar) w J:=ky.mono λ_ _ q=>.inl q;have M:=a6 m C z K hy;clear O hs W k7 hc m C z ky K hy h6 x0 x1 x2 x3 d0 qc;rcases hj with ⟨ks,rfl,rfl,rfl⟩|rfl
  . have qf:(rt:Int)>0:=ec;obtain ⟨m,C,z,K,hy⟩:=M.o;obtain ⟨_,_,_,_,y,Y,x⟩:=H1.o;obtain ⟨P,ht,hd,q⟩:∃ P,tt<=1000000/\cK A a l c tt P xs/\(⟨a,l,c,rt,E,H⟩:Rt)=⟨a,l,c,tt,P.getD 0 0,(an xs.os).length⟩:=by
     rcases x with h|⟨q,_⟩
     . exact h
     . simp only [Rt.mk.injEq] at q;omega
    simp only [Rt.mk.injEq,true_and] at q;obtain ⟨rfl,rfl,rfl⟩:=q;have kj:=FU C m hv ke ht hd z Y;rw [y] at kj;obtain ⟨E,qd⟩:=nM (P.getD 0 0);obtain ⟨H,qe⟩:=nM ((an xs.os).length);rw [qd,qe] at hy kj;have HR:=al kj hy;clear m C z K hy y Y x kj hd;go_wp2_with (show wpList _ _ _ ({ dst:=ZV 32,op:=_,type:=_,pos:=_,after:=_,guard:=_ }::_) _ _;refine kS (D:=a) (L:=l) (G:=c) (t:=rt) (f:=E) (n:=H) (b:=w2.heap.size) rfl (Z0 4) rfl rfl um (by exact HR.o.2) ?_);refine HR.o.1.mono ?_;intro e w5 hp;obtain ⟨ev,he⟩:∃ ev,e=Z3 ev:=by
     obtain ⟨_,_,_,_,_,rfl,_⟩:=hp.ans;exact ⟨_,rfl⟩
    subst he;have R:=ak hp;clear hp;go_wp2;go_ret;obtain ⟨qi,pg5,qh,P5,B,k0,k1,k2⟩:=R.o.ans;exact ⟨M.o.2.2.2.1.trans R.o.out,qi,pg5,qh,P5,B,k0,⟨k1.1,λk hk=>(k1.2 k hk).imp id λq=>TU M.o.2.2.2.1.size q⟩,k2⟩
  . have hb:J.cell? ⟨w2.heap.size,3,ZW⟩=ZV (Z7 Z8 0):=c3;clear c3;go_wp2_with fail;refine (wh M.o.2.1.vol.vol).mono ?_;rintro e w5 ⟨rfl,kp⟩;obtain ⟨m,C,z,K,_⟩:=M.o;have kz:=z.of_block (kp.block g z.lt);obtain ⟨_,_,_,_,y,_,x⟩:=H1.o;have kr:=vz (N:=A.n) (λi=>A.RX i 0) ec (w:=w5) kz;obtain ⟨X,hX⟩:=nM (cy (λi=>A.RX i 0) A.n);have q9:X<18446744073709551616:=by
     have h1:=iY (λi=>A.RX i 0) A.n ec;have h2:=Ca (k:=A.n) ec;omega
    have hT:tt=1/\xs=[]/\gu D L G (18446744073709551615-X):=by
     rcases x with ⟨_,_,hd,q⟩|⟨_,h1,h2,h3⟩
     . simp only [Rt.mk.injEq] at q;have:=hd.turn;omega
     . exact ⟨h1,h2,by rw [<- hX];exact h3⟩
    have key:=Pr X q9;rw [hX,y] at kr;have R:=aE kp kr hT;clear m C z K kp kz kr hX hT y x;go_wp2_with fail;refine R.o.2.1.mono ?_;rintro e w6 ⟨rfl,q1⟩;have ka:bW J w6:=R.o.1.trans (q1.mono R.o.1.size);have H6:=ak ka;clear ka q1;go_wp2_with fail;refine (lg D L G (18446744073709551615-X) Q.r Q.d Q.l1 Q.l4 Q.g Q.div ec w6).mono ?_;rintro e w7 ⟨bb,rfl,q3,q2⟩;obtain ⟨m,C,z,K,_⟩:=M.o;have hh:bW J w7:=H6.o.trans (q2.mono H6.o.size);have q0:=m.keep (hh.block _ m.lt);have Z:=C.below hh;have kh:aa (λj=>F.S j\/j=v\/ps.bl j\/j=ar) w w7:=K.trans (aa.RL hh _);obtain ⟨rfl,rfl,hT⟩:=R.o.2.2;obtain rfl:bb=ZU:=q3.2 hT;have q4:=I0 q0 Z.vol Z.nar ec Z.fine;have H7:=aE q4 Z kh;clear m C z K hh q0 Z q4 kh q3 q2 key hb d4 hT;go_wp2_with fail;refine H7.o.1.mono ?_;rintro e w8 ⟨rfl,kg,⟨u,ki,kk⟩,k8⟩;have H8:=a5 kg ki kk k8;clear kg ki kk k8;go_wp2;go_ret;obtain ⟨kg,ki,kk,k8⟩:=H8.o;obtain ⟨_,Z,kh⟩:=H7.o;obtain ⟨hl,hk⟩:=FV Z qb ke kg ki kk k8;exact ⟨kh.trans (k8.mono λk _ q=>q.elim (λe=>.inr (.inr (.inr e))) .inl),ps,_,_,_,_,rfl,⟨hv.kind,λ_ q=>.inl q⟩,hk,hl⟩
def Nc (w:ZS) (p D L G t:Nat) (cache:Int) (xs:aL) (A:az) (F:aK) (ar:Nat) (w':ZS):Prop:=∃ v sb ps pg ob P B,aS w' ar v p ps D L G t pg ob P xs B F/\dJ A B/\m6 sb cache D L G ps/\w.heap.size<=v/\w.heap.size<=ar/\∀ k,ps.bl k->w.heap.size<=k
structure RH (w:ZS) (p D L G t:Nat) (cache:Int) (xs:aL) (A:az) (F:aK) (e:ZP) (w':ZS):Prop where
 out:aa F.S w w'
 ans:∃ ar,e=Z3 (ZY #[Z6 (ZV ⟨ar,0,ZW⟩),.nilIface])/\Nc w p D L G t cache xs A F ar w'
structure JK (w:ZS) (p D L G t:Nat) (cache:Int) (xs:aL) (A:az) (F:aK):Prop where
 arr:aA w p A F
 n:A.n=D+L+G
 par:wt D L G
 c0:0<=cache
 c1:cache<=64
 nb:8<=A.nb
 nb2:A.nb<=1000
 laid:bV w
 tab:aG w
 room:3<=w.heap.size
 g:¬ F.S 2
 gt:¬ F.S 1
 beg:Beg A D L G t xs
 fine:A.fine D L G
def JK.below {xs:aL} {A:az} (h:JK w p D L G t cache xs A F) (a:bW w w'):JK w' p D L G t cache xs A F:=
 { h with arr:=h.arr.below a lR,laid:=h.laid.below a h.laid.lt,tab:=h.tab.keep (a.block _ h.tab.lt),room:=TU h.room a.size }
theorem Nd {xs:aL} {A:az} (HP:JK w p D L G tt cache xs A F) :
 ZQ ZM 44 #[Z6 (ZV ⟨p,0,ZW⟩),.agg #[Z7 Z9 D,Z7 Z9 L,Z7 Z9 G],.agg #[Z7 Z9 cache]] w (RH w p D L G tt cache xs A F):=by
 obtain ⟨h,hn,y,qz,x0,x1,kr,hv,ht,hK,qf,qg,hS,qj⟩:=HP;have qh:∀ (args:Array ZR) (w:ZS),(callFunc 68 args).run ZM w=.ok (.enter 68 args) w:=U5 func68 ei rfl;have i:((w.alloc (Z4 #[Z7 Z9 (D:Int),Z7 Z9 (L:Int),Z7 Z9 (G:Int)] 27)).alloc (Z4 #[Z7 Z9 cache] 86)).heap[w.heap.size]?=ZV (Z4 #[Z7 Z9 (D:Int),Z7 Z9 (L:Int),Z7 Z9 (G:Int)] 27 (0,0)):=(UF _ _ _ ek).trans (Ug _ _);have ho:((w.alloc (Z4 #[Z7 Z9 (D:Int),Z7 Z9 (L:Int),Z7 Z9 (G:Int)] 27)).alloc (Z4 #[Z7 Z9 cache] 86)).heap[w.heap.size+1]?=ZV (Z4 #[Z7 Z9 cache] 86 (0,0)):=by
  have:=Ug (w.alloc (Z4 #[Z7 Z9 (D:Int),Z7 Z9 (L:Int),Z7 Z9 (G:Int)] 27)) (Z4 #[Z7 Z9 cache] 86);rwa [Ul] at this
 have hc:bW w ((w.alloc (Z4 #[Z7 Z9 (D:Int),Z7 Z9 (L:Int),Z7 Z9 (G:Int)] 27)).alloc (Z4 #[Z7 Z9 cache] 86)):=(bA w _).alloc ek _;have V:((w.alloc (Z4 #[Z7 Z9 (D:Int),Z7 Z9 (L:Int),Z7 Z9 (G:Int)] 27)).alloc (Z4 #[Z7 Z9 cache] 86)).heap.size=w.heap.size+2:=ek
 obtain ⟨w2,qp⟩:=nM ((w.alloc (Z4 #[Z7 Z9 (D:Int),Z7 Z9 (L:Int),Z7 Z9 (G:Int)] 27)).alloc (Z4 #[Z7 Z9 cache] 86));rw [qp] at i ho hc V;have p0:w2.cell? ⟨w.heap.size,0,ZW⟩=ZV (Z7 Z9 D):=by simp [World.cell?,i]
 have p1:w2.cell? ⟨w.heap.size,1,ZW⟩=ZV (Z7 Z9 L):=by simp [World.cell?,i]
 have p2:w2.cell? ⟨w.heap.size,2,ZW⟩=ZV (Z7 Z9 G):=by simp [World.cell?,i]
 have H2:=a5 i ho hc V;clear i ho hc V;go_enter func44,ntmps44;go_wp2_with fail;refine (pA D L G _).mono ?_;rw [y.r];rintro e s ⟨rfl,K⟩;obtain ⟨i,ho,hc,V⟩:=H2.o;have R:=(K.block _ ec).trans i;have I:=(K.block _ ec).trans ho;have C:bW w s:=hc.trans (K.mono hc.size);have kx:=K.size;have o0:s.cell? ⟨w.heap.size+1,0,ZW⟩=ZV (Z7 Z9 cache):=by simp [World.cell?,I]
 have z:=a5 R I C (ec:w.heap.size+2<=s.heap.size);clear i ho hc V R I C K kx p0 p1 p2;obtain ⟨N,kj⟩:=nM (A.n);have fX:=ED (h.below (z.o.2.2.1.trans ((TW _ s).drew.mono z.o.2.2.1.size)) lR);rw [kj] at fX;have U:∀ X,ZQ ZM 9 #[.agg #[Z7 Z9 D,Z7 Z9 L,Z7 Z9 G]] X λe w'=>e=Z3 (Z7 Z9 (N:Nat))/\bW X w':=λX=>by
  rw [<- kj,hn,(ec:((D+L+G:Nat):Int)=(D:Int)+L+G)];have:=y.d;have:=y.l4;have:=y.g;exact du (D:Int) (L:Int) (G:Int) X ⟨ec,ec⟩ ⟨ec,ec⟩ ⟨ec,ec⟩
 have HD:=al fX U;have p0:s.cell? ⟨w.heap.size,0,ZW⟩=ZV (Z7 Z9 D):=ZC
 have p1:s.cell? ⟨w.heap.size,1,ZW⟩=ZV (Z7 Z9 L):=ZC
 have p2:s.cell? ⟨w.heap.size,2,ZW⟩=ZV (Z7 Z9 G):=ZC
 clear fX U kj;go_upto_region 6 with fail;go_cut [21] from 24 to 28 (λhb wx=>hb=Z1 ZT/\bW s wx)
 case first=>
  go_region_with (first
   | (go_at_call 66;refine HD.o.1.mono ?_;rintro e w' ⟨rfl,rfl⟩)
   | (go_at_call 9;refine (HD.o.2 _).mono ?_;rintro e c ⟨rfl,q4⟩;have W:=ak (((TW _ s).drew).trans q4);clear q4))
  all_goals (go_wp2_with fail;go_meet;case rel=>exact ⟨ek,W.o⟩)
 case rest=>
 rename ZS=>w4;obtain ⟨rfl,M⟩:=hcut;clear HD p0 p1 p2;obtain ⟨R,I,C,kx⟩:=z.o;have kh:=(M.block _ ec).trans R;have q7:=(M.block _ ec).trans I;have h8:bW w w4:=C.trans (M.mono C.size);have qy:=M.size;have q5:=tJ (h.below h8 lR) (e9 y.d1);have kp:¬ ((A.nb:Nat):Int)<8:=ec
 have q0:w4.cell? ⟨w.heap.size,0,ZW⟩=ZV (Z7 Z9 D):=by simp [World.cell?,kh]
 have q1:w4.cell? ⟨w.heap.size,1,ZW⟩=ZV (Z7 Z9 L):=by simp [World.cell?,kh]
 have q2:w4.cell? ⟨w.heap.size,2,ZW⟩=ZV (Z7 Z9 G):=by simp [World.cell?,kh]
 have o4:w4.cell? ⟨w.heap.size+1,0,ZW⟩=ZV (Z7 Z9 cache):=by simp [World.cell?,q7]
 have H4:=aE h8 q5 (ec:w.heap.size+2<=w4.heap.size);clear R I C kx kh q7 h8 qy q5 M o0;obtain ⟨NB,kz⟩:=nM (A.nb);rw [kz] at H4 kp;clear kz;go_wp2_with fail;refine H4.o.2.1.mono ?_;rintro e w5 ⟨rfl,qq⟩;subst qq;go_wp2_with fail;refine (EB p D L G cache w5).mono ?_;rintro e a ⟨v,sb,rfl,qn,kf,kb,kk⟩;obtain ⟨h9,_,qd⟩:=H4.o;have ha:bW w a:=h9.trans (kk.mono h9.size);have qe:=kk.size;have O:bW a (a.alloc (Z4 (jK v 0 0 0 0 0 0 (Z5 ZW 0 0) (Z5 ZW 0 0) ZT) 146)):=bA a _;have H:a9 (a.alloc (Z4 (jK v 0 0 0 0 0 0 (Z5 ZW 0 0) (Z5 ZW 0 0) ZT) 146)) a.heap.size v 0 0 0 0 0 0 (Z5 ZW 0 0) (Z5 ZW 0 0) ZT:=Ug _ _;obtain ⟨c,ks⟩:=nM (a.alloc (Z4 (jK v 0 0 0 0 0 0 (Z5 ZW 0 0) (Z5 ZW 0 0) ZT) 146));rw [ks] at O H;have l:bW w c:=ha.trans (O.mono ha.size);have q3:pG c v p D L G (sb+1+1+1) 0 A F:=⟨kf.keep (O.block _ kf.lt),h.below l lR,hv.below l hv.lt,ht.keep (l.block _ ht.lt),TU hK l.size,λq=>e9 (h.RN q),qf,qg,hn,y⟩;have E:∀ k,F.S k->k<w.heap.size:=λk f=>h.RN f;have hs:¬ F.S a.heap.size:=λq=>e9 (E _ q)
 have ki:a.heap.size<c.heap.size:=H.lt;have qb:v<a.heap.size:=kf.lt;have qk:=kb.2.2.lt;obtain ⟨hf,hg,U⟩:=kb;have k7:(m4 sb cache D L G [] [] 0).S c:=RG (U.below O) D L G;have t:∀ k,(m4 sb cache D L G [] [] 0).bl k->sb<=k/\k<=sb+1+1+1:=λk f=>by
  rcases f with q|q|⟨q,i,_⟩
  . exact q
  . cases q
  . cases i
 have q8:mN c a.heap.size v p (m4 sb cache D L G [] [] 0) D L G A F:=⟨q3,hs,⟨ec,qb⟩,ki,k7,λk f=>by
  have:=t k f;exact ⟨ec,ec,ec,λe=>e9 (E _ e)⟩,VO _,qj⟩
 have qa:vt D L G (m6 sb cache D L G) (m4 sb cache D L G [] [] 0):=⟨yX y,λps x f=>by
  obtain ⟨es,qs,ho,rfl⟩:=f;exact ⟨es,qs,x,rfl⟩,GZ,⟨[],[],0,rfl⟩⟩
 have q9:=lU 68 #[Z6 (ZV ⟨a.heap.size,0,ZW⟩)] #[] qh c a.heap.size _ H rfl
  (λw1 x w2=>w2.heap[c.heap.size]?=ZV (Z4 #[.nilIface] 64 (0,0))/\FS w1 a.heap.size v p D L G tt (m6 sb cache D L G) (m4 sb cache D L G [] [] 0) xs A F (Z3 x) w2)
  (λw1 J qc qi=>(Nb (q8.below J) (H.keep (J.block _ H.lt)) qa ec kr hS).mono (by
   intro e w2 u;have q6:w2.heap[c.heap.size]?=w1.heap[c.heap.size]?:=u.out.block _ ec (λq=>by
    rcases q with q|q|q|q
    . have:=E _ q;omega
    . omega
    . have:=t _ q;omega
    . omega)
   obtain ⟨ps',pg,ob,P,B,rfl,_,_,hl⟩:=id u.ans;exact ⟨_,rfl,.inl rfl,⟨q6.trans qi,u⟩,q6,_,hl.arc,rfl⟩))
 have kv:a.alloc (Z4 #[Z6 (ZV ⟨v,0,ZW⟩),Z7 Z9 0,Z7 Z9 0,Z7 Z9 0,Z7 Z8 0,Z7 Z9 0,Z7 Z9 0,Z5 ZW 0 0,Z5 ZW 0 0,Z1 ZT] 146)=c:=ks;have W:=hide10 l E q9 t hf hg qb ki qd qe;have qm:w.heap.size<=v:=ec
 clear qk hf hg U k7 t q8 qa q9 h9 ha O H l q3 kf kk hs q0 q1 q2 o4 ks;go_wp2_with fail;clear kv;refine W.o.2.2.1.mono ?_;rintro e w8 ⟨x,w1,m,rfl,_,J,qc,⟨ko,u⟩,rfl⟩;obtain ⟨l,E,_,t,hf,hg,qo,ki,qd,qe⟩:=W.o;have h7:bW w w1:=l.trans (J.mono l.size);have qx:=l.size;have hO:aa (F.S) w m:=(aa.RL h7 _).later u.out (λk f q=>by
  rcases q with q|q|q|q
  . exact q
  . omega
  . have:=t _ q;omega
  . omega)
 obtain ⟨ps',pg,ob,P,B,qv,Q,Z,hl⟩:=u.ans;obtain rfl:x=.nilIface:=by injection qv
 have h4:∀ k,k≠c.heap.size->k≠a.heap.size->((m.setCell ⟨c.heap.size,0,ZW⟩ .nilIface).setCell ⟨a.heap.size,9,ZW⟩ (Z1 ZT)).heap[k]?=m.heap[k]?:=λk Y h2=>(Ud _ _ _ _ h2).trans (Ud _ _ _ _ Y);have ky:((m.setCell ⟨c.heap.size,0,ZW⟩ .nilIface).setCell ⟨a.heap.size,9,ZW⟩ (Z1 ZT)).heap.size=m.heap.size:=oB
 have ke:aa (F.S) w ((m.setCell ⟨c.heap.size,0,ZW⟩ .nilIface).setCell ⟨a.heap.size,9,ZW⟩ (Z1 ZT)):=hO.later (T:=λk=>w.heap.size<=k) ⟨rfl,rfl,rfl,by rw [ky];exact TV _,λk _ f=>h4 k ec ec⟩ (λk Y h2=>ec);have hx:(m.setCell ⟨c.heap.size,0,ZW⟩ .nilIface).heap[a.heap.size]?=ZV (Z4 (jK v D L G tt (P.getD 0 0) (an xs.os).length pg ob ZT) 146 (0,0)):=(Ud _ _ _ _ (by show a.heap.size≠c.heap.size;omega)).trans hl.arc;have k9:=ag (j:=9) hx (Z1 ZT);have h5:∀ k,k≠c.heap.size->((m.setCell ⟨c.heap.size,0,ZW⟩ .nilIface).setCell ⟨a.heap.size,9,ZW⟩ (Z1 ZT)).heap[k]?=m.heap[k]?:=λk Y=>by
  by_cases e:k=a.heap.size
  . subst e;exact k9.trans hl.arc.symm
  . exact h4 k Y e
 have kg:=hl.aside (w':=(m.setCell ⟨c.heap.size,0,ZW⟩ .nilIface).setCell ⟨a.heap.size,9,ZW⟩ (Z1 ZT)) (b:=c.heap.size) (B:=c.heap.size) (yU ko) (hl.Ts ko) (by rw [ky];exact TV _) (λj hj _=>h5 j hj) lR (λk f=>e9 (E k f)) ec ki ec;have HF:=a6 ke Z kg Q.1 (show ∀ k,ps'.bl k->w.heap.size<=k from λk f=>by
  rcases Q.2 k f with q|q
  . have:=t k q;omega
  . have:=h7.size;omega)
 clear hO u ko h4 ky ke hl hx k9 h5 kg Z Q J qc h7;go_wp2;go_ret2;obtain ⟨ke,Z,kg,Q,km⟩:=HF.o;exact ⟨ke,a.heap.size,rfl,v,sb,ps',pg,ob,P,B,kg,Z,Q,qm,ec,km⟩
structure RI (w w2:ZS) (D L G cache:Int):Prop where
 par:w2.heap[w.heap.size]?=ZV (Z4 #[Z7 Z9 D,Z7 Z9 L,Z7 Z9 G] 27 (0,0))
 opt:w2.heap[w.heap.size+1]?=ZV (Z4 #[Z7 Z9 cache] 86 (0,0))
 below:bW w w2
 size:w2.heap.size=w.heap.size+2
def aaa (w:ZS) (D L G cache:Int):RI w ((w.alloc (Z4 #[Z7 Z9 D,Z7 Z9 L,Z7 Z9 G] 27)).alloc (Z4 #[Z7 Z9 cache] 86)) D L G cache:=by
 refine ⟨(UF _ _ _ ek).trans (Ug _ _),?_,(bA w _).alloc ek _,ek⟩;have:=Ug (w.alloc (Z4 #[Z7 Z9 D,Z7 Z9 L,Z7 Z9 G] 27)) (Z4 #[Z7 Z9 cache] 86);rwa [Ul] at this
structure Nf (w:ZS) (p D L G t:Nat) (cache:Int) (xs:aL) (A:az) (F:aK) (e:ZP) (w':ZS):Prop where
 out:aa F.S w w'
 ans:∃ sa ar,e=Z3 (ZY #[Z6 (ZV ⟨sa,0,ZW⟩),.nilIface])/\w.heap.size<=sa/\ZN w' sa 105 (Z6 (ZV ⟨ar,0,ZW⟩))/\Nc w p D L G t cache xs A F ar w'
def Nc.wide {w'':ZS} {xs:aL} {A:az} (h:Nc w p D L G t cache xs A F ar w') (a:w0.heap.size<=w.heap.size) (f:bW w' w''):Nc w0 p D L G t cache xs A F ar w'':=by
 obtain ⟨v,sb,ps,pg,ob,P,B,b,c,d,g,i,e⟩:=h;exact ⟨v,sb,ps,pg,ob,P,B,b.below f,c,d,ec,ec,λk q=>TU a (e k q)⟩
theorem JL {xs:aL} {A:az} (h:JK w p D L G t cache xs A F) :
 ZQ ZM 26 #[Z6 (ZV ⟨p,0,ZW⟩),.agg #[Z7 Z9 D,Z7 Z9 L,Z7 Z9 G],.agg #[Z7 Z9 cache]] w (Nf w p D L G t cache xs A F):=by
 have a:=aaa w D L G cache;obtain ⟨w2,k⟩:=nM ((w.alloc (Z4 #[Z7 Z9 (D:Int),Z7 Z9 (L:Int),Z7 Z9 (G:Int)] 27)).alloc (Z4 #[Z7 Z9 cache] 86));rw [k] at a;have m:w2.cell? ⟨w.heap.size,0,ZW⟩=ZV (Z7 Z9 D):=ZD
 have n:w2.cell? ⟨w.heap.size,1,ZW⟩=ZV (Z7 Z9 L):=ZD
 have q:w2.cell? ⟨w.heap.size,2,ZW⟩=ZV (Z7 Z9 G):=ZD
 have l:w2.cell? ⟨w.heap.size+1,0,ZW⟩=ZV (Z7 Z9 cache):=by simp [World.cell?,a.opt]
 have b:=a.below;have hc:=Nd (h.below b);have H:=al a hc;clear a hc b;go_enter func26,ntmps26;go_wp2_with fail;refine H.o.2.mono ?_;rintro e c g;have b:=H.o.1.below;have d:aa F.S w c:=(aa.RL b _).trans g.out;obtain ⟨ar,rfl,f⟩:=g.ans;have j:=aE f d b;clear f d b g;go_wp2;go_ret2;obtain ⟨f,d,b⟩:=j.o;have i:bW c (c.alloc (Z4 #[Z6 (ZV ⟨ar,0,ZW⟩)] 105)):=bA c _;exact ⟨d.trans (aa.RL i _),c.heap.size,ar,rfl,d.size,Us c _ _,f.wide b.size i⟩
theorem jn (d:Int) (m:Nat) (f:0<m) (e:m<=1000):∃ n:Nat,n<m/\wrap64 ((IntKind.u64.wrap d).tmod m)=(n:Int):=by
 have a:0<=IntKind.u64.wrap d:=K1
 rw [abA a];have b:=Int.emod_nonneg (IntKind.u64.wrap d) (ec:(m:Int)≠0);have c:=Int.emod_lt_of_pos (IntKind.u64.wrap d) (ec:(0:Int)<m);refine ⟨(IntKind.u64.wrap d%m).toNat,ec,?_⟩;rw [(ec:((IntKind.u64.wrap d%(m:Int)).toNat:Int)=IntKind.u64.wrap d%m)];generalize IntKind.u64.wrap d%(m:Int)=z at b c;unfold wrap64;omega
theorem Pt (a b c:Int) (w:ZS):ZQ ZM 6 #[Z7 Z9 a,Z7 Z9 b,Z7 Z9 c] w λe w'=>∃ D L G:Nat,e=Z3 (.agg #[Z7 Z9 D,Z7 Z9 L,Z7 Z9 G])/\wt D L G/\D<=6/\bW w w':=by
 obtain ⟨q,B,g⟩:=jn a 6 ee ee;obtain ⟨r,C,i⟩:=jn b 3 ee ee;obtain ⟨d,Q,k⟩:=jn c 4 ee ee;have s:wrap64 ((IntKind.u64.wrap a).tmod 6)=(q:Int):=oD g
 have t:wrap64 ((IntKind.u64.wrap b).tmod 3)=(r:Int):=oD i
 have x:wrap64 ((IntKind.u64.wrap c).tmod 4)=(d:Int):=oD k
 obtain ⟨D,H⟩:=nM (q+1);obtain ⟨n,E⟩:=nM (r+1);have N:wrap64 (1+(q:Int))=(D:Int):=E3
 have z:wrap64 (1+(r:Int))=(n:Int):=E3
 clear g i k;have P:1<=D/\D<=6:=ec
 have y:1<=n/\n<=3:=ec
 clear H E B C;go_enter func6,ntmps6;go_wp2;go_loopw [8] (λv wr=>∃ l:Nat,1<=l/\l<=3/\v=Z7 Z9 (l:Nat)/\wr=w.alloc (Z4 #[Z7 Z9 0,Z7 Z9 0,Z7 Z9 0] 27)) (λv _=>(intOf v).toNat)
 case atStart=>exact ⟨n,y.1,y.2,by rw [z],rfl⟩
 case round=>
  obtain ⟨l,F,O,rfl,rfl⟩:=hrel;have S:¬ (l:Int)=0:=ec
  have I:Int.tmod (D:Int) (l:Int)=((D%l:Nat):Int):=by rw [abA ec,YH]
  obtain ⟨m,f⟩:=nM (D%l);rw [f] at I;by_cases A:m=0
  . subst A;have HP:b9 (wt D l d):=ak ⟨by unfold cW;apply UZ;refine ⟨ec,ec,ec,ec,ec,ec,?_,ec⟩;rw [<- YH,f];rfl,ec,ec,F,ec,ec,f,ec⟩;clear f;go_wp2;have p:ai (w.alloc (Z4 #[Z7 Z9 (D:Nat),Z7 Z9 (l:Nat),Z7 Z9 (d:Nat)] 27)) w.heap.size 27 [Z7 Z9 (D:Nat),Z7 Z9 (l:Nat),Z7 Z9 (d:Nat)]:=UC w _;have J:=p.cell (j:=0) (u:=Z7 Z9 (D:Nat)) rfl;have K:=p.cell (j:=1) (u:=Z7 Z9 (l:Nat)) rfl;have M:=p.cell (j:=2) (u:=Z7 Z9 (d:Nat)) rfl;refine Ut (v:=.agg #[Z7 Z9 (D:Nat),Z7 Z9 (l:Nat),Z7 Z9 (d:Nat)]) (by simp [results,results6,go_sem,J,K,M]) rfl ?_;exact ⟨D,l,d,rfl,HP.o,ec,bA w _⟩
  . have R:2<=l:=by
     rcases X3 l 2 with h|h
     . have:l=1:=by omega
       subst this;rw [Nat.mod_one] at f;omega
     . exact h
    have hc:¬ (m:Int)=0:=ec;have T:IntKind.i64.wrap ((l:Int)-1)=(l:Int)-1:=l3;clear f;go_wp2;refine ⟨⟨l-1,ec,ec,by rw [(ec:((l-1:Nat):Int)=(l:Int)-1)],trivial⟩,?_⟩;show ((l:Int)-1).toNat<((l:Int)).toNat;omega
structure qP where
 kind:Int
 a:Int
 s:ByteArray
 d:a8
def Scr (w:ZS) (v:ZR) (l:List qP):Prop:=
 ∃ ao c,v=.slice ao l.length c/\(l≠[]->∃ b off,ao=ZV ⟨b,off,ZW⟩/\b<w.heap.size/\∀ i (hi:i<l.length),∃ dv,w.cell? ⟨b,off+i*4,ZW⟩=ZV (Z7 Z9 l[i].kind)/\w.cell? ⟨b,off+i*4+1,ZW⟩=ZV (Z7 Z9 l[i].a)/\w.cell? ⟨b,off+i*4+2,ZW⟩=ZV (ZZ l[i].s)/\w.cell? ⟨b,off+i*4+3,ZW⟩=ZV dv/\Bs w dv l[i].d)
def gy (l:List qP):Nat:=(l.map λx=>x.s.size+x.d.length).sum
def rN (l:List qP) (k:Nat) (a:k<l.length):gy (l.take (k+1))=gy (l.take k)+(l[k].s.size+l[k].d.length):=by
 have e:l.take (k+1)=l.take k++[l[k]]:=by rw [Ve,Uc a];rfl
 rw [e];unfold gy;rw [Uw,abk];simp only [U1,Wr,XH,List.sum_nil,VR]
def DL (l:List qP) (k:Nat):gy (l.take k)<=gy l:=by
 unfold gy;have h:l.map (λx=>x.s.size+x.d.length)=(l.take k).map (λx=>x.s.size+x.d.length)++(l.drop k).map (λx=>x.s.size+x.d.length):=by rw [<- Uw,Wn]
 rw [h,abk];omega
def abi (w:ZS) (l:List qP) (vn vi:ZR) (wr:ZS):Prop:=∃ k:Nat,k<=l.length/\vi=Z7 Z9 (k:Nat)/\vn=Z7 Z9 (gy (l.take k):Nat)/\gy (l.take k)<=100000/\bW w wr
def aab (w:ZS) (l:List qP) (e:ZP) (w':ZS):Prop:=∃ bb,e=Z3 (Z1 bb)/\(bb=ZU->l.length<=200/\gy l<=100000)/\bW w w'
theorem JM {v:ZR} {l:List qP} (h:Scr w v l) (hs:∀ x∈l,x.s.size<=140737488355328/\x.d.length<=140737488355328) :
 ZQ ZM 5 #[v] w (aab w l):=by
 obtain ⟨ao,c,rfl,hc⟩:=h;by_cases O:200<l.length
 . have H:(200:Int)<(l.length:Int):=ec;clear hc;go_enter func5,ntmps5;go_wp2;go_ret;exact ⟨ZT,rfl,λe=>Y4,TW _ _⟩
 . have H:¬ (200:Int)<(l.length:Int):=ec;have D:=ak hc;clear hc;go_enter func5,ntmps5;go_wp2;go_loopw [3,4] (λK y wr=>abi w l K y wr) (λ_ y _=>l.length-(intOf y).toNat)
   case atStart=>exact ⟨0,T8 _,rfl,rfl,by simp [gy],TW _ _⟩
   case round=>
    obtain ⟨k,S,rfl,rfl,m,f⟩:=hrel;by_cases i:k<l.length
    . obtain ⟨b,off,rfl,A,z⟩:=D.o (λe=>by rw [e] at i;simp at i);obtain ⟨N,I,J,t,u,C⟩:=z k i;obtain ⟨L,M,rfl,_⟩:=id C;have g:=rN l k i;have F:=hs l[k] (T6 i);obtain ⟨s,r⟩:=nM (l[k].s);obtain ⟨dl,n⟩:=nM (l[k].d.length);rw [r,n] at g F;rw [r] at t;rw [n] at u;obtain ⟨a,q⟩:=nM (gy (l.take k));rw [q] at g m ⊢;obtain ⟨W,G⟩:=nM (s.size);have E:(k:Int)<(l.length:Int):=ec;have Q:IntKind.i64.wrap ((a:Int)+(s.size:Int))=(a:Int)+(s.size:Int):=l3;have R:IntKind.i64.wrap ((a:Int)+(s.size:Int)+(dl:Int))=(a:Int)+(s.size:Int)+(dl:Int):=l3;have T:IntKind.i64.wrap ((k:Int)+1)=(k:Int)+1:=l3;have U:=(f.cell (p:=⟨b,off+k*4+2,ZW⟩) A).trans t;have V:=(f.cell (p:=⟨b,off+k*4+3,ZW⟩) A).trans u;have HK:=aE g q f;clear g q f I J t u C z r n G;go_wp2;go_quiet (fail);have j:b9 (bW w (wr.drewN nq)):=ak (HK.o.2.2.trans ⟨rfl,rfl,rfl,TV _,λ_ _=>rfl⟩);by_cases P:(100000:Int)<(a:Int)+(s.size:Int)+(dl:Int)
      . go_wp2;go_ret;exact ⟨ZT,rfl,λe=>Y4,j.o⟩
      . go_wp2;have g:=HK.o.1;refine ⟨⟨k+1,ec,eT,?_,ec,j.o⟩,?_⟩
        . rw [g,(ec:((a+(s.size+dl):Nat):Int)=(a:Int)+(s.size:Int)+(dl:Int))]
        . simp only [intOf];omega
    . have B:k=l.length:=ec;have E:¬ (k:Int)<(l.length:Int):=ec;have HK:b9 (l.length<=200/\gy l<=100000):=ak ⟨ec,by rw [B,VA] at m;exact m⟩;have j:=ak f;clear B m f;go_wp2;go_ret;exact ⟨ZU,rfl,λ_=>HK.o,j.o⟩
def PX (D L G:Nat) (a s r:ZR) (blocks:Nat) (out want:ZR) (cache:Int):List ZR:=[Z7 Z9 (D:Nat),Z7 Z9 (L:Nat),Z7 Z9 (G:Nat),a,s,r,Z7 Z9 (blocks:Nat),out,want,Z7 Z9 cache]
def iq (w:ZS) (wb D L G:Nat) (a s r:ZR) (blocks:Nat) (out want:ZR) (cache:Int):Prop:=ai w wb 42 (PX D L G a s r blocks out want cache)
def iq.cells {a r:ZR} (h:iq w wb D L G a s r blocks out want cache) :
 w.cell? ⟨wb,0,ZW⟩=ZV (Z7 Z9 (D:Nat))/\w.cell? ⟨wb,1,ZW⟩=ZV (Z7 Z9 (L:Nat))/\w.cell? ⟨wb,2,ZW⟩=ZV (Z7 Z9 (G:Nat))/\w.cell? ⟨wb,3,ZW⟩=ZV a/\w.cell? ⟨wb,4,ZW⟩=ZV s/\w.cell? ⟨wb,5,ZW⟩=ZV r/\w.cell? ⟨wb,6,ZW⟩=ZV (Z7 Z9 (blocks:Nat))/\w.cell? ⟨wb,7,ZW⟩=ZV out/\w.cell? ⟨wb,8,ZW⟩=ZV want/\w.cell? ⟨wb,9,ZW⟩=ZV (Z7 Z9 cache):=
 ⟨ai.cell h rfl,ai.cell h rfl,ai.cell h rfl,ai.cell h rfl,ai.cell h rfl,ai.cell h rfl,ai.cell h rfl,ai.cell h rfl,ai.cell h rfl,ai.cell h rfl⟩
theorem JN {r:ZR} (h:iq w wb D L G (Z6 (ZV ⟨p,0,ZW⟩)) s r blocks out want cache) (hs:∃ o,s=.pointer o) (R:Nat->ZS->Prop) (j:∀ sa w2,R sa w2->w2.heap[wb]?=w.heap[wb]?)
 (ho:ZQ ZM 26 #[Z6 (ZV ⟨p,0,ZW⟩),.agg #[Z7 Z9 D,Z7 Z9 L,Z7 Z9 G],.agg #[Z7 Z9 cache]] w.drew λe w2=>∃ sa,e=Z3 (ZY #[Z6 (ZV ⟨sa,0,ZW⟩),.nilIface])/\R sa w2) :
 ZQ ZM 11 #[Z6 (ZV ⟨wb,0,ZW⟩)] w λe w'=>e=Z3 (Z1 ZU)/\∃ sa w2 c,R sa w2/\bW w2 c/\iq w' wb D L G (Z6 (ZV ⟨p,0,ZW⟩)) (Z6 (ZV ⟨sa,0,ZW⟩)) r blocks out want cache/\w'=c.setCell ⟨wb,4,ZW⟩ (Z6 (ZV ⟨sa,0,ZW⟩)):=by
 obtain ⟨c0,c1,l,m,n,q,t,u,v,x⟩:=h.cells;have f:=aE ho h j;clear ho h j n q t u v;go_enter func11,ntmps11;go_upto_region 1 with fail;go_cut [3,4] from 6 to 34 (λz A wx=>∃ sa,z=Z6 (ZV ⟨sa,0,ZW⟩)/\A=.nilIface/\R sa wx)
 case first=>
  go_region_with (go_at_call 26;refine f.o.1.mono ?_;rintro e w2 ⟨sa,rfl,a⟩;have b:=ak a;clear a);all_goals (go_wp2_with fail;go_meet;case rel=>exact ⟨sa,rfl,rfl,b.o⟩)
 case rest=>
  obtain ⟨sa,rfl,rfl,a⟩:=hcut;have k:iq wc wb D L G (Z6 (ZV ⟨p,0,ZW⟩)) s r blocks out want cache:=ai.keep f.o.2.1 (f.o.2.2 sa wc a);obtain ⟨y,rfl⟩:=hs;have b:=al a k;clear a k c0 c1 l m x;go_wp2_with fail;refine (lA wc).mono ?_;rintro e c ⟨rfl,g⟩;have d:iq c wb D L G (Z6 (ZV ⟨p,0,ZW⟩)) (.pointer y) r blocks out want cache:=ai.keep b.o.2 (g.block _ (ai.lt b.o.2));have B:=d.cells.2.2.2.2.1;have C:=ai.R2 d 4;have i:=al g d;clear g d;dsimp only;go_wp2;go_ret;refine ⟨rfl,sa,wc,c,b.o.1,i.o.1,?_,rfl⟩;exact ai.set i.o.2 4 [Z6 (ZV ⟨sa,0,ZW⟩)] Zv
def Kd (B:Nat) (T:ZO) (w w':ZS):Prop:=∀ j cs,j<B->w.heap[j]?=ZV (Z4 cs T (0,0))->w'.heap[j]?=w.heap[j]?
def Kd.below (h:bW w w') (B:Nat) (T:ZO):Kd B T w w':=λj _ _ a=>h.block j (TX.1 a).1
def Kd.trans {T:ZO} {b c:ZS} (h:Kd B T a b) (k:Kd B T b c):Kd B T a c:=λj cs d e=>(k j cs d ((h j cs d e).trans e)).trans (h j cs d e)
def Kd.mono {T:ZO} {b:ZS} (h:Kd B T a b) (c:B'<=B):Kd B' T a b:=λj cs d q=>h j cs ec q
def aaY (T:ZO):Prop:=T=38\/T=101\/T=105\/T=5\/T=47
def Law (T:ZO):Prop:=aaY T\/T=82\/T=58
def iZ (B:Nat) (w w':ZS):Prop:=∀ T,Law T->Kd B T w w'
def vJ (B:Nat) (w w':ZS):Prop:=∀ T,aaY T->Kd B T w w'
def iZ.SJ (h:iZ B w w'):vJ B w w':=λT hT=>h T (.inl hT)
def iZ.below (h:bW w w') (B:Nat):iZ B w w':=λT _=>Kd.below h B T
def iZ.trans {b c:ZS} (h:iZ B a b) (k:iZ B b c):iZ B a c:=λT hT=>(h T hT).trans (k T hT)
def iZ.mono {b:ZS} (h:iZ B a b) (c:B'<=B):iZ B' a b:=λT hT=>(h T hT).mono c
def iZ.live {A:az} (i:aA w p A F) (o:a9 w ar v D L G t f n pg ob off) (hv:bg w v p D L G ps.ps ho) (m:ps.S w) (l:aa (λj=>j=ar\/F.S j\/j=v\/ps.bl j) w w'):iZ B w w':=λT hT j cs _ b=>l.block j (TX.1 b).1 (λq=>by
 have a:T≠146/\T≠75/\T≠79/\T≠114/\T≠4:=by
  rcases hT with (rfl|rfl|rfl|rfl|rfl)|rfl|rfl<;>exact ⟨ee,ee,ee,ee,ee⟩
 have h:T≠139/\¬ jX T:=by
  rcases hT with (rfl|rfl|rfl|rfl|rfl)|rfl|rfl<;>exact ⟨ee,vf⟩
 rcases q with q|q|q|q
 . subst q;have g:w.heap[j]?=ZV (Z4 (jK v D L G t f n pg ob off) 146 (0,0)):=o;rw [b] at g;simp only [UB,UQ] at g;exact a.1 g.2.1
 . obtain ⟨cs',T',e,r⟩:=i.kind q;rw [b] at e;simp only [UB,UQ] at e;have c:=e.2.1;rcases r with k|k|k|k
   . exact a.2.1 (c.trans k)
   . exact a.2.2.1 (c.trans k)
   . exact a.2.2.2.1 (c.trans k)
   . exact a.2.2.2.2 (c.trans k)
 . subst q;have d:=hv;unfold bg at d;rw [b] at d;simp only [UB,UQ] at d;exact h.1 d.2.1
 . exact bU m b h.2 q)
def Ng {base size:Nat} {T:ZO} {v:ZR} {xs:List ZR} (h:w.ownsRow base T size v n xs) (f:Kd B T w w') (e:w.heap.size<=B):w'.ownsRow base T size v n xs:=by
 refine ⟨h.1,?_⟩;rcases h.2 with d|⟨g,cap,cur,b,c,a,rr⟩
 . exact .inl d
 . exact .inr ⟨g,cap,cur,b,c,(f _ _ (T7 (TX.1 a).1 e) a).trans a,rr⟩
def Ow (w:ZS) (v:ZR) (l:a8):Prop:=(∃ base,w.ownsRow base 5 1 v l.length (aJ l))/\(∀ x∈l,x<256)/\l.length<=1500
def Ow.nil (w:ZS):Ow w (Z5 ZW 0 0) []:=⟨⟨0,UK _ _ _ _⟩,λx a=>(by cases a),ee⟩
def Ow.keep {v:ZR} (h:Ow w v l) (d:Kd w.heap.size 5 w w'):Ow w' v l:=by
 obtain ⟨⟨base,a⟩,b,c⟩:=h;exact ⟨⟨base,Ng a d lR⟩,b,c⟩
def Ow.bs {v:ZR} (h:Ow w v l):Bs w v l:=by
 obtain ⟨⟨base,ho⟩,d,hl⟩:=h;rcases ho.2 with ⟨rfl,c⟩|⟨g,cap,cur,rfl,e,f,b,i,j,m⟩
 . have:l=[]:=UW c;subst this;exact ⟨ZW,0,rfl,TV _,ee,λx h=>vE,λh=>absurd rfl h⟩
 . refine ⟨_,cap,rfl,b,ec,d,λ_=>⟨g,0,rfl,λk a=>?_⟩⟩;have hc:=ho.cells (g:=g) rfl k (Z7 .u8 ((l.getD k 0:Nat):Int)) (by
    unfold aJ;rw [UD,Uc a,Ub,Uc a];rfl)
   rw [jG] at hc;rw [Uj];exact hc
def Ow.sl {v:ZR} (h:Ow w v l):kG v/\BY v=l.length:=by
 obtain ⟨⟨base,ho⟩,_,hl⟩:=h;obtain ⟨a,b,rfl⟩:=bm ho;exact ⟨⟨_,_,_,rfl,ec⟩,rfl⟩
def ja (w:ZS):List (ByteArray×ZR)->aL->Prop
 | [],[]=>True
 | q::Q,x::xs=>(q.1=x.1.name/\Ow w q.2 x.2)/\ja w Q xs
 | _,_=>False
def ja.len:∀ {Q:List (ByteArray×ZR)} {xs:aL},ja w Q xs->Q.length=xs.length
 | [],[],_=>rfl
 | [],_::_,h=>h.elim
 | _::_,[],h=>h.elim
 | _::Q,_::xs,h=>by rw [UA,UA,ja.len h.2]
def ja.names:∀ {Q:List (ByteArray×ZR)} {xs:aL},ja w Q xs->cC Q=xs.names
 | [],[],_=>rfl
 | [],_::_,h=>h.elim
 | _::_,[],h=>h.elim
 | q::Q,x::xs,h=>by
  have e:cC (q::Q)=q.1::cC Q:=rfl;have a:aL.names (x::xs)=x.1.name::aL.names xs:=rfl;rw [e,a,h.1.1,ja.names h.2]
def ja.keep (a:∀ v l,Ow w v l->Ow w' v l):∀ {Q:List (ByteArray×ZR)} {xs:aL},ja w Q xs->ja w' Q xs
 | [],[],_=>trivial
 | [],_::_,h=>h.elim
 | _::_,[],h=>h.elim
 | _::_,_::_,h=>⟨⟨h.1.1,a _ _ h.1.2⟩,ja.keep a h.2⟩
def ja.take:∀ {Q:List (ByteArray×ZR)} {xs:aL} (k:Nat),ja w Q xs->ja w (Q.take k) (xs.take k)
 | _,_,0,_=>by simp only [Wq];exact trivial
 | [],[],_+1,_=>trivial
 | [],_::_,_+1,h=>h.elim
 | _::_,[],_+1,h=>h.elim
 | _::_,_::_,k+1,h=>⟨h.1,ja.take k h.2⟩
def ja.drop:∀ {Q:List (ByteArray×ZR)} {xs:aL} (k:Nat),ja w Q xs->ja w (Q.drop k) (xs.drop k)
 | _,_,0,h=>h
 | [],[],_+1,_=>trivial
 | [],_::_,_+1,h=>h.elim
 | _::_,[],_+1,h=>h.elim
 | _::_,_::_,k+1,h=>ja.drop k h.2
def ja.app:∀ {Q Q':List (ByteArray×ZR)} {xs xs':aL},ja w Q xs->ja w Q' xs'->ja w (Q++Q') (xs++xs')
 | [],_,[],_,_,a=>a
 | [],_,_::_,_,h,_=>h.elim
 | _::_,_,[],_,h,_=>h.elim
 | _::_,_,_::_,_,h,a=>⟨h.1,ja.app h.2 a⟩
def ja.at:∀ {Q:List (ByteArray×ZR)} {xs:aL},ja w Q xs->∀ k (a:k<Q.length) (b:k<xs.length),Q[k].1=xs[k].1.name/\Ow w Q[k].2 xs[k].2
 | [],_,_,_,a,_=>absurd a ek
 | _::_,[],h,_,_,_=>h.elim
 | _::_,_::_,h,0,_,_=>h.1
 | _::Q,_::xs,h,k+1,a,b=>ja.at h.2 k (oD a) (oD b)
def ja.sl:∀ {Q:List (ByteArray×ZR)} {xs:aL},ja w Q xs->∀ o∈Q,kG o.2
 | [],_,_,_,h=>vE
 | _::_,[],h,_,_=>h.elim
 | q::Q,x::xs,h,o,ho=>by
  rcases Uv.1 ho with rfl|ho
  . exact h.1.2.sl.1
  . exact ja.sl h.2 o ho
def ja.RK (D:Nat):∀ {Q:List (ByteArray×ZR)} {xs:aL},ja w Q xs->(Q.map λo=>BY o.2/(D*44)+1).sum=rC D xs
 | [],[],_=>rfl
 | [],_::_,h=>h.elim
 | _::_,[],h=>h.elim
 | q::Q,x::xs,h=>by
  unfold rC;rw [U1,U1,XH,XH,h.1.2.sl.2,ja.RK D h.2];rfl
def kY (x:ByteArray):eK x↔bZ x=ZU:=by unfold eK bZ;simp
theorem nE {xs:aL} (h:ja w Q xs) (x:ByteArray):pE Q x↔x∉xs.names:=by
 rw [<- h.names];constructor
 . intro f a;obtain ⟨k,b,e⟩:=UR a;have c:k<Q.length:=(by unfold cC at b;rwa [Ue] at b);refine f k c ?_;rw [<- e];simp [cC]
 . intro a j d e;refine a ?_;rw [<- toList_inj e];exact T9.2 ⟨Q[j],T6 d,rfl⟩
def kZ {xs:aL} (h:ja w Q xs) (c:Up xs.names) {x:ByteArray} {k:Nat} (d:Oe Q x k):aI xs.names x=k/\k<Q.length/\x∈xs.names:=by
 obtain ⟨b,e,_⟩:=d;have hl:k<(cC Q).length:=by unfold cC;rw [Ue];exact b
 have a:(cC Q)[k]=x:=by simp only [cC,UN];exact toList_inj e
 rw [<- h.names] at c ⊢;exact ⟨ij c hl a,b,a▸T6 hl⟩
section
structure MB (w0 w:ZS) (wb D L G nb t:Nat) (xs:aL) (p r sa ar v:Nat) (Kind:aR->Prop) (ps:aR) (pg ob:ZR) (P:a8) (A:az) (F:aK) (out want:ZR) (cache:Int):Prop where
 wbA:iq w wb D L G (Z6 (ZV ⟨p,0,ZW⟩)) (Z6 (ZV ⟨sa,0,ZW⟩)) (Z6 (ZV ⟨r,0,ZW⟩)) nb out want cache
 box:ZN w sa 105 (Z6 (ZV ⟨ar,0,ZW⟩))
 live:aS w ar v p ps D L G t pg ob P xs A F
 nb:A.nb=nb
 base:bW w0 w
 glob:bK w0
 hK:3<=w0.heap.size
 wbB:w0.heap.size<=wb
 lt:wb<ar
 fB:∀ k,F.S k->w0.heap.size<=k
 vB:w0.heap.size<=v
 kB:∀ k,ps.bl k->w0.heap.size<=k
 shv:vt D L G Kind ps
 wbK:¬ ps.bl wb
 cb:0<=cache/\cache<=64
structure Dc (KW w:ZS) (r:Nat) (Q:List (ByteArray×ZR)) (xs:aL) (out want:ZR):Prop where
 ref:∃ rb rv,rT w r rb rv Q
 rel:ja w Q xs
 ow:kG out/\kG want
 mks:∀ (k:Nat) (cs:Array ZR) (T:ZO),T=82\/T=58->KW.heap[k]?=ZV (Z4 cs T (0,0))->w.heap[k]?=KW.heap[k]?
def MS (KW:ZS) (C:az->Prop) (w0 w:ZS) (wb D L G nb T:Nat):Prop:=∃ t xs Q p r sa ar v Kind ps pg ob P A F out want cache,MB w0 w wb D L G nb t xs p r sa ar v Kind ps pg ob P A F out want cache/\Dc KW w r Q xs out want/\t<=T/\C A
def vJ.ref (h:rT w r rb rv Q) (b:vJ B w w') (a:w.heap.size<=B):rT w' r rb rv Q:=
 ⟨(b _ (.inl rfl) r _ (T7 (TX.1 h.top).1 a) h.top).trans h.top,Ng h.own (b _ (.inr (.inl rfl))) a⟩
def vJ.box (h:ZN w sa 105 u) (b:vJ B w w') (a:w.heap.size<=B):ZN w' sa 105 u:=
 (b _ (.inr (.inr (.inl rfl))) sa _ (T7 h.lt a) h).trans h
def vJ.ow (h:Ow w u l) (b:vJ B w w') (a:w.heap.size<=B):Ow w' u l:=h.keep ((b _ (.inr (.inr (.inr (.inl rfl))))).mono a)
def Dc.keep {xs:aL} (h:Dc KW w r Q xs out want) (c:iZ B w w') (b:w.heap.size<=B):Dc KW w' r Q xs out want:=by
 obtain ⟨rb,rv,d⟩:=h.ref;refine ⟨⟨rb,rv,c.SJ.ref d b⟩,h.rel.keep λ_ _ o=>c.SJ.ow o b,h.ow,λk cs T hT q=>?_⟩;have a:=h.mks k cs T hT q;rw [q] at a;rw [q];exact (c _ (.inr hT) k _ (T7 (TX.1 a).1 b) a).trans a
def bK.below (h:bK w) (b:bW w w'):bK w':=by
 have a:w.cell? ⟨0,0,ZW⟩=_:=h;exact (b.cell (Uf a)).trans a
section
variable {w0 w w':ZS} {wb D L G nb t:Nat} {xs:aL} {p r sa ar v:Nat} {Kind:aR->Prop} {ps:aR} {pg ob:ZR} {P:a8} {A:az} {F:aK} {out want:ZR} {cache:Int}
def MB.gl (h:MB w0 w wb D L G nb t xs p r sa ar v Kind ps pg ob P A F out want cache):bK w:=h.glob.below h.base
def MB.next (h:MB w0 w wb D L G nb t xs p r sa ar v Kind ps pg ob P A F out want cache) (f:vJ w.heap.size w w') (g:w'.heap[wb]?=w.heap[wb]?) (d:bW w0 w') {t':Nat} {xs':aL} {pg' a:ZR} {P':a8} {B:az} {ps':aR} (hl:aS w' ar v p ps' D L G t' pg' a P' xs' B F) (c:B.nb=A.nb) (hv:Kind ps') (b:∀ k,ps'.bl k->ps.bl k\/w.heap.size<=k) :
 MB w0 w' wb D L G nb t' xs' p r sa ar v Kind ps' pg' a P' B F out want cache:=
 { h with wbA:=ai.keep h.wbA g,box:=f.box h.box lR,live:=hl,nb:=c.trans h.nb,base:=d,kB:=λk q=>(b k q).elim (h.kB k) λe=>TU h.base.size e,shv:=⟨h.shv.sh,h.shv.re,h.shv.pk,hv⟩,wbK:=λq=>(b wb q).elim h.wbK λe=>absurd (ai.lt h.wbA) (WR.2 e) }
def MB.below (h:MB w0 w wb D L G nb t xs p r sa ar v Kind ps pg ob P A F out want cache) (a:bW w w'):MB w0 w' wb D L G nb t xs p r sa ar v Kind ps pg ob P A F out want cache:=
 h.next (iZ.below a _).SJ (a.block _ (ai.lt h.wbA)) (h.base.trans (a.mono h.base.size)) (h.live.below a) rfl h.shv.kind (λ_ q=>.inl q)
def MB.wbF (h:MB w0 w wb D L G nb t xs p r sa ar v Kind ps pg ob P A F out want cache):¬ F.S wb/\wb≠v:=by
 have b:w.heap[wb]?=ZV (Z4 _ 42 (0,0)):=h.wbA;refine ⟨λq=>?_,λe=>?_⟩
 . obtain ⟨cs,T,hT,d⟩:=h.live.vol.arr.kind q;rw [b] at hT;simp only [UB,UQ] at hT;have c:=hT.2.1;rcases d with k|k|k|k<;>exact absurd (c.trans k) ee
 . have a:=h.live.vol.vol;unfold bg at a;rw [<- e,b] at a;cases a
def MB.Tt (h:MB w0 w wb D L G nb t xs p r sa ar v Kind ps pg ob P A F out want cache) (c:aa (λj=>j=ar\/F.S j\/j=v\/ps.bl j) w w') {t':Nat} {xs':aL} {pg' a:ZR} {P':a8} {B:az} {ps':aR} (hl:aS w' ar v p ps' D L G t' pg' a P' xs' B F) (e:B.nb=A.nb) (hv:Kind ps') (d:∀ k,ps'.bl k->ps.bl k\/w.heap.size<=k) :
 MB w0 w' wb D L G nb t' xs' p r sa ar v Kind ps' pg' a P' B F out want cache/\iZ w.heap.size w w':=by
 have b:=iZ.live (B:=w.heap.size) h.live.vol.arr h.live.arc h.live.vol.vol h.live.kit c;refine ⟨h.next b.SJ (c.block _ (ai.lt h.wbA) (λq=>?_)) (h.base.trans (c.below λk b=>⟨T7 b h.base.size,λq=>?_⟩)) hl e hv d,b⟩
 . rcases q with q|q|q|q
   . have:=h.lt;omega
   . exact h.wbF.1 q
   . exact h.wbF.2 q
   . exact h.wbK q
 . have:=h.wbB;have:=h.lt;have:=h.vB;rcases q with q|q|q|q
   . omega
   . have:=h.fB k q;omega
   . omega
   . have:=h.kB k q;omega
def MB.call (h:MB w0 w wb D L G nb t xs p r sa ar v Kind ps pg ob P A F out want cache) (c:aa (λj=>j=ar\/F.S j) w w') {t':Nat} {xs':aL} {pg' a:ZR} {P':a8} {B:az} (hl:aS w' ar v p ps D L G t' pg' a P' xs' B F) (b:B.nb=A.nb) :
 MB w0 w' wb D L G nb t' xs' p r sa ar v Kind ps pg' a P' B F out want cache/\iZ w.heap.size w w':=h.Tt (c.mono λ_ _ q=>q.elim .inl λe=>.inr (.inl e)) hl b h.shv.kind λ_ q=>.inl q
def MB.write (h:MB w0 w wb D L G nb t xs p r sa ar v Kind ps pg ob P A F out want cache) (d:aa (λj=>j=wb) w w') {r':Nat} {out' a:ZR}
 (i:iq w' wb D L G (Z6 (ZV ⟨p,0,ZW⟩)) (Z6 (ZV ⟨sa,0,ZW⟩)) (Z6 (ZV ⟨r',0,ZW⟩)) nb out' a cache) :
 MB w0 w' wb D L G nb t xs p r' sa ar v Kind ps pg ob P A F out' a cache/\iZ w.heap.size w w':=by
 obtain ⟨f1,g⟩:=h.wbF;have f:∀ j,j≠wb->j<w.heap.size->w'.heap[j]?=w.heap[j]?:=λj b hl=>d.block j hl b;have l:w.heap[wb]?=ZV (Z4 _ 42 (0,0)):=h.wbA;have c:iZ w.heap.size w w':=λT hT j cs hl b=>f j (λe=>by
  subst e;rw [l] at b;simp only [UB,UQ] at b;have e:=b.2.1;rcases hT with (q|q|q|q|q)|q|q<;>exact absurd (e.trans q) ee) hl
 exact ⟨{ h with wbA:=i,box:=c.SJ.box h.box lR,live:=h.live.other d.size f h.lt g f1 (by have:=h.hK;have:=h.wbB;omega) h.wbK,base:=h.base.trans (d.below λk c=>⟨T7 c h.base.size,λq=>e9 h.wbB⟩) },c⟩
end
end
def lZ (w:ZS) (q:Nat) (o:qP) (dv:ZR):Prop:=ai w q 47 [Z7 Z9 o.kind,Z7 Z9 o.a,ZZ o.s,dv]
def lZ.cells {o:qP} {dv:ZR} (h:lZ w q o dv):w.cell? ⟨q,0,ZW⟩=ZV (Z7 Z9 o.kind)/\w.cell? ⟨q,1,ZW⟩=ZV (Z7 Z9 o.a)/\w.cell? ⟨q,2,ZW⟩=ZV (ZZ o.s)/\w.cell? ⟨q,3,ZW⟩=ZV dv:=
 ⟨ai.cell h rfl,ai.cell h rfl,ai.cell h rfl,ai.cell h rfl⟩
def isN (x:ZR) (n:Int):Prop:=x=AK n\/(x=.nilIface/\n=0)
def vL {x:ZR} {n:Int} (b:isN x n) {w:ZS} (a:bK w):ZQ ZM 20 #[x] w λe w'=>e=Z3 (Z7 Z9 n)/\bW w w':=by
 rcases b with rfl|⟨rfl,rfl⟩
 . exact Em n w a
 . exact lA w
def wM (n:Int) (D nb:Nat) (xs:aL) (x:ByteArray) (d:a8) (xs':aL):Prop:=(n=0/\wJ D nb xs x d xs')\/(xs'=xs/\wI D nb xs x d.length n)
def Nh {xs:aL} {A:az} {Q:Int->Prop} {N:aL->Prop} (h:di w ar v p ps D L G t xs A F Q N (Z3 rr) w'):∃ n a pg ob P' xs' B,isN rr n/\aS w' ar v p ps D L G a pg ob P' xs' B F/\dJ A B/\aa (λk=>k=ar\/F.S k) w w'/\a<=t+1/\((n=0/\N xs')\/(xs'=xs/\Q n)):=by
 obtain ⟨i,a,pg,ob,P',xs',B,c,hl,d,b,h|⟨e,j,n,f,g⟩⟩:=h
 . cases c;exact ⟨0,a,pg,ob,P',xs',B,.inr ⟨h.1,rfl⟩,hl,d,b,ec,.inl ⟨rfl,h.2.2⟩⟩
 . cases c;exact ⟨n,a,pg,ob,P',xs',B,.inl f,hl,d,b,ec,.inr ⟨e,g⟩⟩
def RpN (w:ZS) (q:Nat) (Q:List (ByteArray×ZR)) (x:ByteArray) (d:a8) (n:Int) (e:ZP) (w':ZS):Prop:=
 (n≠0/\n≠10/\e=Z3 (Z7 Z9 n)/\w'=w)\/((n=0\/n=10)/\MY w q Q x d e w')
def Pu {n:Int} {xs:aL} (j:rT w q rb rv Q) (hl:Q.length<=1000) (p:ja wx Q xs) (hs:∀ o∈Q,kG o.2) {ao:Option Addr} {c m:Nat} (k:d.length=m) (hd:Bs w (.slice ao m c) d) (l:wM n D nb xs x d xs') :
 ZQ ZM 48 #[Z6 (ZV ⟨q,0,ZW⟩),ZZ x,.slice ao m c] w (RpN w q Q x d n):=by
 subst k;have i:=nE p x;have g:=kY x;rcases l with ⟨rfl,a,b,f,_⟩|⟨_,⟨a,rfl⟩|⟨a,⟨b,rfl⟩|⟨b,⟨f,rfl⟩|⟨f,_,rfl⟩⟩⟩⟩
 . exact (G3 j ec hs x ao c d hd b (g.2 a) (i.2 f)).mono λe w' h=>.inr ⟨.inl rfl,h⟩
 . exact (JC q x ao _ c (λq=>by rw [g,a] at q;cases q) w).mono λe w' h=>.inl ⟨ee,ee,h.1,h.2⟩
 . exact (JD q x ao _ c (g.2 a) b w).mono λe w' h=>.inl ⟨ee,ee,h.1,h.2⟩
 . exact (DI j ec x ao _ c (g.2 a) b (λh=>i.1 h f)).mono λe w' h=>.inl ⟨ee,ee,h.1,h.2⟩
 . exact (G3 j ec hs x ao c d hd b (g.2 a) (i.2 f)).mono λe w' h=>.inr ⟨.inr rfl,h⟩
def wM.none {n:Int} {xs:aL} (h:wM n D nb xs x d xs') (a:n≠0):xs'=xs:=h.elim (λq=>absurd q.1 a) λq=>q.1
def wM.some {xs:aL} (h:wM 0 D nb xs x d xs'):wJ D nb xs x d xs':=by
 rcases h with h|⟨_,⟨_,e⟩|⟨_,⟨_,e⟩|⟨_,⟨_,e⟩|⟨_,_,e⟩⟩⟩⟩
 . exact h.2
 all_goals exact absurd e ee
def wM.full {xs:aL} (h:wM 10 D nb xs x d xs'):d.length<=1500/\nb<(af xs.os).length+mL D d.length+2*AL D (an xs.os).length d.length+2:=by
 rcases h with ⟨e,_⟩|⟨_,⟨_,e⟩|⟨_,⟨_,e⟩|⟨a,⟨_,e⟩|⟨_,b,_⟩⟩⟩⟩;rotate_right
 . exact ⟨a,b⟩
 all_goals exact absurd e ee
def JO (h:aM w b l):ve w b:=λoff u hc=>by
 have d:=h.heap;simp only [World.cell?,d] at hc;have:u∈(l.map (λx=>Value.int .u8 ((x:Nat):Int))):=by
  have a:=hc;simp at a;obtain ⟨x,f,rfl⟩:=a;obtain ⟨c,e⟩:=Va.1 f;exact T9.2 ⟨x,e▸T6 c,rfl⟩
 obtain ⟨x,_,rfl⟩:=T9.1 this;exact ⟨λy e=>Y4,λs e=>Y4⟩
def aM.bs (h:aM w b (l++[71,72])) (d:l.length=m) (hl:l.length<=1000000) (e:∀ x∈l,x<256):Bs w (Z5 (ZV ⟨b,0,ZW⟩) m (m+2)) l:=by
 subst d;have:=Bs.Sl (n:=l.length) h ek ec (by intro x c;rcases Ui.1 c with q|q;exact e x q;simp at q;omega);have a:(l++[71,72]).length=l.length+2:=ek
 rw [a,List.take_left'] at this;exact this;rfl
def Ni {xs:aL} (a:ja w Q xs) {D nb m:Nat} {xs':aL} {x:ByteArray} {d:a8} (j:d.length=m) (g:1<=D) (e:D<=6) (i:∀ x∈xs,ll D x) (h:wM 10 D nb xs x d xs'):(nb:Int)-8<(jy Q D (m:Int):Int):=by
 have f:=Fk g e i (n:=d.length) (nb:=nb) h.full.1 rfl rfl h.full.2;have b:bN Q (D*44) Q.length=rC D xs:=by unfold bN;rw [VA];exact a.RK D
 have c:jy Q D (m:Int)=rC D xs+(m/(D*44)+1)+2*((xs.length+1)*200/(D*44)+1):=by
  unfold jy;rw [TT ec,VD,b,a.len]
 rw [j] at f;rw [c];omega
def Pv {xs:aL} (h:ja w Q xs) {x:ByteArray} {d:a8} {o:Ob} (ho:o.name=x) {v:ZR} (hv:Ow w v d):ja w (Q.take (aI (cC Q) x)++(x,v)::Q.drop (aI (cC Q) x)) (xs.ins (o,d)):=by
 unfold aL.ins;rw [h.names,ho];exact (h.take _).app ⟨⟨ho.symm,hv⟩,h.drop _⟩
theorem Nj {xs:aL} {A:az} (h:MB w0 w wb D L G nb t xs p r sa ar v Kind ps pg ob P A F out want cache) (hc:Dc KW w r Q xs out want) (o:qP) (dv:ZR) (hd:Bs w0 dv o.d) (xd:o.d.length<=100000) (xi:t<1000000) (x9:D<=6) :
 ZQ ZM 27 #[Z6 (ZV ⟨wb,0,ZW⟩),.agg #[Z7 Z9 o.kind,Z7 Z9 o.a,ZZ o.s,dv]] w λe w'=>e=Z3 (Z1 ZU)/\MS KW (dJ A) w0 w' wb D L G nb (t+1):=by
 obtain ⟨X,Y,xe,_⟩:=id hd;subst xe;have l:=hd.lt;obtain ⟨m,c⟩:=nM (o.d.length);rw [c] at hd xd ⊢;obtain ⟨w1,qn⟩:=nM (w.alloc (Z4 #[Z7 Z9 o.kind,Z7 Z9 o.a,ZZ o.s,.slice X m Y] 47));have z:lZ w1 w.heap.size o (.slice X m Y):=by rw [<- qn];exact UC w _
 have qd:bW w w1:=by rw [<- qn];exact bA w _
 have f:=h.below qd;have K:=hc.keep (iZ.below qd _) lR;obtain ⟨N,ky⟩:=nM (w.heap.size);have M:N<w1.heap.size:=by rw [<- ky];exact ai.lt z
 have R:ar<N:=by rw [<- ky];exact h.live.arc.lt
 have y:∀ k,F.S k->k<N:=λk hk=>by rw [<- ky];exact h.live.vol.arr.RN hk
 have U:v<N:=by rw [<- ky];exact h.live.vol.vol.lt
 rw [ky] at z;have x3:=z.cells.2.2.2;have qk:=Hs _ o.d w1 (hd.mono f.base) ec;rw [c] at qk;have H1:=hide10 z f K hd l c M R y U;clear z f K hd l c M R y U h hc qd;go_enter func27,ntmps27;go_wp2_with fail;clear ky;refine qk.mono ?_;rintro e w2 ⟨rb,rfl,W,ka,kb⟩;clear qk qn x3;obtain ⟨z,f,K,hd,l,c,M,R,y,U⟩:=H1.o;have kp:lZ w2 N o (.slice X m Y):=ai.keep z (kb.block _ M);have h2:=f.below kb;have y2:=kp.cells.2.2.1;have s2:=h2.wbA.cells.2.2.2.2.1;have kv:bW w2 w2.drew:=(TW _ w2).drew;have qb:=h2.below kv;have kj:=abe qb.box qb.live xi o.s (ZV ⟨rb,0,ZW⟩) (m+2) o.d (λw' hO=>by
  rw [c];have x8:aM w' rb (o.d++[71,72]):=Wd ka (hO.block rb ka.lt (λe=>e9 (y _ e)));exact x8.bs c ec l) ec
 rw [c] at kj;have H2:=a7 kp h2 kb ka W kv;clear z f K hd l c M R y U kp h2 kb ka W kv qb;go_upto_region 2 with fail;go_cut [6] from 12 to 82 (λv6 wx=>di w2.drew ar v p ps D L G t xs A F (wI D A.nb xs o.s m) (wJ D A.nb xs o.s o.d) (Z3 v6) wx)
 case first=>
  go_region_with (go_at_call 46;refine kj.mono ?_;rintro e w3 qh;obtain ⟨rr,_,_,_,_,_,_,rfl,_⟩:=id qh;have H3:=ak qh;clear qh);all_goals (go_wp2_with fail;go_meet;case rel=>exact H3.o)
 case rest=>
  obtain ⟨n,t',xk,qr,P',xs',B,hN,qx,C,qp,E,q1⟩:=Nh hcut;obtain ⟨z,f,K,hd,l,c,M,R,y,U⟩:=H1.o;have g:wM n D A.nb xs o.s o.d xs':=by unfold wM;rw [c];exact q1
  obtain ⟨kp,h2,kb,ka,W,kv⟩:=H2.o;have km:=kb.size;have hr:aa (λj=>j=ar\/F.S j) w2 wc:=(aa.RL kv _).trans qp;obtain ⟨h3,qv⟩:=h2.call hr qx C.nb;have kr:lZ wc N o (.slice X m Y):=ai.keep kp (hr.block _ ec (λe=>by
   rcases e with e|e
   . omega
   . have:=y _ e;omega))
  have kz:aM wc rb (o.d++[71,72]):=Wd ka (hr.block rb ka.lt (λe=>by
   rcases e with e|e
   . omega
   . have:=y _ e;omega))
  have x2:=vL hN h3.gl;have x5:=hr.size;have hz:iZ w1.heap.size w1 wc:=(iZ.below kb _).trans (qv.mono km);have H3:=hide8 kr h3 kz hz g (TU km x5) C E;clear hN g q1 z f K hd l c M R y U kp h2 kb ka W kv km hr h3 qv kr kz x5 hz qx C E qp kj y2 s2 hcut;go_wp2_with fail;refine x2.mono ?_;rintro e w4 ⟨rfl,ks⟩;clear x2;obtain ⟨z,f,K,hd,l,c,M,R,y,U⟩:=H1.o;obtain ⟨kr,h3,kz,hz,g,q8,C,E⟩:=H3.o;have W:=H2.o.2.2.2.2.1;have x:=h3.below ks;have kf:lZ w4 N o (.slice X m Y):=ai.keep kr (ks.block _ (ai.lt kr));have ke:aM w4 rb (o.d++[71,72]):=kz.below ks;have qm:=Ht rb _ o.d w4 ke (hd.mono x.base) ec;rw [c] at qm;have x4:=kf.cells.2.2.2;have H4:=a6 kf x ke (hz.trans (iZ.below ks _)) (TU q8 ks.size);clear z f K hd l c M R y U kr h3 kz hz g q8 C E W kf ke x ks;go_wp2_with fail;refine qm.mono ?_;rintro e w5 ⟨rfl,kx,_⟩;clear qm x4;obtain ⟨z,f,K,hd,l,c,M,R,y,U⟩:=H1.o;obtain ⟨kf,x,ke,q4,qo⟩:=H4.o;obtain ⟨_,_,_,_,g,_,C,E⟩:=H3.o;have W:=H2.o.2.2.2.2.1;have he:∀ j,j≠rb->j<w4.heap.size->w5.heap[j]?=w4.heap[j]?:=λj hj hl=>kx.block j hl (λe=>hj acs);have ko:=kx.size;have qy:=x.live.aside (w':=w5) (b:=rb) (B:=w1.heap.size) (JO ke) (by obtain ⟨cs,xc,_⟩:=ke;exact bU x.live.kit xc oY) ko he W (λk hk=>e9 (y k hk)) ec ec (by have:=f.live.vol.room;exact this);have q6:iZ w1.heap.size w4 w5:=λT _ j cs hj hq=>he j ec ec;have q2:bW w0 w5:=x.base.trans ⟨kx.os,kx.tape,kx.output,ko,λj hj=>he j (e9 f.base.size) (T7 hj x.base.size)⟩;have q7:w5.heap[wb]?=w4.heap[wb]?:=he wb (e9 f.lt) (ai.lt x.wbA);have J:MB w0 w5 wb D L G nb t' xs' p r sa ar v Kind ps xk qr P' B F out want cache:={ x with wbA:=ai.keep x.wbA q7,box:=(he sa (e9 f.box.lt) x.box.lt).trans x.box,live:=qy,base:=q2 };have I:lZ w5 N o (.slice X m Y):=ai.keep kf (he N ec (ai.lt kf));have u:=K.keep (q4.trans q6) lR;obtain ⟨xz,y1,x1⟩:=u.ref;have O:Q.length<=1000:=by
   rw [u.rel.len];have:=f.live.Sj.1;simpa [aL.os] using this
  have qs:=yZ x1 ec u.rel.sl;have r5:=J.wbA.cells.2.2.2.2.2.1;have H5:=a5 I J u O;clear z f K hd l c M R y U kf x ke q4 qo g C E W he ko qy q6 q2 q7 J I u x1 O kx;go_wp2_with fail;refine qs.mono ?_;rintro e w6 ⟨rfl,⟨u6,kc⟩,hv⟩;clear qs r5;obtain ⟨I,J,u,O⟩:=H5.o;obtain ⟨_,_,_,hd,l,c,_,_,_,_⟩:=H1.o;have g:=H3.o.2.2.2.2.1;have Z:=J.below hv;have kg:lZ w6 N o (.slice X m Y):=ai.keep I (hv.block _ (ai.lt I));have qi:=Pu kc O u.rel u.rel.sl c (hd.mono Z.base) g;obtain ⟨_,_,y6,x6⟩:=kg.cells;obtain ⟨q5,kk⟩:=nM (w5.heap.size);rw [kk] at qi kc ⊢;have H6:=a6 kg Z kc hv kk;clear I J u O hd l c g Z kg kc hv kk;go_wp2_with fail;refine qi.mono ?_;rintro e i xh;clear qi y6 x6;obtain ⟨kg,Z,kc,hv,kk⟩:=H6.o;obtain ⟨I,J,u,O⟩:=H5.o;have g:=H3.o.2.2.2.2.1;obtain ⟨C,E⟩:=H3.o.2.2.2.2.2.2;have ki:=C;rcases xh with ⟨n0,xv,rfl,rfl⟩|⟨hn,rfl,u7,xm,qj,qg,qc⟩
  . obtain rfl:=g.none n0;have hy:MS KW (dJ A) w0 i wb D L G nb (t+1):=⟨_,_,_,_,_,_,_,_,_,_,_,_,_,_,_,_,_,_,Z,u.keep (iZ.below hv _) lR,E,ki⟩;have HF:=ak hy;clear hy kg Z kc hv kk I J u O g C E;go_wp2_with fail;refine (nW n i).mono ?_;rintro e w8 ⟨rfl,rfl⟩;go_wp2;go_ret;exact ⟨rfl,HF.o⟩
  . have kh:Below w5.heap.size w6 i:=qc.below λk hk=>⟨T7 hk hv.size,ec⟩;have hs:bW w5 i:=hv.trans kh;have H:=J.below hs;have V:=u.keep (iZ.below hs _) lR;rcases hn with rfl|rfl
    . obtain ⟨_,qf,_,_,AH,x0,rfl⟩:=g.some;have l:=H1.o.2.2.2.2.1;have q9:=H.wbA;have r7:=q9.cells.2.2.2.2.2.1;have f7:=ai.R2 q9 5;have hN:∀ w8,w8=i.setCell ⟨wb,5,ZW⟩ (Z6 (ZV ⟨q5,0,ZW⟩))->MS KW (dJ A) w0 w8 wb D L G nb (t+1):=by
       rintro w8 rfl;have xa:aa (λj=>j=wb) i (i.setCell ⟨wb,5,ZW⟩ (Z6 (ZV ⟨q5,0,ZW⟩))):=aa.setCell _ _ _ rfl;have xb:iq (i.setCell ⟨wb,5,ZW⟩ (Z6 (ZV ⟨q5,0,ZW⟩))) wb D L G (Z6 (ZV ⟨p,0,ZW⟩)) (Z6 (ZV ⟨sa,0,ZW⟩)) (Z6 (ZV ⟨q5,0,ZW⟩)) nb out want cache:=ai.set q9 5 [Z6 (ZV ⟨q5,0,ZW⟩)] Zv;obtain ⟨h8,xg⟩:=H.write xa xb;have qe:Dc KW i q5 (Q.take (aI (cC Q) o.s)++(o.s,xm)::Q.drop (aI (cC Q) o.s)) (xs.ins (AH,o.d)) out want:=⟨⟨_,u7,qj⟩,Pv V.rel x0 ⟨⟨_,qg⟩,l,qf⟩,V.ow,V.mks⟩;exact ⟨_,_,_,_,_,_,_,_,_,_,_,_,_,_,_,_,_,_,h8,qe.keep xg lR,E,ki⟩
      have HN:=ak hN;clear hN kg Z kc hv kk I J u O g C E qj qg qc kh hs H V q9 l x0;go_wp2_with fail;refine (nW 0 _).mono ?_;rintro e w8 ⟨rfl,rfl⟩;go_wp2;go_ret;exact ⟨rfl,HN.o _ rfl⟩
    . obtain rfl:=g.none ee;have c:=H1.o.2.2.2.2.2.1;have hy:MS KW (dJ A) w0 i wb D L G nb (t+1):=⟨_,_,_,_,_,_,_,_,_,_,_,_,_,_,_,_,_,_,H,V,E,ki⟩;have xf:=Ni V.rel c H.live.vol.par.d1 x9 H.live.disk.fits g;rw [C.nb.symm.trans H.nb] at xf;obtain ⟨c0,_,_,_,_,c5,c6,_⟩:=H.wbA.cells;have qq:lZ i N o (.slice X m Y):=ai.keep I (hs.block _ (ai.lt I));have x7:=qq.cells.2.2.2;obtain ⟨y0,y3,qa⟩:=V.ref;have qz:∀ k,ZQ ZM 34 #[Z6 (ZV ⟨r,0,ZW⟩),Z7 Z9 D,Z7 Z9 m] (i.drewN k) λe w'=>e=Z3 (Z7 Z9 (jy Q D (m:Int):Nat))/\w'=i.drewN k:=λk=>by
       have q3:bW i (i.drewN k):=⟨rfl,rfl,rfl,TV _,λ_ _=>rfl⟩;exact (EA ⟨(q3.block _ (TX.1 qa.top).1).trans qa.top,aq qa.own q3⟩ O V.rel.sl D H.live.vol.par.d1 ec (m:Int) ec ec).mono λe w' q=>⟨q.2,q.1⟩
      generalize jy Q D (m:Int)=nn at *;have HF:=al hy qz;have xj:IntKind.i64.wrap ((nb:Int)-8)=(nb:Int)-8:=(by rw [Uy];have:=H.nb;have:=H.live.nb;omega);clear hy qz kg Z kc hv kk I J u O g C E qj qg qc kh hs H V c qq qa;go_upto_region 8 with fail;go_quiet ((go_at_call 34;refine abF (HF.o.2 _)));go_wp2;go_ret;obtain ⟨t1,y5,Q1,p1,r1,y4,xp,v1,xq,xy,pg1,xx,P1,A1,F1,xo,xn,hb,hM,hC,hT⟩:=HF.o.1;have q3:bW i (i.drewN nq):=⟨rfl,rfl,rfl,TV _,λ_ _=>rfl⟩;exact ⟨rfl,_,_,_,_,_,_,_,_,_,_,_,_,_,_,_,_,_,_,hM.below q3,hC.keep (iZ.below q3 _) lR,hT⟩
structure St0 (KW w0 w w1:ZS) (wb D L G nb t:Nat) (xs:aL) (Q:List (ByteArray×ZR)) (p r sa ar v:Nat) (Kind:aR->Prop) (ps:aR) (pg ob:ZR) (P:a8) (A:az) (F:aK) (out want:ZR) (cache:Int) (o:qP) (dv:ZR):Prop where
 op:lZ w1 w.heap.size o dv
 b:MB w0 w1 wb D L G nb t xs p r sa ar v Kind ps pg ob P A F out want cache
 c:Dc KW w1 r Q xs out want
 ar:ar<w.heap.size
 f:∀ k,F.S k->k<w.heap.size
 lt:w.heap.size<w1.heap.size
def st0 {xs:aL} {A:az} (h:MB w0 w wb D L G nb t xs p r sa ar v Kind ps pg ob P A F out want cache) (hc:Dc KW w r Q xs out want) (o:qP) (b:ZR) {w1:ZS} (e:w.alloc (Z4 #[Z7 Z9 o.kind,Z7 Z9 o.a,ZZ o.s,b] 47)=w1):St0 KW w0 w w1 wb D L G nb t xs Q p r sa ar v Kind ps pg ob P A F out want cache o b:=by
 have d:bW w w1:=by rw [<- e];exact bA w _
 have c:lZ w1 w.heap.size o b:=by rw [<- e];exact UC w _
 exact ⟨c,h.below d,hc.keep (iZ.below d _) lR,h.live.arc.lt,λk f=>h.live.vol.arr.RN f,ai.lt c⟩
def MS.mono {C C':az->Prop} {T':Nat} (h:MS KW C w0 w wb D L G nb T) (hT:T<=T') (d:∀ A,C A->C' A):MS KW C' w0 w wb D L G nb T':=by
 obtain ⟨t,xs,Q,p,r,sa,ar,v,Kind,ps,pg,ob,P,A,F,out,want,cache,a,b,e,c⟩:=h;exact ⟨t,xs,Q,p,r,sa,ar,v,Kind,ps,pg,ob,P,A,F,out,want,cache,a,b,ec,d A c⟩
section
section
variable {KW w0 w:ZS} {wb D L G nb t:Nat} {xs:aL} {Q:List (ByteArray×ZR)} {p r sa ar v:Nat} {Kind:aR->Prop} {ps:aR} {pg ob:ZR} {P:a8} {A:az} {F:aK} {out want:ZR} {cache:Int}
theorem JP (h:MB w0 w wb D L G nb t xs p r sa ar v Kind ps pg ob P A F out want cache) (hc:Dc KW w r Q xs out want) (o:qP) (i:ZR) (q:∃ f m g,i=.slice f m g) (l:o.kind<1\/6<o.kind) {C:az->Prop} (u:C A) :
 ZQ ZM 13 #[Z6 (ZV ⟨wb,0,ZW⟩),.agg #[Z7 Z9 o.kind,Z7 Z9 o.a,ZZ o.s,i]] w λe w'=>e=Z3 (Z1 ZU)/\MS KW C w0 w' wb D L G nb (t+1):=by
 obtain ⟨f,m,g,rfl⟩:=q;obtain ⟨kd,j⟩:=nM (o.kind);obtain ⟨w1,k⟩:=nM (w.alloc (Z4 #[Z7 Z9 o.kind,Z7 Z9 o.a,ZZ o.s,.slice f m g] 47));have d:=st0 h hc o _ k;obtain ⟨x,I,J,K⟩:=d.op.cells;have n:=ak (show MS KW C w0 w1 wb D L G nb (t+1) from ⟨_,_,_,_,_,_,_,_,_,_,_,_,_,_,_,_,_,_,d.b,d.c,ec,u⟩);clear d h hc;rw [j] at x k l ⊢;have n1:¬ kd=1:=ec
 have y:¬ kd=2:=ec
 have z:¬ kd=3:=ec
 have B:¬ kd=4:=ec
 have E:¬ kd=5:=ec
 have H:¬ kd=6:=ec
 clear l j;go_enter func13,ntmps13;go_wp2;go_ret;exact ⟨rfl,n.o⟩
end
end
section
def aaZ (n:Int) (xs:aL) (x:ByteArray) (xs':aL):Prop:=(n=0/\DJ xs x xs')\/(xs'=xs/\wK xs x n)
def aac {n0:Nat} {n:Int} {xs:aL} (l:rT w q rb rv Q) (h:aaS w q Q x e w') (s:aaZ n xs x xs') (f:ja wx Q xs) (m:Up xs.names) (t:n0<=q) (y:n0<=w.heap.size) :
 e=Z3 (Z7 Z9 n)/\Below n0 w w'/\n≠10/\∃ i,(∃ rb rv,rT w' q rb rv i)/\∀ g,ja g Q xs->ja g i xs':=by
 have r:=nE f x;have c:=kY x;rcases s with ⟨rfl,a,d,rfl⟩|⟨rfl,⟨a,rfl⟩|⟨a,d,rfl⟩⟩
 . rcases h with ⟨q,_⟩|⟨_,q,_⟩|⟨_,k,q,b,⟨u,p⟩,o⟩
   . exact absurd (c.2 a) q
   . exact absurd d (r.1 q)
   . refine ⟨b,o.below λj v=>⟨ec,ec⟩,ee,_,⟨_,u,p⟩,λg z=>?_⟩;rw [(kZ f m q).1];exact (z.take k).app (z.drop (k+1))
 . rcases h with ⟨_,b,rfl⟩|⟨q,_⟩|⟨q,_⟩
   . exact ⟨b,TW _ _,ee,Q,⟨_,_,l⟩,λ_ z=>z⟩
   . rw [c,a] at q;cases q
   . rw [c,a] at q;cases q
 . rcases h with ⟨q,_⟩|⟨_,_,b,rfl⟩|⟨_,k,q,_⟩
   . exact absurd (c.2 a) q
   . exact ⟨b,TW _ _,ee,Q,⟨_,_,l⟩,λ_ z=>z⟩
   . exact absurd (kZ f m q).2.2 d
section
variable {KW w0 w:ZS} {wb D L G nb t:Nat} {xs:aL} {Q:List (ByteArray×ZR)} {p r sa ar v:Nat} {Kind:aR->Prop} {ps:aR} {pg ob:ZR} {P:a8} {A:az} {F:aK} {out want:ZR} {cache:Int}
theorem Nk (h:MB w0 w wb D L G nb t xs p r sa ar v Kind ps pg ob P A F out want cache) (hc:Dc KW w r Q xs out want) (o:qP) (dv:ZR) (kj:∃ x m y,dv=.slice x m y) (kp:t<1000000) (hk:o.kind=3) :
 ZQ ZM 13 #[Z6 (ZV ⟨wb,0,ZW⟩),.agg #[Z7 Z9 o.kind,Z7 Z9 o.a,ZZ o.s,dv]] w λe w'=>e=Z3 (Z1 ZU)/\MS KW (dJ A) w0 w' wb D L G nb (t+1):=by
 obtain ⟨x,m,y,rfl⟩:=kj;obtain ⟨w1,k5⟩:=nM (w.alloc (Z4 #[Z7 Z9 o.kind,Z7 Z9 o.a,ZZ o.s,.slice x m y] 47));have d:=st0 h hc o _ k5;have M:bW w1 w1.drew:=(TW _ w1).drew;have X:=d.b.below M;have hp:=Ph X.box X.live kp o.s;obtain ⟨x0,x1,x2,x3⟩:=d.op.cells;have s1:=d.b.wbA.cells.2.2.2.2.1;obtain ⟨q0,H⟩:=nM (w.heap.size);have HS:=al d H;clear d h hc M X;rw [hk] at x0 k5 ⊢;rw [H] at x0 x1 x2 x3;clear hk;go_enter func13,ntmps13;go_upto_region 13 with fail;clear H k5 x0 x1 x3;go_cut [11] from 21 to 233 (λv11 wx=>di w1.drew ar v p ps D L G t xs A F (wK xs o.s) (DJ xs o.s) (Z3 v11) wx)
 case first=>
  go_region_with (go_at_call 31;refine hp.mono ?_;rintro e w2 Y;obtain ⟨rr,_,_,_,_,_,_,rfl,_⟩:=id Y;have i:=ak Y;clear Y);all_goals (go_wp2_with fail;go_meet;case rel=>exact i.o)
 case rest=>
  obtain ⟨n,t',hd,hb,P',xs',B,hN,ke,V,k6,kg,J⟩:=Nh hcut;change aaZ n xs o.s xs' at J;obtain ⟨d,H⟩:=HS.o;have M:bW w1 w1.drew:=(TW _ w1).drew;have U:aa (λj=>j=ar\/F.S j) w1 wc:=(aa.RL M _).trans k6;obtain ⟨z,kc⟩:=d.b.call U ke V.nb;have E:=d.c.keep kc lR;have R:=d.b.live.disk.up;have K:Q.length<=1000000:=by
   rw [E.rel.len];have:=d.b.live.Sj.1;have e:xs.os.length=xs.length:=KP;omega
  have C:lZ wc q0 o (.slice x m y):=by
   rw [<- H];exact ai.keep d.op (U.block _ d.lt (λe=>by
    rcases e with e|e
    . have:=d.ar;omega
    . have:=d.f _ e;omega))
  have kh:=vL hN z.gl;have i:=hide8 z E C J R K V kg;clear d H M U z kc E C hN J R K ke V kg k6 hp x2 s1 hcut;go_wp2_with fail;refine kh.mono ?_;rintro e w3 ⟨rfl,hs⟩;clear kh;obtain ⟨z,E,C,J,R,K,_⟩:=i.o;have l:=z.below hs;have g:=E.keep (iZ.below hs _) lR;have k:lZ w3 q0 o (.slice x m y):=ai.keep C (hs.block _ (ai.lt C));obtain ⟨kr,ks,kf⟩:=g.ref;have ka:=yZ kf K g.rel.sl;have r3:=l.wbA.cells.2.2.2.2.2.1;have H3:=aE l g k;clear z E C J R K l g k kf hs;go_wp2_with fail;refine ka.mono ?_;rintro e w4 ⟨rfl,⟨u4,u⟩,q⟩;clear ka r3;obtain ⟨l,g,k⟩:=H3.o;have Z:=DH u i.o.2.2.2.2.2.1 g.rel.sl o.s;have k7:lZ w4 q0 o (.slice x m y):=ai.keep k (q.block _ (ai.lt k));have y4:=k7.cells.2.2.1;obtain ⟨N,I⟩:=nM (w3.heap.size);rw [I] at Z u ⊢;have H4:=aE u q I;clear l g k k7 u q I;go_wp2_with fail;refine Z.mono ?_;rintro e w5 kb;clear Z y4;obtain ⟨u,q,I⟩:=H4.o;obtain ⟨l,g,k⟩:=H3.o;obtain ⟨kk,k9,ko,Q',k8,h4⟩:=aac u kb i.o.2.2.2.1 g.rel i.o.2.2.2.2.1 (Nat.le_of_eq I) q.size;subst kk;have W:bW w3 w5:=q.trans k9;have T:=l.below W;have hv:=g.keep (iZ.below W _) lR;have O:=T.wbA;have r5:=O.cells.2.2.2.2.2.1;have f5:=ai.R2 O 5;have hq:MS KW (dJ A) w0 (w5.setCell ⟨wb,5,ZW⟩ (Z6 (ZV ⟨N,0,ZW⟩))) wb D L G nb (t+1):=by
   have hW:iq (w5.setCell ⟨wb,5,ZW⟩ (Z6 (ZV ⟨N,0,ZW⟩))) wb D L G (Z6 (ZV ⟨p,0,ZW⟩)) (Z6 (ZV ⟨sa,0,ZW⟩)) (Z6 (ZV ⟨N,0,ZW⟩)) nb out want cache:=ai.set O 5 [Z6 (ZV ⟨N,0,ZW⟩)] Zv;obtain ⟨h6,km⟩:=T.write (aa.setCell (S:=λj=>j=wb) _ ⟨wb,5,ZW⟩ _ rfl) hW;have ki:Dc KW w5 N Q' xs' out want:=⟨k8,h4 _ hv.rel,hv.ow,hv.mks⟩;exact ⟨_,_,_,_,_,_,_,_,_,_,_,_,_,_,_,_,_,_,h6,ki.keep km lR,i.o.2.2.2.2.2.2.2,i.o.2.2.2.2.2.2.1⟩
  have HF:=ak hq;clear hq u q I l g k k9 k8 h4 W T hv O kb;go_wp2_with fail;refine (nW _ _).mono ?_;rintro e w8 ⟨rfl,rfl⟩;go_wp2;go_ret;exact ⟨rfl,HF.o⟩
end
end
section
def DM {xs:aL} (b:∀ x∈xs,ll D x) {X:Ob×a8} (a:X∈xs):bZ X.1.name=ZU:=by
 have:=(b X a).fit.name;unfold bZ;exact UZ this
def Nl {xs:aL} {X:Ob×a8} (a:X∈xs):X.1.name∈xs.names:=T9.2 ⟨X.1,T9.2 ⟨X,a,rfl⟩,rfl⟩
def Nn {xs:aL} (h:x∈xs.names):∃ X∈xs,X.1.name=x:=by
 obtain ⟨o,ho,e⟩:=T9.1 h;obtain ⟨X,a,rfl⟩:=T9.1 ho;exact ⟨X,a,e⟩
def Pw {xs:aL} {X:Ob×a8} (a:ja wx Q xs) (i:Up xs.names) (p:∀ x∈xs,ll D x) (f:X∈xs):∃ c,(∀ e,QI Q X.1.name e->e=Z3 (ZY #[c,Z7 Z9 0]))/\Ow wx c X.2:=by
 have r:=nE a X.1.name;obtain ⟨b,h,g⟩:=UR f;have d:b<Q.length:=by rw [a.len];exact h
 obtain ⟨t,j⟩:=a.at b d h;rw [g] at t j;refine ⟨Q[b].2,λe o=>?_,j⟩;rcases o with ⟨q,_⟩|⟨_,q,_⟩|⟨_,k,q,l⟩
 . exact absurd ((kY _).2 (DM p f)) q
 . exact absurd (Nl f) (r.1 q)
 . have s:=(kZ a i q).1;have hl:b<xs.names.length:=(by rw [<- a.names];unfold cC;rw [Ue];exact d);have n:=ij i hl (x:=X.1.name) (by rw [<- g];simp [aL.names,aU,aL.os]);have m:k=b:=s.symm.trans n;subst m;rw [l,Ub,Uc d];rfl
def aad {base:Nat} {xs:aL} (v:vu xs x base u rr wx) (r:ja wx Q xs) (s:Up xs.names) (j:∀ x∈xs,ll D x) :
 ∃ n c l,isN rr n/\(∀ e,QI Q x e->e=Z3 (ZY #[c,Z7 Z9 n]))/\Ow wx u l/\Ow wx c l/\(n=0\/(n≠0/\u=Z5 ZW 0 0/\x∉xs.names)):=by
 have m:=kY x;rcases v with ⟨d,⟨b,a⟩|⟨b,a,o⟩⟩|⟨b,a,X,f,w,ho⟩
 . refine ⟨6,Z5 ZW 0 0,[],.inl b,λe i=>?_,d▸Ow.nil _,Ow.nil _,.inr ⟨ee,d,λq=>?_⟩⟩
   . rcases i with ⟨_,g⟩|⟨q,_⟩|⟨q,_⟩
     . exact g
     . rw [m,a] at q;cases q
     . rw [m,a] at q;cases q
   . obtain ⟨X,f,e⟩:=Nn q;have:=DM j f;rw [e,a] at this;cases this
 . refine ⟨9,Z5 ZW 0 0,[],.inl b,λe i=>?_,d▸Ow.nil _,Ow.nil _,.inr ⟨ee,d,o⟩⟩;rcases i with ⟨q,_⟩|⟨_,_,g⟩|⟨_,k,q,_⟩
   . exact absurd (m.2 a) q
   . exact g
   . exact absurd (kZ r s q).2.2 o
 . obtain ⟨c,p,t⟩:=Pw r s j f;have h:=j _ f;rw [w] at p;exact ⟨0,c,X.2,.inr ⟨b,rfl⟩,p,⟨⟨base,ho⟩,h.byt,by rw [h.len];exact h.fit.size⟩,t,.inl rfl⟩
def aa0:¬ jX 47:=vf
section
variable {KW w0 w:ZS} {wb D L G nb t:Nat} {xs:aL} {Q:List (ByteArray×ZR)} {p r sa ar v:Nat} {Kind:aR->Prop} {ps:aR} {pg ob:ZR} {P:a8} {A:az} {F:aK} {out want:ZR} {cache:Int}
theorem No (h:MB w0 w wb D L G nb t xs p r sa ar v Kind ps pg ob P A F out want cache) (hc:Dc KW w r Q xs out want) (o:qP) (i:ZR) (hd:Bs w0 i o.d) (y:o.d.length<=100000) (B:t<1000000) (x:D<=6) (C:o.kind=1) :
 ZQ ZM 13 #[Z6 (ZV ⟨wb,0,ZW⟩),.agg #[Z7 Z9 o.kind,Z7 Z9 o.a,ZZ o.s,i]] w λe w'=>e=Z3 (Z1 ZU)/\MS KW (dJ A) w0 w' wb D L G nb (t+1):=by
 obtain ⟨q,u,z,_⟩:=id hd;subst z;obtain ⟨m,l⟩:=nM (o.d.length);rw [l] at hd ⊢;obtain ⟨w1,k⟩:=nM (w.alloc (Z4 #[Z7 Z9 o.kind,Z7 Z9 o.a,ZZ o.s,.slice q m u] 47));have f:=st0 h hc o _ k;have g:=Nj f.b f.c o _ hd y B x;obtain ⟨E,H,I,J⟩:=f.op.cells;clear f h hc hd l;rw [C] at E k g ⊢;go_enter func13,ntmps13;go_wp2_with fail;refine g.mono ?_;rintro e w2 ⟨rfl,j⟩;have n:=ak j;clear j g;go_wp2;go_ret;exact ⟨rfl,n.o⟩
theorem DN (h:MB w0 w wb D L G nb t xs p r sa ar v Kind ps pg ob P A F out want cache) (hc:Dc KW w r Q xs out want) (o:qP) (dv:ZR) (kv:∃ X m Y,dv=.slice X m Y) (hk:o.kind=2) :
 ZQ ZM 13 #[Z6 (ZV ⟨wb,0,ZW⟩),.agg #[Z7 Z9 o.kind,Z7 Z9 o.a,ZZ o.s,dv]] w λe w'=>e=Z3 (Z1 ZU)/\(∃ ps' I H P' i d,MB w0 w' wb D L G nb t xs p r sa ar v Kind ps' I H P' A F i d cache/\Dc KW w' r Q xs i d):=by
 obtain ⟨X,m,Y,rfl⟩:=kv;obtain ⟨w1,k9⟩:=nM (w.alloc (Z4 #[Z7 Z9 o.kind,Z7 Z9 o.a,ZZ o.s,.slice X m Y] 47));have g:=st0 h hc o _ k9;have hp:bW w1 w1.drew:=(TW _ w1).drew;have Z:=g.b.below hp;have hx:=abg Z.box Z.live o.s λwx kp=>Pa (Z.live.below kp) Z.shv o.s;obtain ⟨x0,x1,x2,x3⟩:=g.op.cells;have s1:=g.b.wbA.cells.2.2.2.2.1;obtain ⟨q0,V⟩:=nM (w.heap.size);have HS:=al g V;clear g h hc hp Z;rw [hk] at x0 k9 ⊢;rw [V] at x0 x1 x2 x3;clear hk;go_enter func13,ntmps13;go_upto_region 5 with fail;clear V k9 x0 x1 x3;go_cut [5,6] from 21 to 233 (λv5 v6 wx=>FO w1.drew ar v p Kind ps D L G t xs A F o.s (Z3 (ZY #[v5,v6])) wx)
 case first=>
  go_region_with (go_at_call 28;refine hx.mono ?_;rintro e w2 k8;obtain ⟨uu,rr,_,_,_,_,rfl,_⟩:=id k8;have W:=ak k8;clear k8);all_goals (go_wp2_with fail;go_meet;case rel=>exact W.o)
 case rest=>
  obtain ⟨u,rr,ps',I,H,P',he,⟨kg,k6,hq⟩,ka,ke⟩:=hcut;cases he;obtain ⟨g,V⟩:=HS.o;have hp:bW w1 w1.drew:=(TW _ w1).drew;have ha:aa (λj=>j=ar\/F.S j\/j=v\/ps.bl j) w1 wc:=(aa.RL hp _).trans ka;obtain ⟨x,kf⟩:=g.b.Tt ha kg rfl k6 hq;have y:=g.c.keep kf lR;have C:lZ wc q0 o (.slice X m Y):=by
   rw [<- V];exact ai.keep g.op (ha.block _ g.lt (λe=>by
    rcases e with e|e|e|e
    . have:=g.ar;omega
    . have:=g.f _ e;omega
    . have:=g.ar;have:=g.b.live.vlt;omega
    . exact bU g.b.live.kit g.op aa0 e))
  obtain ⟨n,cv,l,hN,E,B,z,N⟩:=aad ke y.rel x.live.disk.up x.live.disk.fits;have kj:=vL hN x.gl;obtain ⟨⟨O,T,R,hu,_⟩,_⟩:=B.sl;obtain ⟨⟨J,M,K,ks,_⟩,_⟩:=z.sl;subst hu ks;have W:=hide7 x y C E B z N;clear k6 hq g V hp ha x kf y C hN E B z N kg ka ke hx x2 s1;go_wp2_with fail;refine kj.mono ?_;rintro e U ⟨rfl,hi⟩;clear kj;obtain ⟨x,y,C,E,B,z,N⟩:=W.o;have h3:=x.below hi;have k7:=y.keep (iZ.below hi _) lR;have kb:lZ U q0 o (.slice X m Y):=ai.keep C (hi.block _ (ai.lt C));have y3:=kb.cells.2.2.1;have r3:=h3.wbA.cells.2.2.2.2.2.1;have kc:Q.length<=1000000:=by
   rw [k7.rel.len];have:=h3.live.Sj.1;have e:xs.os.length=xs.length:=KP;omega
  have kh:∀ k,ZQ ZM 14 #[Z6 (ZV ⟨r,0,ZW⟩),ZZ o.s] (U.drewN k) λe w'=>e=Z3 (ZY #[.slice J M K,Z7 Z9 n])/\w'=U.drewN k:=λk=>by
   have ko:bW U (U.drewN k):=⟨rfl,rfl,rfl,TV _,λ_ _=>rfl⟩;obtain ⟨rb,rv,hr⟩:=(k7.keep (iZ.below ko _) lR).ref;exact (BX hr kc o.s).mono λe w' q=>⟨E e q.2,q.1⟩
  have H3:=a5 h3 k7 kh hi;clear x y C E B z N h3 k7 kb kc kh hi;go_upto_region 7 with fail;go_quiet ((go_at_call 14;refine abF (H3.o.2.2.1 _)));clear y3 r3;have hj:bW wc (U.drewN nq):=H3.o.2.2.2.trans ⟨rfl,rfl,rfl,TV _,λ_ _=>rfl⟩;obtain ⟨w4,kk⟩:=nM (U.drewN nq);rw [kk] at hj ⊢;clear kk;obtain ⟨x,y,C,E,B,z,N⟩:=W.o;have k0:=B.keep (Kd.below hj _ _);have hy:=z.keep (Kd.below hj _ _);have ki:=Ga _ _ l w4 k0.bs hy.bs;have H4:=ak hj;clear hj x y C E B z N k0 hy;go_wp2_with fail;refine ki.mono ?_;rintro e w5 ⟨rfl,m5,km⟩;have hm:bW wc w5:=H4.o.trans (by rw [km];exact ⟨rfl,rfl,rfl,TV _,λ_ _=>rfl⟩);clear km ki;obtain ⟨x,y,C,E,B,z,N⟩:=W.o;have h5:=x.below hm;have hs:=y.keep (iZ.below hm _) lR;have k5:=B.keep (Kd.below hm _ _);have hz:=z.keep (Kd.below hm _ _);have hh:=h5.wbA;obtain ⟨_,_,_,_,_,_,_,c7,c8,_⟩:=hh.cells;have f7:=ai.R2 hh 7;have f8:=ai.R2 hh 8;obtain ⟨⟨oa,om,oc,rfl,_⟩,wa,wm,wd,rfl,_⟩:=hs.ow;have hv:(∃ ps' I H P' i d,MB w0 ((w5.setCell ⟨wb,7,ZW⟩ (.slice O T R)).setCell ⟨wb,8,ZW⟩ (.slice J M K)) wb D L G nb t xs p r sa ar v Kind ps' I H P' A F i d cache/\Dc KW ((w5.setCell ⟨wb,7,ZW⟩ (.slice O T R)).setCell ⟨wb,8,ZW⟩ (.slice J M K)) r Q xs i d):=by
   have hO:aa (λj=>j=wb) w5 ((w5.setCell ⟨wb,7,ZW⟩ (.slice O T R)).setCell ⟨wb,8,ZW⟩ (.slice J M K)):=(aa.setCell (S:=λj=>j=wb) w5 ⟨wb,7,ZW⟩ _ rfl).trans (aa.setCell (S:=λj=>j=wb) _ ⟨wb,8,ZW⟩ _ rfl);have hW:iq ((w5.setCell ⟨wb,7,ZW⟩ (.slice O T R)).setCell ⟨wb,8,ZW⟩ (.slice J M K)) wb D L G (Z6 (ZV ⟨p,0,ZW⟩)) (Z6 (ZV ⟨sa,0,ZW⟩)) (Z6 (ZV ⟨r,0,ZW⟩)) nb (.slice O T R) (.slice J M K) cache:=ai.set hh 7 [.slice O T R,.slice J M K] Zv;obtain ⟨h6,kx⟩:=h5.write hO hW;have kr:Dc KW w5 r Q xs (.slice O T R) (.slice J M K):=⟨hs.ref,hs.rel,⟨k5.sl.1,hz.sl.1⟩,hs.mks⟩;exact ⟨_,_,_,_,_,_,h6,kr.keep kx lR⟩
  have HF:=ak hv;clear hv x y C E B z h5 hs k5 hz hh hm;rcases N with rfl|⟨hn,hu,_⟩
  . go_wp2_with fail;refine (nW 0 _).mono ?_;rintro e w8 ⟨rfl,rfl⟩;go_wp2;go_ret;exact ⟨rfl,HF.o⟩
  . cases hu;have ky:=λwx=>XM (P:=ZM) wx 40 5 ZW 0 0 0 0 Un;go_wp2_with fail;refine (nW n _).mono ?_;rintro e w8 ⟨rfl,rfl⟩;go_wp2;go_ret;exact ⟨rfl,HF.o⟩
def Np (h:MB w0 w wb D L G nb t xs p r sa ar v Kind ps pg ob P A F out want cache) (hc:Dc KW w r Q xs out want) (o:qP) (b:ZR) (i:∃ c m d,b=.slice c m d) (j:o.kind=2) :
 ZQ ZM 13 #[Z6 (ZV ⟨wb,0,ZW⟩),.agg #[Z7 Z9 o.kind,Z7 Z9 o.a,ZZ o.s,b]] w λe w'=>e=Z3 (Z1 ZU)/\MS KW (dJ A) w0 w' wb D L G nb (t+1):=(DN h hc o b i j).mono (by
 rintro e w' ⟨rfl,_,_,_,_,_,_,f,g⟩;exact ⟨rfl,_,_,_,_,_,_,_,_,_,_,_,_,_,_,_,_,_,_,f,g,ec,dJ.refl A⟩)
end
end
section
def PY (w:ZS) (g:Nat) (os:List Ob) (i:ZR) (wr:ZS):Prop:=
 ∃ k:Nat,k<=os.length/\i=Z7 Z9 (k:Nat)/\bW w wr/\∃ cur:List ZR,ai wr g 99 cur/\os.length*2<=cur.length/\∀ j (hj:j<os.length),k<=j->cur[j*2]?=ZV (ZZ os[j].name)/\cur[j*2+1]?=ZV (Z7 Z9 (os[j].size:Nat))
def DO:∀ (os:List Ob) (j:Nat) (a:j<os.length),(lY os)[j*2]?=ZV (ZZ os[j].name)/\(lY os)[j*2+1]?=ZV (Z7 Z9 (os[j].size:Nat))
 | [],j,a=>absurd a ek
 | o::os,0,_=>⟨rfl,rfl⟩
 | o::os,j+1,a=>by
  have e:lY (o::os)=[ZZ o.name,Z7 Z9 (o.size:Nat)]++lY os:=by unfold lY;rw [VL];rfl
  obtain ⟨b,c⟩:=DO os j (oD a);rw [e];refine ⟨?_,?_⟩
  . rw [U7 en,(en:(j+1)*2-[Value.string o.name,Z7 Z9 (o.size:Nat)].length=j*2)];exact b
  . rw [U7 en,(en:(j+1)*2+1-[Value.string o.name,Z7 Z9 (o.size:Nat)].length=j*2+1)];exact c
def PY.start {base:Nat} (h:wr.ownsRow base 99 2 u n (lY os)) (p:os.length=n) (s:0<n) (m:bW w wr) (t:w.heap.size<=base):∃ g cap,u=Z5 (ZV ⟨g,0,ZW⟩) n cap/\w.heap.size<=g/\PY w g os (Z7 Z9 0) wr:=by
 rcases h.2 with ⟨_,e⟩|⟨g,cap,cur,c,q,d,f,r,i,k⟩
 . omega
 . refine ⟨g,cap,c,ec,0,T8 _,rfl,m,cur.toList,?_,?_,λj o _=>?_⟩
   . unfold ai;rw [d,Array.toArray_toList]
   . have l:cur.toList.length=cap*2:=(by rw [WB];exact i);rw [l,p];exact W0 2 f
   . obtain ⟨a,b⟩:=DO os j o;have:j*2+1<n*2:=ec;rw [<- k] at a b;rw [VM ec] at a b;exact ⟨a,b⟩
theorem PY.next {cur:List ZR} (x y:ZR) (r:k<os.length) (h:bW w wr) (a:w.heap.size<=g) (l:ai wr g 99 cur) (hl:os.length*2<=cur.length) (hc:∀ j (b:j<os.length),k<=j->cur[j*2]?=ZV (ZZ os[j].name)/\cur[j*2+1]?=ZV (Z7 Z9 (os[j].size:Nat))):PY w g os (Z7 Z9 ((k:Int)+1)) ((wr.setCell ⟨g,k*2,ZW⟩ x).setCell ⟨g,k*2+1,ZW⟩ y):=by
 have d:=ai.set l (k*2) [x,y] en;have c:bW w ((wr.setCell ⟨g,k*2,ZW⟩ x).setCell ⟨g,k*2+1,ZW⟩ y):=(h.setCell (p:=⟨g,k*2,ZW⟩) a _).setCell (p:=⟨g,k*2+1,ZW⟩) a _;refine ⟨k+1,ec,rfl,c,_,d,?_,λj b o=>?_⟩
 . simp only [Ua,Uo,Um,UA,UV];omega
 . obtain ⟨m,n⟩:=hc j b ec;have e:∀ i,k*2+2<=i->(cur.take (k*2)++[x,y]++cur.drop (k*2+[x,y].length))[i]?=cur[i]?:=λi q=>by
    have f:(cur.take (k*2)++[x,y]).length=k*2+2:=(by rw [Ua,Uo];simp;omega);rw [U7 ec,f,Wf];congr 1;simp;omega
   exact ⟨(e _ ec).trans m,(e _ ec).trans n⟩
section
variable {KW w0 w:ZS} {wb D L G nb t:Nat} {xs:aL} {Q:List (ByteArray×ZR)} {p r sa ar v:Nat} {Kind:aR->Prop} {ps:aR} {pg ob:ZR} {P:a8} {A:az} {F:aK} {out want:ZR} {cache:Int}
theorem zg (h:MB w0 w wb D L G nb t xs p r sa ar v Kind ps pg ob P A F out want cache) (hc:Dc KW w r Q xs out want) (o:qP) (dv:ZR) (kc:∃ W m X,dv=.slice W m X) (K:o.kind=4) {C:az->Prop} (hC:C A) :
 ZQ ZM 13 #[Z6 (ZV ⟨wb,0,ZW⟩),.agg #[Z7 Z9 o.kind,Z7 Z9 o.a,ZZ o.s,dv]] w λe w'=>e=Z3 (Z1 ZU)/\MS KW C w0 w' wb D L G nb (t+1):=by
 obtain ⟨W,m,X,rfl⟩:=kc;obtain ⟨w1,hz⟩:=nM (w.alloc (Z4 #[Z7 Z9 o.kind,Z7 Z9 o.a,ZZ o.s,.slice W m X] 47));have d:=st0 h hc o _ hz;have k8:=aaV d.b.box d.b.live;obtain ⟨x0,x1,x2,x3⟩:=d.op.cells;have s1:=d.b.wbA.cells.2.2.2.2.1;have l:∀ w',bW w1 w'->MS KW C w0 w' wb D L G nb (t+1):=λw' hb=>⟨_,_,_,_,_,_,_,_,_,_,_,_,_,_,_,_,_,_,d.b.below hb,d.c.keep (iZ.below hb _) lR,ec,hC⟩;obtain ⟨rb,rv,n⟩:=d.c.ref;obtain ⟨N,f⟩:=nM (xs.os.length);have j:Q.length=N:=by rw [d.c.rel.len,<- f];simp [aL.os]
 have kb:N<=1000:=by rw [<- f];exact d.b.live.Sj.1
 have HS:=a6 d l n f j;clear d h hc l n f j;rw [K] at x0 hz ⊢;clear K;go_enter func13,ntmps13;go_wp2_with fail;clear hz x0 x1 x2 x3;refine k8.mono ?_;rintro e w2 ⟨u,rfl,x,H⟩;clear k8 s1;have H2:=al x H;clear x H;go_wp2_with fail;refine (lA w2).mono ?_;rintro e w3 ⟨rfl,T⟩;obtain ⟨d,l,n,f,j⟩:=HS.o;obtain ⟨x,H⟩:=H2.o;have B:bW w1 w3:=x.trans (T.mono x.size);have J:=aq H T;rw [f] at J;have hq:iq w3 wb D L G (Z6 (ZV ⟨p,0,ZW⟩)) (Z6 (ZV ⟨sa,0,ZW⟩)) (Z6 (ZV ⟨r,0,ZW⟩)) nb out want cache:=ai.keep d.b.wbA (B.block _ (ai.lt d.b.wbA));have r3:=hq.cells.2.2.2.2.2.1;have M:rT w3 r rb rv Q:=vJ.ref n (iZ.below B _).SJ lR;have t3:=M.cell.1;by_cases R:N=0
 . have hu:∃ U V,u=.slice U 0 V:=by
    obtain ⟨U,V,e⟩:=bm J;exact ⟨U,V,by rw [e,R]⟩
   have kf:∃ y I,rv=.slice y 0 I:=by
    obtain ⟨y,I,e⟩:=bm M.own;exact ⟨y,I,by rw [e,j,R]⟩
   obtain ⟨U,V,rfl⟩:=hu;obtain ⟨y,I,rfl⟩:=kf;have O:=ak (l _ B);clear d l n f j x H T B J hq M R kb;go_wp2;refine VH 1 ?_;rw [Vz];go_wp2;go_ret;exact ⟨rfl,O.o⟩
 . obtain ⟨g,cap,rfl,hg,k0⟩:=PY.start J f ec B lR;obtain ⟨y,I,ka⟩:=bm M.own;rw [j] at ka;subst ka;have O:=al k0 hg;clear k0 hg d l n f j x H T B J hq M R;go_wp2_with fail;go_loopw [19] (λi wr=>PY w1 g xs.os i wr) (λi _=>N-(intOf i).toNat)
   case atStart=>exact O.o.1
   case round=>
    clear r3 t3;obtain ⟨k,K,rfl,E,cur,q,Z,S⟩:=hrel;obtain ⟨d,l,n,f,j⟩:=HS.o;rw [f] at K;by_cases ki:k<N
    . have kh:(k:Int)<(N:Int):=ec;have hx:k<xs.os.length:=ec;have Y:k<xs.length:=by
       have e:xs.os.length=xs.length:=KP;omega
      obtain ⟨q1,q2⟩:=S k hx lR;have e1:=ai.cell q q1;have e2:=ai.cell q q2;have g1:=ai.R2 q (k*2);have g2:=ai.R2 q (k*2+1);have k6:iq wr wb D L G (Z6 (ZV ⟨p,0,ZW⟩)) (Z6 (ZV ⟨sa,0,ZW⟩)) (Z6 (ZV ⟨r,0,ZW⟩)) nb out want cache:=ai.keep d.b.wbA (E.block _ (ai.lt d.b.wbA));have rr:=k6.cells.2.2.2.2.2.1;have hy:rT wr r rb (.slice y N I) Q:=vJ.ref n (iZ.below E _).SJ lR;have tr:=hy.cell.1;obtain ⟨qn,qo⟩:=d.c.rel.at k ec Y;obtain ⟨⟨ba,bn,bc,hs,_⟩,hv⟩:=qo.sl;rw [hs] at hv;have k7:bn=xs.os[k].size:=by
       have h1:=(d.b.live.disk.fits _ (T6 Y)).len;have h2:xs.os[k]=xs[k].1:=KP;rw [h2,<- h1];exact hv
      have k9:Q[k].1=xs.os[k].name:=(by rw [qn];simp [aL.os]);obtain ⟨z,kg,d1,d2⟩:∃ z,y=ZV ⟨z,0,ZW⟩/\wr.cell? ⟨z,k*2,ZW⟩=ZV (ZZ xs.os[k].name)/\wr.cell? ⟨z,k*2+1,ZW⟩=ZV (.slice ba bn bc):=by
       rcases hy.shape with ⟨_,e⟩|⟨z,hd,e,_,_,hh⟩
       . rw [e] at j;simp at j;omega
       . simp only [Vx] at e;obtain ⟨c1,c2⟩:=hh k ec;rw [k9] at c1;rw [hs] at c2;exact ⟨z,e.1,c1,c2⟩
      subst kg;rw [k7] at d2;have k5:∀ m,PY w1 g xs.os (Z7 Z9 ((k:Int)+1)) (((wr.drewN m).setCell ⟨g,k*2,ZW⟩ (.string ⟨#[109,105,110,101]⟩)).setCell ⟨g,k*2+1,ZW⟩ (Z7 Z9 0)):=λm=>PY.next _ _ hx (E.trans ⟨rfl,rfl,rfl,TV _,λ_ _=>rfl⟩) O.o.2 (ai.keep q rfl) Z S;obtain ⟨nm,hi⟩:=nM (xs.os[k].name);obtain ⟨sz,hn⟩:=nM (xs.os[k].size);rw [hi] at e1 d1;rw [hn] at e2 d2;have HN:=ak k5;clear k5 E q Z S q1 q2 d l n f j k6 hy qn qo hs hv k7 k9 hi hn hx Y K;go_upto_region 30 with fail;go_quiet (fail);go_wp2;exact ⟨HN.o _,l7⟩
    . have ke:k=N:=ec;subst ke;have HB:=ak (l _ E);clear E q Z S d l n f j;go_wp2;go_ret;exact ⟨rfl,HB.o⟩
end
end
def MS.RS {C:az->Prop} (h:MS KW C w0 w wb D L G nb T):MS w C w0 w wb D L G nb T:=by
 obtain ⟨t,xs,Q,p,r,sa,ar,v,Kind,ps,pg,ob,P,A,F,out,want,cache,b,a,c⟩:=h;exact ⟨t,xs,Q,p,r,sa,ar,v,Kind,ps,pg,ob,P,A,F,out,want,cache,b,⟨a.ref,a.rel,a.ow,λ_ _ _ _ _=>rfl⟩,c⟩
def MS.base {C:az->Prop} (h:MS KW C w0 w wb D L G nb T):bW w0 w:=by
 obtain ⟨t,xs,Q,p,r,sa,ar,v,Kind,ps,pg,ob,P,A,F,out,want,cache,a,_⟩:=h;exact a.base
def MS.marks {C:az->Prop} (h:MS KW C w0 w wb D L G nb T) {k:Nat} {cs:Array ZR} (b:KW.heap[k]?=ZV (Z4 cs 82 (0,0))):w.heap[k]?=KW.heap[k]?:=by
 obtain ⟨t,xs,Q,p,r,sa,ar,v,Kind,ps,pg,ob,P,A,F,out,want,cache,_,a,_⟩:=h;exact a.mks k cs _ (.inl rfl) b
def HaR (KW w0:ZS) (C:az->Prop) (wb D L G nb T:Nat) (i ok:ZR) (wr:ZS):Prop:=∃ k:Nat,k<=1001/\i=Z7 Z9 (k:Nat)/\ok=Z1 ZU/\MS KW C w0 wr wb D L G nb (T+k)
theorem FX {C:az->Prop} (h:MS KW C w0 w wb D L G nb T) (R:∀ A B,dJ A B->C A->C B) :
 ZQ ZM 15 #[Z6 (ZV ⟨wb,0,ZW⟩)] w λe w'=>e=Z3 (Z1 ZU)/\MS KW C w0 w' wb D L G nb (T+1002):=by
 obtain ⟨t,xs,Q,p,r,sa,ar,v,Kind,ps,pg,ob,P,A,F,out,want,cache,b,a,Y,hc⟩:=h;have z:=zg b a ⟨4,0,YI,[]⟩ (Z5 ZW 0 0) ⟨_,_,_,rfl⟩ rfl hc;clear b a hc;go_enter func15,ntmps15;go_wp2_with fail;refine z.mono ?_;rintro e w1 ⟨rfl,E⟩;have m:=ak (show MS KW C w0 w1 wb D L G nb (T+1) from E.mono ec λ_ q=>q);clear z E;go_wp2_with fail;go_loopw [3,4] (λok i wx=>HaR KW w0 C wb D L G nb (T+1) i ok wx) (λ_ i _=>1001-(intOf i).toNat)
 case atStart=>exact ⟨0,T8 _,rfl,rfl,m.o⟩
 case round=>
  clear m;obtain ⟨k,X,rfl,rfl,U,xs,Q,p,r,sa,ar,v,Kind,ps,pg,ob,P,A,F,out,want,cache,b,a,W,hc⟩:=hrel;obtain ⟨rb,rv,f⟩:=a.ref;have M:=b.wbA.cells.2.2.2.2.2.1;have c0:=f.cell.1;have j:=f.shape;obtain ⟨ra,rc,rfl⟩:=bm f.own;have y:=a.rel.len;have u:Q.length<=1000:=by
   have:=b.live.Sj.1;have e:xs.os.length=xs.length:=KP;omega
  have K:=ak (show MS KW C w0 wr wb D L G nb (T+1002) from ⟨U,xs,Q,p,r,sa,ar,v,Kind,ps,pg,ob,P,A,F,out,want,cache,b,a,ec,hc⟩);by_cases c:k<Q.length
  . obtain ⟨g,S,n1⟩:∃ g,ra=ZV ⟨g,0,ZW⟩/\wr.cell? ⟨g,k*2,ZW⟩=ZV (ZZ Q[k].1):=by
     rcases j with ⟨_,e⟩|⟨g,cap,e,_,_,N⟩
     . rw [e] at c;simp at c
     . simp only [Vx] at e;exact ⟨g,e.1,(N k c).1⟩
    subst S;obtain ⟨x,I⟩:=nM (Q[k].1);rw [I] at n1;have H:=Np b a ⟨2,0,x,[]⟩ (Z5 ZW 0 0) ⟨_,_,_,rfl⟩ rfl;obtain ⟨l,d⟩:=nM (Q.length);rw [d] at c0 c u;have O:(k:Int)<(l:Int):=ec;have n:=al H hc;clear H b a f j y I d hc;go_wp2_with fail;refine n.o.1.mono ?_;rintro e V ⟨rfl,s⟩;have J:=ak (show HaR KW w0 C wb D L G nb (T+1) (Z7 Z9 ((k:Int)+1)) (Z1 ZU) V from ⟨k+1,ec,rfl,rfl,s.mono ec λB q=>R _ B q n.o.2⟩);clear s M c0 n1;go_wp2;exact ⟨J.o,l7⟩
  . obtain ⟨l,d⟩:=nM (Q.length);rw [d] at c0 c u;have O:¬ (k:Int)<(l:Int):=ec;clear b a f j y d hc;go_wp2;go_ret;exact ⟨rfl,K.o⟩
section
def iZ.arr {A:az} (e:aA w p A F) (f:aa (F.S) w w'):iZ B w w':=λT hT j cs _ d=>f.block j (TX.1 d).1 (λq=>by
 have b:T≠75/\T≠79/\T≠114/\T≠4:=by
  rcases hT with (rfl|rfl|rfl|rfl|rfl)|rfl|rfl<;>exact ⟨ee,ee,ee,ee⟩
 obtain ⟨cs',T',c,g⟩:=e.kind q;rw [d] at c;simp only [UB,UQ] at c;have a:=c.2.1;rcases g with k|k|k|k
 . exact b.1 (a.trans k)
 . exact b.2.1 (a.trans k)
 . exact b.2.2.1 (a.trans k)
 . exact b.2.2.2 (a.trans k))
def zh {a r:ZR} (d:iq w wb D L G a s r nb out want cache) (c:aa (λj=>j=wb) w w'):iZ w.heap.size w w':=λT hT j cs hl b=>c.block j hl (λe=>by
 have f:w.heap[wb]?=ZV (Z4 _ 42 (0,0)):=d;subst e;rw [f] at b;simp only [UB,UQ] at b;have e:=b.2.1;rcases hT with (q|q|q|q|q)|q|q<;>exact absurd (e.trans q) ee)
structure AB (w0 w:ZS) (wb D L G nb t p r:Nat) (s:ZR) (xs:aL) (A:az) (F:aK) (out want:ZR) (cache kc:Int):Prop where
 wbA:iq w wb D L G (Z6 (ZV ⟨p,0,ZW⟩)) s (Z6 (ZV ⟨r,0,ZW⟩)) nb out want cache
 sp:∃ o,s=.pointer o
 opn:JK w p D L G t kc xs A F
 nb:A.nb=nb
 base:bW w0 w
 glob:bK w0
 hK:3<=w0.heap.size
 wbB:w0.heap.size<=wb
 fB:∀ k,F.S k->w0.heap.size<=k
def AB.wbF {xs:aL} {A:az} {kc:Int} (h:AB w0 w wb D L G nb t p r s xs A F out want cache kc):¬ F.S wb:=λq=>by
 have b:w.heap[wb]?=ZV (Z4 _ 42 (0,0)):=h.wbA;obtain ⟨cs,T,hT,c⟩:=h.opn.arr.kind q;rw [b] at hT;simp only [UB,UQ] at hT;have a:=hT.2.1;rcases c with k|k|k|k<;>exact absurd (a.trans k) ee
def Px {w3 w4 w2:ZS} {xs:aL} {A:az} (h:AB w0 w3 wb D L G nb t p r s xs A F out want cache cache) (hc:Dc KW w3 r Q xs out want) (y:bW w3 w4) (E:Nf w4 p D L G t cache xs A F e w2):w2.heap[wb]?=w3.heap[wb]?/\bK w2/\∃ sa,e=Z3 (ZY #[Z6 (ZV ⟨sa,0,ZW⟩),.nilIface])/\∀ a,bW w2 a->MS KW (dJ A) w0 (a.setCell ⟨wb,4,ZW⟩ (Z6 (ZV ⟨sa,0,ZW⟩))) wb D L G nb t:=by
 have f:aa F.S w3 w2:=(aa.RL y _).trans E.out;have C:=ai.lt h.wbA;have z:=h.wbF;have l:=f.block _ C z;have M:=hc.keep (iZ.arr (B:=w3.heap.size) h.opn.arr f) lR;have:=y.size;have g:bW w0 w2:=h.base.trans (f.below λk b=>⟨T7 b h.base.size,λq=>e9 (h.fB k q)⟩);obtain ⟨sa,ar,J,hs,o,v,sb,ps,pg,ob,P,B,hl,w,b,hv,U,i⟩:=E.ans;refine ⟨l,h.glob.below g,sa,J,λa c=>?_⟩;have n:iq a wb D L G (Z6 (ZV ⟨p,0,ZW⟩)) s (Z6 (ZV ⟨r,0,ZW⟩)) nb out want cache:=ai.keep h.wbA ((c.block _ (T7 C f.size)).trans l);have d:aa (λj=>j=wb) a (a.setCell ⟨wb,4,ZW⟩ (Z6 (ZV ⟨sa,0,ZW⟩))):=aa.setCell _ _ _ rfl;have K:iq (a.setCell ⟨wb,4,ZW⟩ (Z6 (ZV ⟨sa,0,ZW⟩))) wb D L G (Z6 (ZV ⟨p,0,ZW⟩)) (Z6 (ZV ⟨sa,0,ZW⟩)) (Z6 (ZV ⟨r,0,ZW⟩)) nb out want cache:=ai.set n 4 [Z6 (ZV ⟨sa,0,ZW⟩)] Zv;have u:iZ a.heap.size a (a.setCell ⟨wb,4,ZW⟩ (Z6 (ZV ⟨sa,0,ZW⟩))):=zh n d;have:=h.base.size;have I:ZN a sa 105 (Z6 (ZV ⟨ar,0,ZW⟩)):=(c.block _ o.lt).trans o;have O:=(hl.below c).other d.size (λj N R=>d.block j R N) ec ec z (TU h.hK h.wbB) (λq=>e9 (i _ q));have m:bW w0 a:=g.trans (c.mono g.size);exact ⟨_,_,_,_,_,_,_,_,m6 sb cache D L G,ps,_,_,_,B,F,_,_,_,⟨K,u.SJ.box I lR,O,w.nb.trans h.nb,m.trans (d.below λk b=>⟨T7 b m.size,λq=>e9 h.wbB⟩),h.glob,h.hK,h.wbB,ec,h.fB,ec,λk q=>e9 (i k q),⟨yX h.opn.par,λps x b=>by
  obtain ⟨H,T,ho,rfl⟩:=b;exact ⟨H,T,x,rfl⟩,GZ,b⟩,λq=>e9 (i _ q),⟨h.opn.c0,h.opn.c1⟩⟩,(M.keep (iZ.below c _) lR).keep u lR,TV _,w⟩
def vM {xs:aL} {A:az} (h:AB w0 w wb D L G nb t p r s xs A F out want cache cache) (hc:Dc KW w r Q xs out want) :
 ZQ ZM 11 #[Z6 (ZV ⟨wb,0,ZW⟩)] w λe w'=>e=Z3 (Z1 ZU)/\MS KW (dJ A) w0 w' wb D L G nb t:=by
 have c:bW w w.drew:=(TW _ w).drew;refine (JN h.wbA h.sp (λsa w2=>w2.heap[wb]?=w.heap[wb]?/\∀ d,bW w2 d->MS KW (dJ A) w0 (d.setCell ⟨wb,4,ZW⟩ (Z6 (ZV ⟨sa,0,ZW⟩))) wb D L G nb t) (λ_ _ q=>q.1) ((JL (h.opn.below c)).mono λe w2 i=>?_)).mono ?_
 . obtain ⟨hs,_,sa,b,a⟩:=Px h hc c i;exact ⟨sa,b,hs,a⟩
 . rintro e w' ⟨b,sa,w2,j,⟨_,a⟩,g,_,rfl⟩;exact ⟨b,(a _ g).mono lR λB f=>f⟩
section
variable {KW w0 w:ZS} {wb D L G nb t:Nat} {xs:aL} {Q:List (ByteArray×ZR)} {p r sa ar v:Nat} {Kind:aR->Prop} {ps:aR} {pg ob:ZR} {P:a8} {A:az} {F:aK} {out want:ZR} {cache:Int}
theorem JQ (h:MB w0 w wb D L G nb t xs p r sa ar v Kind ps pg ob P A F out want cache) (hc:Dc KW w r Q xs out want) (h7:8<=A.nb) (o:qP) (T:ZR) (hq:∃ H m I,T=.slice H m I) (g:o.kind=5) :
 ZQ ZM 13 #[Z6 (ZV ⟨wb,0,ZW⟩),.agg #[Z7 Z9 o.kind,Z7 Z9 o.a,ZZ o.s,T]] w λe w'=>e=Z3 (Z1 ZU)/\MS KW (dJ A) w0 w' wb D L G nb (t+1):=by
 obtain ⟨H,m,I,rfl⟩:=hq;obtain ⟨B,hs,C⟩:=jn o.a 65 ee ee;have U:wrap64 ((IntKind.u64.wrap o.a).tmod 65)=(B:Int):=oD C
 clear C;obtain ⟨w1,N⟩:=nM (w.alloc (Z4 #[Z7 Z9 o.kind,Z7 Z9 o.a,ZZ o.s,.slice H m I] 47));have f:=st0 h hc o _ N;have hm:=Dw f.b.live.vol.arr f.b.live.n0;obtain ⟨R,x1,x2,x3⟩:=f.op.cells;have a1:=f.b.wbA.cells.2.2.2.1;obtain ⟨q0,x⟩:=nM (w.heap.size);have HS:=al f x;clear f h hc;rw [g] at R N ⊢;rw [x] at R x1 x2 x3;clear g;go_enter func13,ntmps13;go_wp2_with fail;clear x N R x1 x2 x3;refine hm.mono ?_;rintro e w2 ⟨E,rfl,u,J,z⟩;clear hm a1;obtain ⟨f,x⟩:=HS.o;have l:iq w2 wb D L G (Z6 (ZV ⟨p,0,ZW⟩)) (Z6 (ZV ⟨sa,0,ZW⟩)) (Z6 (ZV ⟨r,0,ZW⟩)) nb out want cache:=ai.keep f.b.wbA (u.block _ (ai.lt f.b.wbA));obtain ⟨_,_,_,c3,_,_,_,_,_,c9⟩:=l.cells;have f3:=ai.R2 l 3;have f9:=ai.R2 l 9;have X:lZ w2 q0 o (.slice H m I):=by rw [<- x];exact ai.keep f.op (u.block _ f.lt)
 have y1:=X.cells.2.1;obtain ⟨c,hj⟩:=nM (w1.heap.size);rw [hj] at J z ⊢;have ha:wb<w1.heap.size:=ai.lt f.b.wbA;obtain ⟨K,O⟩:=nM ((w2.setCell ⟨wb,3,ZW⟩ (Z6 (ZV ⟨c,0,ZW⟩))).setCell ⟨wb,9,ZW⟩ (Z7 Z9 (B:Nat)));have i:aa (λj=>j=wb) w2 K:=by rw [<- O];exact (aa.setCell (S:=λj=>j=wb) w2 ⟨wb,3,ZW⟩ _ rfl).trans (aa.setCell (S:=λj=>j=wb) _ ⟨wb,9,ZW⟩ _ rfl)
 have Y:iq K wb D L G (Z6 (ZV ⟨c,0,ZW⟩)) (Z6 (ZV ⟨sa,0,ZW⟩)) (Z6 (ZV ⟨r,0,ZW⟩)) nb out want (B:Int):=by
  rw [<- O];exact ai.set (ai.set l 3 [Z6 (ZV ⟨c,0,ZW⟩)] Zv) 9 [Z7 Z9 (B:Nat)] Zv
 have W:aA K c A E:=J.keep λk g=>i.block k (J.RN g) (λe=>e9 (z k g));have d:=f.b;have hi:=d.base.size;have hr:=TU d.hK d.wbB;have M:bW w0 w2:=d.base.trans (u.mono hi);have y:=d.live.vol.below u lR;have Z:AB w0 K wb D L G nb t c r (Z6 (ZV ⟨sa,0,ZW⟩)) xs A E out want (B:Int) (B:Int):=⟨Y,⟨_,rfl⟩,⟨W,d.live.vol.n,d.live.vol.par,ec,ec,h7,d.live.nb,y.laid.keep (i.block _ y.laid.lt ec),y.tab.keep (i.block _ y.tab.lt ec),TU y.room i.size,λq=>by have:=z _ q;have:=d.hK;omega,λq=>by have:=z _ q;have:=d.hK;omega,.inr ⟨d.live.turn,P,d.live.disk⟩,d.live.fine⟩,d.nb,M.trans (i.below λk g=>⟨e9 M.size,λq=>e9 d.wbB⟩),d.glob,d.hK,d.wbB,λk g=>e9 (z k g)⟩;have hn:=(f.c.keep (iZ.below u _) lR).keep (zh l i) lR;have hp:=vM Z hn;clear f x u J z l X hj ha i Y W d hi M Z hn y hr;go_wp2_with fail;clear O;refine hp.mono ?_;rintro e w4 ⟨rfl,V⟩;have H4:=ak V;clear V hp;go_wp2;go_ret;exact ⟨rfl,H4.o.mono ec λ_ q=>q⟩
end
end
section
open Go.ChangeShapes Go.WideShapes Go.Joins
def Tryz.TO:laidOutB ZM=ZU:=ei
def Tryz.S9:ZM.cellsOf 47=4:=ei
def Tryz.Sw:ZM.cellsOf 3=1:=ei
def Tryz.Tc:ZM.cellsOf 9=1:=ei
def Tryz.SK:ZM.cellsOf 40=1:=ei
def Tryz.SY:ZM.cellsOf 5=1:=ei
def Tryz.SS:ZM.bytesOf 5=1:=ei
instance:Inhabited qP:=⟨⟨0,0,YI,[]⟩⟩
def zi:reachBytes=140737488351232:=rfl
def Nq {l:List ZR} (h:l.length=4):∃ a b c d,l=[a,b,c,d]:=by
 match l,h with
 | [a,b,c,d],_=>exact ⟨a,b,c,d,rfl⟩
def gT {P:Program} {e:ZO}:∀ {ds:List (DataW H)} {d:DataW H},d∈ds->∀ n∈d.weights P e,n∈DataW.weightsAll P e ds
 | b::ds,d,hd,n,a=>by
  simp only [DataW.weightsAll,Ui];rcases Uv.1 hd with rfl|hd
  . exact .inl a
  . exact .inr (gT hd n a)
def FY {enc:ZO×ZR->H} {v:ZR} {x:DataW H×List MemPlace} (h:DataW.trod enc ZM W 0 (λ_=>ZU) ZU n 40 [v]=ZV x) (t:∀ k∈x.1.weights ZM 40,k<=reachBytes):∃ l:a8,Bs W v l:=by
 rcases open_ints Un Xr Tryz.SY h with ⟨c,_⟩|⟨a,len,cap,d,c,_,hl,E,C,A,g,m⟩
 . simp at c;exact ⟨[],ZW,0,c,ek,ek,ek,λh=>absurd rfl h⟩
 . simp at c;simp only [if_true] at C;subst A;have w:=t (d.length*1) (by
    simp only [DataW.weights,Un,lits,Tryz.SS];refine Uv.2 (.inl ?_);simp only [Ue,Uo,Um];omega)
   rw [zi] at w;have hll:((d.take len).map Int.toNat).length=len:=en;refine ⟨(d.take len).map Int.toNat,ZV a,cap,by rw [hll];exact c,by rw [hll];exact hl,by rw [hll];omega,λy B=>?_,λr=>?_⟩
   . obtain ⟨z,u,rfl⟩:=T9.1 B;have:=bounds_u8 (m z (UX u));omega
   . have:0<len:=by
      rcases WG len with e|e
      . subst e;exact absurd rfl r
      . exact e
     obtain ⟨b,o,sp⟩:=a;have p:=g 0 ec;have s:sp=ZW:=(by simpa [Addr.add] using abG p);subst s;refine ⟨b,o,rfl,λk j=>?_⟩;have q:k<len:=(by rw [hll] at j;exact j);have f:k<d.length:=ec;have i:=g k f;rw [V8] at i;rw [i];have:=bounds_u8 (m _ (T6 f));simp [f,q];omega
def FZ {enc:ZO×ZR->H} {cs:List ZR} {x:DataW H×List MemPlace} (h:DataW.trod enc ZM W 0 (λ_=>ZU) ZU n 47 cs=ZV x) (i:∀ k∈x.1.weights ZM 47,k<=reachBytes) :
 ∃ o:qP×ZR,cs=[Z7 Z9 o.1.kind,Z7 Z9 o.1.a,ZZ o.1.s,o.2]/\Bs W o.2 o.1.d/\o.1.s.size<=140737488355328:=by
 obtain ⟨l,p,q,r,m,rfl,hl,t,u,w,j⟩:=trod_struct4 underlying47 h;rw [Tryz.S9] at hl;obtain ⟨a,b,c,d,rfl⟩:=Nq hl;obtain ⟨A,e,_,w0⟩:=W9 WQ t;obtain ⟨B,f,_,w1⟩:=W9 WQ u;obtain ⟨s,g,y,_⟩:=DataW.trod_string abE w;rw [show ZM.cellsOf 3=1 from Tryz.Sw] at e f;rw [show ZM.cellsOf 9=1 from Tryz.Tc] at g;rw [show ZM.cellsOf 40=1 from Tryz.SK] at j;simp at e f g;subst e f g;simp only [DataW.weights,underlying47] at i;obtain ⟨dl,hd⟩:=FY (v:=d) (oD j) (λk z=>i k (by
  show k∈l.1.weights ZM _++(p.1.weights ZM _++(q.1.weights ZM _++(r.1.weights ZM 40++[])));simp only [Ui];exact .inr (.inr (.inr (.inl z)))))
 refine ⟨(⟨A,B,s,dl⟩,d),rfl,hd,?_⟩;have:=i s.size (by
  show s.size∈l.1.weights ZM _++(p.1.weights ZM _++(q.1.weights ZM 9++(r.1.weights ZM _++[])));simp only [Ui];refine .inr (.inr (.inl ?_));rw [y];simp only [DataW.weights,Uv];exact .inl (show s.data.size=s.data.toList.length from WB.symm))
 rw [zi] at this;show s.size<=_;omega
def vN {enc:ZO×ZR->H} {d:DataW H} {ps:List MemPlace} (h:DataW.Trod enc ZM W 0 (λ_=>ZU) ZU 22 (.slice ao len0 cap0) d ps) (z:∀ n∈d.weights ZM 22,n<=reachBytes) :
 ∃ l:List qP,Scr W (.slice ao len0 cap0) l/\∀ x∈l,x.s.size<=140737488355328/\x.d.length<=140737488355328:=by
 obtain ⟨fuel,c⟩:=h;rcases open_slice underlying22 c with ⟨q,_⟩|⟨a,len,cap,m,R,D,P,q,_,hl,Q,y,g,w⟩
 . simp [Value.cells] at q;obtain ⟨rfl,rfl,rfl⟩:=q;exact ⟨[],⟨ZW,0,rfl,λh=>absurd rfl h⟩,λx g=>(by cases g)⟩
 . simp [Value.cells] at q;obtain ⟨rfl,rfl,rfl⟩:=q;simp only [WW] at g;obtain ⟨rfl,_⟩:=g;simp only [DataW.weights,underlying22] at z;simp only [if_true] at y;have I:=y.symm;subst I;rw [Tryz.S9] at w;obtain ⟨f,c⟩:=choose_lt (α:=qP×ZR) (n:=len0) (p:=λi s=>(∀ j,j<4->W.cell? ((a.add (i*4)).add j)=([Z7 Z9 s.1.kind,Z7 Z9 s.1.a,ZZ s.1.s,s.2]:List ZR)[j]?)/\Bs W s.2 s.1.d/\s.1.s.size<=140737488355328) (λi r=>by
    obtain ⟨cs',F,G⟩:=w i ec;obtain ⟨s,rfl,hs⟩:=FZ G (λk O=>z k (UJ _ (UG _ (gT (d:=D i) (T9.2 ⟨i,Ur.2 r,rfl⟩) k O))));obtain ⟨_,_,hc⟩:=ach F;exact ⟨s,hc,hs⟩)
   obtain ⟨b,o,sp⟩:=a;refine ⟨(YE len0).map λi=>(f i).1,⟨ZV ⟨b,o,sp⟩,cap0,ek,λM=>?_⟩,λx g=>?_⟩
   . have u:0<len0:=by
      rcases WG len0 with e|e
      . subst e;exact absurd rfl M
      . exact e
     have J:=(c 0 u).1 0 ee;have N:sp=ZW:=by
      have:W.cell? (((⟨b,o,sp⟩:Addr).add (0*4)).add 0)=ZV (Z7 Z9 (f 0).1.kind):=J;simpa [Addr.add] using abG this
     subst N;have v:=(c 0 u).1 0 ee;rw [V8,V8] at v;refine ⟨b,o,rfl,Uf (show W.cell? _=ZV _ from v),λi r=>?_⟩;have K:i<len0:=(oD r);obtain ⟨hc,t,_⟩:=c i K;have A:=hc 0 ee;have B:=hc 1 ee;have C:=hc 2 ee;have E:=hc 3 ee;rw [V8,V8] at A B C E;simp only [UN,YG];exact ⟨(f i).2,A,B,C,E,t⟩
   . obtain ⟨i,r,rfl⟩:=T9.1 g;obtain ⟨_,t,hs⟩:=c i (oD r);obtain ⟨_,_,_,_,L,_⟩:=t;exact ⟨hs,L⟩
end
section
open Go.ChangeShapes Go.WideShapes Go.Joins
structure Nr where
 kind:Int
 drive:Int
 block:Int
 bit:Int
 at_:Int
def Nr.cs (f:Nr):List ZR:=[Z7 Z9 f.kind,Z7 Z9 f.drive,Z7 Z9 f.block,Z7 Z9 f.bit,Z7 Z9 f.at_]
def Fts (w:ZS) (v:ZR) (l:List Nr):Prop:=
 ∃ ao c,v=.slice ao l.length c/\(l≠[]->∃ b off,ao=ZV ⟨b,off,ZW⟩/\b<w.heap.size/\∀ i (hi:i<l.length),w.cell? ⟨b,off+i*5,ZW⟩=ZV (Z7 Z9 l[i].kind)/\w.cell? ⟨b,off+i*5+1,ZW⟩=ZV (Z7 Z9 l[i].drive)/\w.cell? ⟨b,off+i*5+2,ZW⟩=ZV (Z7 Z9 l[i].block)/\w.cell? ⟨b,off+i*5+3,ZW⟩=ZV (Z7 Z9 l[i].bit)/\w.cell? ⟨b,off+i*5+4,ZW⟩=ZV (Z7 Z9 l[i].at_))
def Tryz.So:ZM.cellsOf 60=5:=ei
instance:Inhabited Nr:=⟨⟨0,0,0,0,0⟩⟩
def Ns {α:Type} {l:List α} (h:l.length=5):∃ a b c d e,l=[a,b,c,d,e]:=by
 match l,h with
 | [a,b,c,d,e],_=>exact ⟨a,b,c,d,e,rfl⟩
def wN {enc:ZO×ZR->H} {cs:List ZR} {x:DataW H×List MemPlace} (h:DataW.trod enc ZM W 0 (λ_=>ZU) ZU n 60 cs=ZV x):∃ o:Nr,cs=o.cs:=by
 obtain ⟨xs,m,_,_,hl,p,f⟩:=DataW.trod_struct underlying60 h;rw [Tryz.So] at hl;obtain ⟨a,b,c,d,e,rfl⟩:=Ns hl;obtain ⟨q,r,s,t,u,rfl⟩:=Ns (show xs.length=5 from p);obtain ⟨v,g,_⟩:=W9 (x:=q) WQ (f 0 _ rfl);obtain ⟨w,i,_⟩:=W9 (x:=r) WQ (f 1 _ rfl);obtain ⟨y,j,_⟩:=W9 (x:=s) WQ (f 2 _ rfl);obtain ⟨z,k,_⟩:=W9 (x:=t) WQ (f 3 _ rfl);obtain ⟨A,l,_⟩:=W9 (x:=u) WQ (f 4 _ rfl);simp [Tryz.Sw] at g i j k l;subst g i j k l;exact ⟨⟨v,w,y,z,A⟩,rfl⟩
def vP {enc:ZO×ZR->H} {d:DataW H} {ps:List MemPlace} (h:DataW.Trod enc ZM W 0 (λ_=>ZU) ZU 24 (.slice ao len0 cap0) d ps) :
 ∃ l:List Nr,Fts W (.slice ao len0 cap0) l:=by
 obtain ⟨fuel,g⟩:=h;rcases open_slice underlying24 g with ⟨c,_⟩|⟨a,len,cap,m,K,D,G,c,_,hl,I,r,J,q⟩
 . simp [Value.cells] at c;obtain ⟨rfl,rfl,rfl⟩:=c;exact ⟨[],ZW,0,rfl,λh=>absurd rfl h⟩
 . simp [Value.cells] at c;obtain ⟨rfl,rfl,rfl⟩:=c;simp only [if_true] at r;have B:=r.symm;subst B;rw [Tryz.So] at q;obtain ⟨f,g⟩:=choose_lt (α:=Nr) (n:=len0) (p:=λi s=>∀ j,j<5->W.cell? ((a.add (i*5)).add j)=s.cs[j]?) (λi t=>by
    obtain ⟨cs',z,A⟩:=q i ec;obtain ⟨s,rfl⟩:=wN A;obtain ⟨_,_,hc⟩:=ach z;exact ⟨s,hc⟩)
   obtain ⟨b,o,sp⟩:=a;refine ⟨(YE len0).map f,ZV ⟨b,o,sp⟩,cap0,ek,λE=>?_⟩;have C:0<len0:=by
    rcases WG len0 with e|e
    . subst e;exact absurd rfl E
    . exact e
   have k:=g 0 C 0 ee;have F:sp=ZW:=by
    have:W.cell? (((⟨b,o,sp⟩:Addr).add (0*5)).add 0)=ZV (Z7 Z9 (f 0).kind):=k;simpa [Addr.add] using abG this
   subst F;rw [V8,V8] at k;refine ⟨b,o,rfl,Uf (show W.cell? _=ZV _ from k),λi t=>?_⟩;have hc:=g i (oD t);have u:=hc 0 ee;have v:=hc 1 ee;have w:=hc 2 ee;have x:=hc 3 ee;have y:=hc 4 ee;rw [V8,V8] at u v w x y;simp only [UN,YG];exact ⟨u,v,w,x,y⟩
end
section
def NM (M:List (Nat×Nat)):List ZR:=M.flatMap λm=>[Z7 Z9 (m.1:Nat),Z7 Z9 (m.2:Nat)]
def Mk (w0 w:ZS) (tv:ZR) (M:List (Nat×Nat)):Prop:=w.ownsRow w0.heap.size 82 2 tv M.length (NM M)
structure nG (lk:Prop) (S:Nat) (A B:az):Prop where
 n:B.n=A.n
 nb:B.nb=A.nb
 rc:B.rc=A.rc
 sv:B.sv=A.sv
 gn:∀ b i,gnB B b i=ZU->gnB A b i=ZU\/S.testBit i=ZU
 lost:∀ i,B.lost i=ZU->A.lost i=ZU\/lk/\S.testBit i=ZU
def nG.refl (lk:Prop) (S:Nat) (A:az):nG lk S A A:=⟨rfl,rfl,rfl,rfl,λ_ _=>.inl,λ_=>.inl⟩
def nG.trans {A B C:az} (h:nG lk S A B) (k:nG lk S B C):nG lk S A C:=⟨k.n.trans h.n,k.nb.trans h.nb,k.rc.trans h.rc,k.sv.trans h.sv,λb i c=>(k.gn b i c).elim (h.gn b i) .inr,λi c=>(k.lost i c).elim (h.lost i) .inr⟩
def nG.Tq {A B:az} (h:nG lk S A B) (a:A.sv=S):Alw A B:=⟨h.n,h.nb,h.sv,λb i q=>by rw [a];exact h.gn b i q⟩
def nG.fine {A B:az} (h:nG lk S A B) (a:A.sv=S) (q:A.fine D L G):B.fine D L G:=⟨h.sv▸q.1,λi b e=>by rw [h.sv];exact (h.lost i e).elim (q.2 i (h.n▸b)) λe=>by rw [a];exact e.2⟩
def nG.of {d:Nat} {A B:az} (hd:S.testBit d=ZU) (c:B.n=A.n) (a:B.nb=A.nb) (f:B.rc=A.rc) (hs:B.sv=A.sv) (h:∀ b i,i≠d->gnB B b i=gnB A b i) (hl:∀ i,B.lost i=ZU->A.lost i=ZU\/lk/\i=d):nG lk S A B:=
 ⟨c,a,f,hs,λb i q=>by
  by_cases e:i=d
  . rw [e];exact .inr hd
  . rw [<- h b i e];exact .inl q,λi q=>(hl i q).imp_right λ(e:lk/\i=d)=>⟨e.1,by rw [e.2];exact hd⟩⟩
section
variable {lk:Prop} {S d:Nat} (A:az) (b:Nat) (hd:S.testBit d=ZU)
include hd
def nG.SG:nG lk S A (A.SG d b):=.of hd rfl rfl rfl rfl (λm i e=>by simp [gnB,az.SG,e]) λ_=>.inl
def nG.turn:nG lk S A (A.turn d b):=.of hd rfl rfl rfl rfl (λm i e=>by simp [gnB,az.turn,e]) λ_=>.inl
def nG.Tb (a:lk):nG lk S A (A.Tb d):=.of hd rfl rfl rfl rfl (λm i e=>by simp [gnB,az.Tb,e]) λi q=>by
 by_cases e:i=d
 . exact .inr ⟨a,e⟩
 . exact .inl (by simpa [az.Tb,e] using q)
def nG.renew:nG lk S A (A.renew d):=.of hd rfl rfl rfl rfl (λm i e=>by simp [gnB,az.renew,e]) λi q=>.inl (by
 by_cases e:i=d
 . simp [az.renew,e] at q
 . simpa [az.renew,e] using q)
end
def mkK (w0 w:ZS) (k:Nat):Prop:=w0.heap.size<=k/\∃ cs,w.heap[k]?=ZV (Z4 cs 82 (0,0))
def mkK.no {cs:Array ZR} {T:ZO} {z:Nat×Nat} (h:w.heap[k]?=ZV (Z4 cs T z)) (hT:T≠82):¬ mkK w0 w k:=λ⟨_,cs',e⟩=>by
 rw [h] at e;simp only [UB,UQ] at e;exact hT e.2.1
def aS.ruin {xs:aL} {A B:az} (h:aS w ar v p ps D L G t pg ob P xs A F) (s:3<=w0.heap.size) (o:aA w' p B F') (r:∀ k,F'.S k->F.S k\/w.heap.size<=k) (d:aa (λk=>F.S k\/mkK w0 w k) w w') (a:nG lk S A B) (f:A.sv=S):aS w' ar v p ps D L G t pg ob P xs B F':=by
 have c:∀ k,k<w.heap.size->¬ F.S k->¬ F'.S k:=λk hl hs q=>(r k q).elim hs ec;have j:∀ k,(ar<k/\¬ F.S k/\¬ ps.bl k)->k<w.heap.size->((ar<k/\¬ F.S k/\¬ ps.bl k)/\¬ F'.S k):=λk q hl=>⟨q,c k hl q.2.1⟩;have hK:∀ k,Nm w k->((ar<k/\¬ F.S k/\¬ ps.bl k)/\¬ F'.S k)->w'.heap[k]?=w.heap[k]?:=λk c hK=>d.block k c.lt λq=>q.elim hK.1.2.1 λq=>by
  obtain ⟨cs,T,z,e,hT⟩:=c;exact mkK.no e hT q
 have l:w.heap[ar]?=ZV (Z4 _ 146 (0,0)):=h.arc;have m:w.heap[v]?=ZV (Z4 _ 139 (0,0)):=h.vol.vol;exact { h with fine:=a.fine f h.fine,nar:=c _ h.arc.lt h.nar,arc:=h.arc.keep (d.block _ h.arc.lt λq=>q.elim h.nar (mkK.no l ee)),vol:={ h.vol with vol:=h.vol.vol.keep (d.block _ h.vol.vol.lt λq=>q.elim h.vol.v (mkK.no m ee)),arr:=o,v:=c _ h.vol.vol.lt h.vol.v,g:=c _ h.vol.laid.lt h.vol.g,t:=c _ h.vol.tab.lt h.vol.t,laid:=h.vol.laid.keep (d.block _ h.vol.laid.lt λq=>q.elim h.vol.g λq=>e9 q.1),tab:=h.vol.tab.keep (d.block _ h.vol.tab.lt λq=>q.elim h.vol.t λq=>e9 q.1),room:=TU h.vol.room d.size,n:=a.n.trans h.vol.n },disk:=h.disk.off (a.Tq f) λb _ i=>by rw [a.rc],pgs:=((h.pgs.wk j).Sz hK).wk λk q _=>⟨q.1.1,q.2,q.1.2.2⟩,cat:=((h.cat.wk j).Sz hK).wk λk q _=>⟨q.1.1,q.2,q.1.2.2⟩,nb:=by rw [a.nb];exact h.nb,kit:=ps.keep _ _ h.kit λk a=>d.block k (ps.lt _ h.kit k a) λq=>q.elim (h.apt k a).2.2.2 λ⟨_,cs,e⟩=>bU h.kit e vf a,apt:=λk a=>⟨(h.apt k a).1,(h.apt k a).2.1,(h.apt k a).2.2.1,c k (ps.lt _ h.kit k a) (h.apt k a).2.2.2⟩ }
def Mk.below {tv:ZR} (h:Mk w0 w tv M) (a:bW w w'):Mk w0 w' tv M:=aq h a
def Mk.apart {tv:ZR} {A:az} (h:Mk w0 w tv M) (b:aA w p A F) {k:Nat} (c:tv.ownBlock=ZV k):¬ F.S k:=λq=>by
 obtain ⟨cs,T,hT,a⟩:=b.kind q;obtain ⟨cur,hc⟩:=bw h c;rw [hT] at hc;simp only [UB,UQ] at hc;have e:=hc.2.1;rcases a with q|q|q|q<;>exact absurd (q.symm.trans e) ee
def Mk.arr {tv:ZR} {A:az} (h:Mk w0 w tv M) (a:aA w p A F) (b:aa F.S w w'):Mk w0 w' tv M:=bR h b λk c=>h.apart a c
def Mk.mkK {ws:ZS} {tv:ZR} (h:Mk w0 w tv M) (b:aa (λk=>F.S k\/mkK w0 ws k) ws w) {k:Nat} (a:tv.ownBlock=ZV k) (hl:k<ws.heap.size):F.S k\/mkK w0 ws k:=by
 obtain ⟨cur,hc⟩:=bw h a;by_cases q:F.S k\/(w0.heap.size<=k/\∃ cs,ws.heap[k]?=ZV (Z4 cs 82 (0,0)))
 . exact q
 . exact .inr ⟨dY h a,_,(b.block k hl q).symm.trans hc⟩
def Tryz.TM:(ZM.info? 82).map (λi=>(i.zero,i.size,i.bytes))=ZV (ZV (.agg #[Z7 Z9 0,Z7 Z9 0]),2,16):=ei
def Nt:∀ (M:List (Nat×Nat)) (k:Nat) (h:k<M.length),(NM M)[k*2]?=ZV (Z7 Z9 (M[k].1:Nat))/\(NM M)[k*2+1]?=ZV (Z7 Z9 (M[k].2:Nat))
 | [],k,h=>absurd h ek
 | q::M,0,_=>⟨rfl,rfl⟩
 | q::M,k+1,h=>by
  obtain ⟨a,b⟩:=Nt M k (oD h);have e:NM (q::M)=[Z7 Z9 (q.1:Nat),Z7 Z9 (q.2:Nat)]++NM M:=by unfold NM;rw [VL]
  rw [e];refine ⟨?_,?_⟩
  . rw [U7 en,(en:(k+1)*2-[Value.int .i64 (q.1:Nat),Z7 Z9 (q.2:Nat)].length=k*2)];exact a
  . rw [U7 en,(en:(k+1)*2+1-[Value.int .i64 (q.1:Nat),Z7 Z9 (q.2:Nat)].length=k*2+1)];exact b
def Mk.at {ta:Option Addr} {tc ml:Nat} (h:Mk w0 w (.slice ta ml tc) M) {k:Nat} (c:k<M.length):∃ g,ta=ZV ⟨g,0,ZW⟩/\w.cell? ⟨g,k*2,ZW⟩=ZV (Z7 Z9 (M[k].1:Nat))/\w.cell? ⟨g,k*2+1,ZW⟩=ZV (Z7 Z9 (M[k].2:Nat)):=by
 rcases h.2 with ⟨e,i⟩|⟨g,cap,cur,e,_⟩
 . omega
 . simp only [Vx] at e;obtain ⟨a,_,_⟩:=e;obtain ⟨d,f⟩:=Nt M k c;have c1:=h.cells (g:=g) T2 _ _ d;have b:=h.cells (g:=g) T2 _ _ f;rw [jG] at c1 b;exact ⟨g,a,c1,b⟩
theorem wO (a:k<M.length) (x:Nat×Nat):(x∈M.take (k+1))↔(x∈M.take k\/M[k]=x):=by
 rw [Ve,Uc a,Ui];exact or_congr Yl (by simp only [Option.toList,U6];exact eq_comm)
structure Fq (lk:Prop) (w0 w:ZS) (S:Nat) (A:az) (F:aK) (B:az) (F':aK) (wr:ZS):Prop where
 out:aa (λj=>F.S j\/mkK w0 w j) w wr
 rus:nG lk S A B
 TJ:∀ j,F'.S j->F.S j\/w.heap.size<=j
def Fq.refl (lk:Prop) (w0 w:ZS) (S:Nat) (A:az) (F:aK):Fq lk w0 w S A F A F w:=⟨aa.refl _ _,nG.refl lk S A,λ_ q=>.inl q⟩
def Fq.trans {A B C:az} {F5:aK} (h:Fq lk w0 w S A F B F' wr) (k:Fq lk w0 wr S B F' C F5 w5):Fq lk w0 w S A F C F5 w5:=by
 refine ⟨h.out.later k.out λj a q=>?_,h.rus.trans k.rus,λj q=>?_⟩
 . rcases q with q|⟨b,cs,c⟩
   . exact (h.TJ j q).elim .inl ec
   . by_cases e:F.S j\/mkK w0 w j
     . exact e
     . exact .inr ⟨b,cs,(h.out.block j a e).symm.trans c⟩
 . rcases k.TJ j q with q|q
   . exact h.TJ j q
   . exact .inr (TU h.out.size q)
structure FW (w0 w:ZS) (wb D L G nb p:Nat) (A:az) (F:aK) (M:List (Nat×Nat)) (tv:ZR):Prop where
 wb:∃ s r out want cache,iq w wb D L G (Z6 (ZV ⟨p,0,ZW⟩)) s r nb out want cache
 ru:pP w p A F M
 mrk:Mk w0 w tv M
 n:A.n=D+L+G
 nb:A.nb=nb
 sz:w0.heap.size<=w.heap.size
def AV {a r:ZR} {A:az} (h:iq w wb D L G a s r nb out want cache) (d:aA w p A F) (e:aa (λj=>F.S j\/mkK w0 w j) w w'):iq w' wb D L G a s r nb out want cache:=by
 have b:w.heap[wb]?=ZV (Z4 _ 42 (0,0)):=h;refine ai.keep h (e.block _ (ai.lt h) λq=>q.elim (λq=>?_) (mkK.no b ee));obtain ⟨cs,T,hT,f⟩:=d.kind q;rw [b] at hT;simp only [UB,UQ] at hT;have c:=hT.2.1;rcases f with k|k|k|k<;>exact absurd (c.trans k) ee
def FW.below {A:az} {tv:ZR} (h:FW w0 w wb D L G nb p A F M tv) (a:bW w w'):FW w0 w' wb D L G nb p A F M tv:=by
 obtain ⟨s,r,out,want,cache,b⟩:=h.wb;exact { h with wb:=⟨s,r,out,want,cache,ai.keep b (a.block _ (ai.lt b))⟩,ru:=h.ru.keep λk c=>a.block k (h.ru.1.RN c),mrk:=h.mrk.below a,sz:=TU h.sz a.size }
def FW.next {A B:az} {tv:ZR} (h:FW w0 w wb D L G nb p A F M tv) (a:aa F.S w w') (e:pP w' p B F' M) (b:nG lk S A B) (d:∀ j,F'.S j->F.S j\/w.heap.size<=j):FW w0 w' wb D L G nb p B F' M tv/\Fq lk w0 w S A F B F' w':=by
 obtain ⟨s,r,out,want,cache,f⟩:=h.wb;have c:aa (λj=>F.S j\/mkK w0 w j) w w':=a.mono λ_ _=>.inl;exact ⟨⟨⟨s,r,out,want,cache,AV f h.ru.1 c⟩,e,h.mrk.arr h.ru.1 a,b.n.trans h.n,b.nb.trans h.nb,TU h.sz a.size⟩,c,b,d⟩
def FR (lk:Prop) (w0 w:ZS) (wb D L G nb p S m n:Nat) (A:az) (F:aK) (tv i:ZR) (wr:ZS):Prop:=∃ (k:Nat) (B:az) (F':aK) (M:List (Nat×Nat)),k<=n/\i=Z7 Z9 (k:Nat)/\FW w0 wr wb D L G nb p B F' M tv/\Fq lk w0 w S A F B F' wr/\M.length<=m+k
section
variable {KW w0 ws w:ZS} {wb D L G nb t m:Nat} {xs:aL} {Q:List (ByteArray×ZR)} {p r sa ar v:Nat} {Kind:aR->Prop} {ps:aR} {pg ob:ZR} {P:a8} {A:az} {F:aK} {out want:ZR} {cache:Int} {tv:ZR} {M:List (Nat×Nat)}
def MB.fault (h:MB w0 w wb D L G nb t xs p r sa ar v Kind ps pg ob P A F out want cache) (hc:Dc KW w r Q xs out want) {w':ZS} {B:az} {F':aK} (l:aA w' p B F') (a:Fq lk w0 w S A F B F' w') (m:A.sv=S):MB w0 w' wb D L G nb t xs p r sa ar v Kind ps pg ob P B F' out want cache/\Dc w' w' r Q xs out want:=by
 have b:=a.out;have d:vJ w.heap.size w w':=λT hT j cs hl f=>b.block j hl λq=>by
  rcases q with q|q
  . obtain ⟨cs',T',c,i⟩:=h.live.vol.arr.kind q;rw [f] at c;simp only [UB,UQ] at c;have g:=c.2.1;rcases hT with rfl|rfl|rfl|rfl|rfl<;>(rcases i with k|k|k|k<;>exact absurd (g.trans k) ee)
  . refine mkK.no f ?_ q;rcases hT with rfl|rfl|rfl|rfl|rfl<;>decide
 obtain ⟨rb,rv,s⟩:=hc.ref;exact ⟨{ h with wbA:=AV h.wbA h.live.vol.arr b,box:=d.box h.box lR,live:=h.live.ruin h.hK l a.TJ b a.rus m,nb:=a.rus.nb.trans h.nb,base:=h.base.trans (b.below λk n=>⟨T7 n h.base.size,λq=>q.elim (λq=>e9 (h.fB k q)) λq=>e9 q.1⟩),fB:=λk q=>(a.TJ k q).elim (h.fB k) λe=>TU h.base.size e },⟨rb,rv,d.ref s lR⟩,hc.rel.keep λ_ _ o=>d.ow o lR,hc.ow,λ_ _ _ _ _=>rfl⟩
theorem JR (hW:FW w0 w wb D L G nb p A F M tv) (h8:wt D L G) (q7:0<nb) (xb:nb<=1000) {S:Nat} (hS:S<18446744073709551616) {fl:List Nr} {fv:ZR} (hf:∀ wr,aa (λj=>F.S j\/mkK w0 w j) w wr->Fts wr fv fl) (hm:M.length<=m) (xg:m+fl.length<=1000000) (at_:Int) (qn:∀ f∈fl,f.kind=0->lk) :
 ZQ ZM 10 #[Z6 (ZV ⟨wb,0,ZW⟩),Z7 Z8 (S:Nat),fv,Z7 Z9 at_,tv] w λe w'=>∃ xj B F' a,e=Z3 xj/\FW w0 w' wb D L G nb p B F' a xj/\Fq lk w0 w S A F B F' w'/\a.length<=m+fl.length:=by
 obtain ⟨N,hN⟩:=nM (D+L+G);have qz:0<N/\N<=16:=by have:=h8.d1;have:=h8.s;omega
 have qo:∀ X,ZQ ZM 9 #[.agg #[Z7 Z9 (D:Nat),Z7 Z9 (L:Nat),Z7 Z9 (G:Nat)]] X λe w'=>e=Z3 (Z7 Z9 (N:Nat))/\bW X w':=λX=>by
  rw [<- hN,(ec:((D+L+G:Nat):Int)=(D:Int)+L+G)];have:=h8.d;have:=h8.l4;have:=h8.g;exact du (D:Int) (L:Int) (G:Int) X ⟨ec,ec⟩ ⟨ec,ec⟩ ⟨ec,ec⟩
 have hs:∀ x:Int,IntKind.i64.wrap x=wrap64 x:=λx=>by rw [Uy];unfold wrap64;omega
 have q8:IntKind.u64.wrap (nb:Int)=(nb:Int):=K1
 have x3:IntKind.u64.wrap (N:Int)=(N:Int):=K1
 obtain ⟨fo,fp,rfl,_⟩:=hf w (aa.refl _ _);obtain ⟨xy,xz,rfl⟩:=bm hW.mrk;have H:=a6 hW hf qo hN hS;have qx:=ak qn;clear hf qo hW hN hS h8 qn;go_enter func10,ntmps10;go_wp2_with fail;go_loopw [4,11] (λtv i wr=>FR lk w0 w wb D L G nb p S m fl.length A F tv i wr) (λ_ i _=>fl.length-(intOf i).toNat)
 case atStart=>exact ⟨0,A,F,M,T8 _,rfl,H.o.1,Fq.refl _ _ _ _ _ _,hm⟩
 case round=>
  obtain ⟨k,B,F',a,hk,rfl,k9,hq,ka⟩:=hrel;by_cases ko:k<fl.length;rotate_left
  . have q6:¬ (k:Int)<(fl.length:Int):=ec;have l:=aE k9 hq ka;clear k9 hq ka;go_wp2;go_ret;exact ⟨_,rfl,B,F',a,l.o.1,l.o.2.1,e9 l.o.2.2⟩
  obtain ⟨xp,xq,he,qj⟩:=H.o.2.1 wr hq.out;obtain ⟨fb,xn,x5,_,kg⟩:=qj (λe=>by rw [e] at ko;simp at ko);simp only [Vx] at he;obtain ⟨rfl,_,rfl⟩:=he;subst x5;obtain ⟨f0,f1,f2,f3,f4⟩:=kg k ko;obtain ⟨f,kz⟩:=nM (fl[k]);rw [kz] at f0 f1 f2 f3 f4;obtain ⟨d,hd,ed⟩:=jn f.drive N qz.1 ec;obtain ⟨b,hb,eb⟩:=jn f.block nb q7 ec;obtain ⟨kb,x8,V⟩:=jn f.bit 512 ee ee;have q6:(k:Int)<(fl.length:Int):=ec
  obtain ⟨kind,hg⟩:∃ x,f.kind=x:=⟨_,rfl⟩;obtain ⟨drive,hc⟩:∃ x,f.drive=x:=⟨_,rfl⟩;obtain ⟨block,ha⟩:∃ x,f.block=x:=⟨_,rfl⟩;obtain ⟨bit,Z⟩:∃ x,f.bit=x:=⟨_,rfl⟩;obtain ⟨W,hv⟩:∃ x,f.at_=x:=⟨_,rfl⟩;have qv:=ak (λ(e:kind=0)=>qx.out f (by rw [<- kz];exact T6 ko) (hg.trans e));rw [hg] at f0;rw [hc] at f1 ed;rw [ha] at f2 eb;rw [Z] at f3 V;rw [hv] at f4;have HE:=ak (show IntKind.i64.wrap ((IntKind.u64.wrap drive).tmod (N:Int))=(d:Nat) from (hs _).trans ed);have xk:IntKind.i64.wrap ((IntKind.u64.wrap block).tmod (nb:Int))=(b:Nat):=(hs _).trans eb;have xo:IntKind.i64.wrap ((IntKind.u64.wrap bit).tmod 512)=(kb:Nat):=(hs _).trans V;obtain ⟨ta,tc,xc⟩:=bm k9.mrk;subst xc;obtain ⟨ml,J⟩:=nM (a.length);obtain ⟨w1,kp⟩:=nM (wr.alloc (Z4 #[Z7 Z9 kind,Z7 Z9 drive,Z7 Z9 block,Z7 Z9 bit,Z7 Z9 W] 60));have q9:ai w1 wr.heap.size 60 [Z7 Z9 kind,Z7 Z9 drive,Z7 Z9 block,Z7 Z9 bit,Z7 Z9 W]:=by rw [<- kp];exact UC wr _
  have ky:bW wr w1:=by rw [<- kp];exact bA wr _
  obtain ⟨q,qa⟩:=nM (wr.heap.size);rw [qa] at q9;have hr:=k9.below ky;rw [J] at hr;have ki:Fq lk w0 w S A F B F' w1:=⟨hq.out.trans (aa.RL ky _),hq.rus,hq.TJ⟩;rw [J] at ka ⊢;have r:=a7 hr ki q9 J kp qa;have HL:=ak ka;have k5:∀ w5 Q O M5 qr,FW w0 w5 wb D L G nb p Q O M5 qr->Fq lk w0 w1 S B F' Q O w5->M5.length<=ml+1->FR lk w0 w wb D L G nb p S m fl.length A F qr (Z7 Z9 ((k:Int)+1)) w5:=λw5 Q O M5 qr C E g3=>⟨k+1,Q,O,M5,ec,rfl,C,r.o.2.1.trans E,e9 HL.o⟩;have HX:=ak k5;have qy:=ak (k5 w1 B F' a _ hr (Fq.refl _ _ _ _ _ _) ec);clear k9 hq ka kg qj ed eb V kz hg hc ha Z hv hs q9 ky hr ki J kp qa k5;by_cases x4:W=at_;rotate_left
  . go_wp2;rw [r.o.2.2.2.2.1];go_roundw
    case rel=>exact qy.out
    case measure=>simp only [intOf];omega
  subst x4;go_upto_region 6 with fail;clear f0 f1 f2 f3 f4;rw [r.o.2.2.2.2.1,r.o.2.2.2.2.2];have q1:=r.o.2.2.1.cell (j:=1) (u:=Z7 Z9 drive) rfl;obtain ⟨s0,r0,xi,xh,P,kv⟩:=r.o.1.wb;obtain ⟨c0,c1,c2,_⟩:=kv.cells;have HW:=ak kv;clear kv;go_cut [13] from 33 to 43 (λxm wx=>xm=Z7 Z9 (d:Nat)/\bW w1 wx)
  case first=>
   go_region_with (go_at_call 9;refine (H.o.2.2.1 _).mono ?_;rintro e w2 ⟨rfl,hz⟩;have H2:=ak ((TW _ w1).drew.trans hz);have k6:ai w2 q 60 _:=r.o.2.2.1.keep (H2.o.block _ r.o.2.2.1.lt);have y1:=k6.cell (j:=1) (u:=Z7 Z9 drive) rfl;clear hz k6);all_goals (go_wp2_with fail;go_meet;case rel=>exact ⟨by rw [HE.o],H2.o⟩)
  case rest=>
   obtain ⟨rfl,hz⟩:=hcut;clear q1 c0 c1 c2 x3;have k6:ai wc q 60 _:=r.o.2.2.1.keep (hz.block _ r.o.2.2.1.lt);have y0:=k6.cell (j:=0) (u:=Z7 Z9 kind) rfl;have y2:=k6.cell (j:=2) (u:=Z7 Z9 block) rfl;have y3:=k6.cell (j:=3) (u:=Z7 Z9 bit) rfl;have h2:iq wc _ _ _ _ _ _ _ _ _ _ _:=ai.keep HW.o (hz.block _ (ai.lt HW.o));obtain ⟨_,_,_,c3,_,_,c6,_⟩:=h2.cells;clear h2 k6;have H2:=ak hz;clear hz;go_upto_region 7 with fail;go_quiet (fail);have ke:bW w1 (wc.drewN nq):=H2.o.trans ⟨rfl,rfl,rfl,TV _,λ_ _=>rfl⟩;obtain ⟨I,kj⟩:=nM (wc.drewN nq);have d0:I.cell? ⟨q,0,ZW⟩=ZV (Z7 Z9 kind):=(by rw [<- kj];exact y0);have d3:I.cell? ⟨q,3,ZW⟩=ZV (Z7 Z9 bit):=(by rw [<- kj];exact y3);have e3:I.cell? ⟨wb,3,ZW⟩=ZV (Z6 (ZV ⟨p,0,ZW⟩)):=(by rw [<- kj];exact c3);rw [kj] at ke ⊢;have t:=r.o.1.below ke;have h7:ZQ ZM 17 #[Z7 Z8 (S:Nat),Z7 Z9 (d:Nat)] I λe w'=>e=Z3 (Z1 (S.testBit d))/\w'=I:=(sB S d H.o.2.2.2.2 ec I).mono λe w' h=>⟨by rw [h.1,Wy];rcases VN (S/2^d) with e|e<;>rw [e]<;>rfl,h.2⟩;have h5:∀ Q O w5,Fq lk w0 I S B F' Q O w5->Fq lk w0 w1 S B F' Q O w5:=λQ O w5 g=>Fq.trans ⟨aa.RL ke _,nG.refl _ _ _,λ_=>.inl⟩ g;have qe:d<B.n:=(by rw [t.n,H.o.2.2.2.1];exact hd);have qd:b<B.nb:=(by rw [t.nb];exact hb);have c:=a6 ke t h5 qe qd;have HS:=ak (HX.o I B F' a _ t (h5 _ _ _ (Fq.refl _ _ _ _ _ _)) (e9 r.o.2.2.2.1));clear kj y0 y2 y3 c3 c6 ke H2 xk q8 t h5 qe qd;by_cases Z:S.testBit d=ZU;rotate_left
   . rw [VT.2 Z] at h7;go_wp2_with fail;refine h7.mono ?_;rintro e w4 ⟨rfl,kk⟩;obtain rfl:I=w4:=kk.symm;clear kk h7;go_wp2;go_roundw
     case rel=>exact HS.o
     case measure=>simp only [intOf];omega
   rw [Z] at h7;have km:=ak Z;clear Z;go_wp2_with fail;refine h7.mono ?_;rintro e w4 ⟨rfl,kk⟩;obtain rfl:I=w4:=kk.symm;clear kk h7;by_cases k0:kind=0
   . have qs:=ak (qv.out k0);subst k0;have U:=Lp c.o.2.1.ru d c.o.2.2.2.1;go_wp2_with fail;refine U.mono ?_;rintro e w5 ⟨rfl,v,y⟩;obtain ⟨C,E⟩:=c.o.2.1.next y v (nG.Tb B km.out qs.out) λ_=>.inl;have HF:=ak (HX.o w5 _ _ a _ C (c.o.2.2.1 _ _ _ E) (e9 r.o.2.2.2.1));clear v y U C E;go_wp2;go_roundw
     case rel=>exact HF.o
     case measure=>simp only [intOf];omega
   by_cases k1:kind=1
   . subst k1;have U:=yS c.o.2.1.ru d c.o.2.2.2.1;go_wp2_with fail;refine U.mono ?_;rintro e w5 ⟨rfl,y,O,v,qf⟩;obtain ⟨C,E⟩:=c.o.2.1.next y v (nG.renew B km.out) qf;have HF:=ak (HX.o w5 _ _ a _ C (c.o.2.2.1 _ _ _ E) (e9 r.o.2.2.2.1));clear v y U C E qf;go_wp2;go_roundw
     case rel=>exact HF.o
     case measure=>simp only [intOf];omega
   by_cases k2:kind=2
   . subst k2;have U:=IF c.o.2.1.ru d b c.o.2.2.2.1 c.o.2.2.2.2;go_wp2_with fail;refine U.mono ?_;rintro e w5 ⟨rfl,v,y⟩;obtain ⟨C,E⟩:=c.o.2.1.next y v (nG.SG B b km.out) λ_=>.inl;have HF:=ak (HX.o w5 _ _ a _ C (c.o.2.2.1 _ _ _ E) (e9 r.o.2.2.2.1));clear v y U C E;go_wp2;go_roundw
     case rel=>exact HF.o
     case measure=>simp only [intOf];omega
   by_cases k3:kind=3;rotate_left
   . go_wp2;go_roundw
     case rel=>exact HS.o
     case measure=>simp only [intOf];omega
   subst k3;go_wp2_with fail;go_loopw [16,17] (λdn i wx=>∃ j:Nat,j<=ml/\i=Z7 Z9 (j:Nat)/\dn=Z1 (decide ((d,b)∈a.take j))/\wx=I) (λ_ i _=>ml-(intOf i).toNat)
   case atStart=>exact ⟨0,T8 _,rfl,ek,rfl⟩
   case round=>
    rename ZS=>wx;obtain ⟨j,hj,rfl,rfl,rfl⟩:=hrel;by_cases x7:j<ml
    . have qk:j<a.length:=(by rw [r.o.2.2.2.1];exact x7);have qg:Mk w0 wx (.slice ta ml tc) a:=c.o.2.1.mrk;obtain ⟨g,rfl,C,E⟩:=qg.at qk;have K:=wO qk (d,b);obtain ⟨x1,qb⟩:=nM (a[j].1);obtain ⟨x2,qc⟩:=nM (a[j].2);have qh:a[j]=(x1,x2):=(by rw [<- qb,<- qc]);rw [qh] at K;simp only [WW] at K;rw [qb] at C;rw [qc] at E;have xf:IntKind.i64.wrap ((j:Int)+1)=(j:Int)+1:=(by rw [Uy];have:=HL.o;omega);have xe:(j:Int)<(ml:Int):=ec;clear qg qb qc qh;by_cases z:(d,b)∈a.take j
      . rw [UZ z];have l:=ak (K.2 (.inl z));clear K z;go_wp2;go_roundw
        case rel=>exact ⟨j+1,ec,eT,by rw [UZ l.o],by first|rfl|exact trivial⟩
        case measure=>simp only [intOf];omega
      . rw [Vr z];by_cases q1:x1=d
        . subst q1;by_cases q2:x2=b
          . subst q2;have l:=ak (K.2 (.inr ⟨rfl,rfl⟩));clear K z;go_wp2;go_roundw
            case rel=>exact ⟨j+1,ec,eT,by rw [UZ l.o],by first|rfl|exact trivial⟩
            case measure=>simp only [intOf];omega
          . have l:=ak (λe=>(K.1 e).elim z λe=>q2 e.2);have xx:¬ (x2:Int)=(b:Int):=ec;clear K z;go_wp2;go_roundw
            case rel=>exact ⟨j+1,ec,eT,by first|(rw [Vr l.o];done)|(rw [Vr l.o];simp_all),by first|rfl|exact trivial⟩
            case measure=>simp only [intOf];omega
        . have l:=ak (λe=>(K.1 e).elim z λe=>q1 e.1);have xv:¬ (x1:Int)=(d:Int):=ec;clear K z;go_wp2;go_roundw
          case rel=>exact ⟨j+1,ec,eT,by first|(rw [Vr l.o];done)|(rw [Vr l.o];simp_all),by first|rfl|exact trivial⟩
          case measure=>simp only [intOf];omega
    . have x9:j=ml:=ec;subst x9;have xa:a.take j=a:=UI (by rw [r.o.2.2.2.1];exact TV _);rw [xa];by_cases z:(d,b)∈a
      . rw [UZ z];go_wp2;go_roundw
        case rel=>exact HS.o
        case measure=>simp only [intOf];omega
      . rw [Vr z];have qq:=Lq c.o.2.1.ru d b kb c.o.2.2.2.1 c.o.2.2.2.2 x8 z;obtain ⟨im,x6,q3,q4,q5⟩:=Uu Tryz.TM;have HT:=ak qq;clear qq;go_wp2_with fail;refine HT.o.mono ?_;rintro e w5 ⟨rfl,v,y⟩;obtain ⟨_,t,h5,_,_⟩:=c.o;have J:=r.o.2.2.2.1;have k8:Mk w0 w5 (.slice ta j tc) a:=t.mrk.arr t.ru.1 y;have qi:ai (w5.alloc (Z4 #[Z7 Z9 (d:Nat),Z7 Z9 (b:Nat)] 82)) w5.heap.size 82 [Z7 Z9 (d:Nat),Z7 Z9 (b:Nat)]:=UC w5 _;have kf:bW w5 (w5.alloc (Z4 #[Z7 Z9 (d:Nat),Z7 Z9 (b:Nat)] 82)):=bA w5 _;have k7:Src ZM 2 43 (Z5 (ZV ⟨w5.heap.size,0,ZW⟩) 1 1) 1 [Z7 Z9 (d:Nat),Z7 Z9 (b:Nat)] (w5.alloc (Z4 #[Z7 Z9 (d:Nat),Z7 Z9 (b:Nat)] 82)):=
         Vl _ underlying43 ⟨w5.heap.size,0,ZW⟩ 1 1 [Z7 Z9 (d:Nat),Z7 Z9 (b:Nat)] rfl (λj u hj=>by rw [Vo,Uj];exact qi.cell hj) (λu hu=>by
          simp only [Uv,Xd,or_false] at hu;rcases hu with rfl|rfl<;>rfl)
        have ks:=k8.below kf;have kr:w0.heap.size<=w5.heap.size:=TU t.sz y.size;have l:=hide8 k8 v k7 ks kf J y kr;have xd:j<=1000000:=(e9 HL.o);clear t h5 J k8 v y qi k7 ks kf kr;go_wp2_with (at_builtin;refine ae _ rfl (Z0 128) (Z0 132) 43 43 rfl w0.heap.size 82 im _ 2 16 underlying43 x6 q3 q4 q5 rfl (.slice ta j tc) j (NM a) um (by have h9:=l.o.2.2.2.1;unfold Mk at h9;rw [l.o.2.2.2.2.2.1] at h9;exact h9) _ um 1 [Z7 Z9 (d:Nat),Z7 Z9 (b:Nat)] (by exact l.o.2.2.1) eD ec (by have h9:=l.o.2.2.2.2.2.2.2;simp;omega) ?_;intro v7 w7 kh T kx;obtain ⟨va,vc,rfl⟩:=bm kh;have H7:=al kh T;clear kh T kx);go_roundw
        case measure=>simp only [intOf];omega
        case rel=>
         obtain ⟨k8,v,k7,ks,kf,J,Y,kr⟩:=l.o;obtain ⟨_,t,h5,_,_⟩:=c.o;obtain ⟨kh,T⟩:=H7.o;have qp:w5.heap.size<=w7.heap.size:=(by have:=T.size;simp at this;omega);have qm:∀ i,i<w5.heap.size->(Value.slice ta j tc).ownBlock≠ZV i->w7.heap[i]?=w5.heap[i]?:=λi R hn=>(T.block i en (λe=>hn e.symm)).trans (kf.block i R);have kc:aa (λk=>F'.S k\/mkK w0 wx k) wx w7:=⟨T.os.trans Y.os,T.tape.trans Y.tape,T.output.trans Y.output,TU Y.size qp,λi R hn=>(qm i (T7 R Y.size) λe=>hn (k8.mkK (Y.mono λ_ _=>.inl) e R)).trans (Y.block i R λq=>hn (.inl q))⟩;obtain ⟨s0,r0,xi,xh,P,x0⟩:=t.wb;have e:NM (a++[(d,b)])=NM a++[Z7 Z9 (d:Nat),Z7 Z9 (b:Nat)]:=(by unfold NM;rw [WN];rfl);exact HX.o w7 (B.turn d b) F' (a++[(d,b)]) _ ⟨⟨_,_,_,_,_,AV x0 t.ru.1 kc⟩,v.keep λi R=>qm i (v.1.RN R) λe=>k8.apart v.1 e R,by unfold Mk;rw [e,Ua,J];exact kh,t.n,t.nb,TU kr qp⟩ (h5 _ _ _ ⟨kc,nG.turn B b km.out,λ_=>.inl⟩) (by rw [Ua,J];exact TV _)
end
end
def mO (cf:FuncId) (cp:Array ZR):ZR:=.func (.func cf) #[] cp
def Cho (cf:FuncId) (cp:Array ZR) (sg:Nat->Nat) (X:ZS):Prop:=∀ bd:Nat,ZQ ZM cf (#[Z7 Z8 bd]++cp) X λe X'=>e=Z3 (Z7 Z8 (sg bd:Nat))/\X'=X
def Ent (cf:FuncId):Prop:=∀ (args:Array ZR) (w:ZS),(callFunc cf args).run ZM w=.ok (.enter cf args) w
theorem Nu {A:az} {f:Nat->bG} (h:A.at b f) {ds:a8} (hd:∀ i∈ds,i<A.n):(A.putAt ds b f).rc=A.rc:=funext λi=>funext λm=>by
 show (if m=b/\i∈ds then f i else A.rc i m)=_;split
 . rename_i q
   rw [q.1];exact (h i (hd i q.2)).1.symm
 . rfl
def DP {f:Nat->Bool} (h:∀ d∈l,f d=ZT):jL f l=0:=Xw λi=>by
 rw [V7,VT];intro q;have a:=(ji f i l).1 q;rw [h i a.1] at a;cases a.2
def Sld (sg:Nat->Nat) (n i:Nat):Prop:=∀ x,x<2^n->x.testBit i=ZU->(sg x).testBit i=ZU
def Hld (sg:Nat->Nat) (B:az) (b:Nat):Prop:=∀ i,i<B.n->Sld sg B.n i->gnB B b i=ZT
def Hld.Tp {A B:az} (h:Hld sg A b) (k:dJ A B):Hld sg B b:=λi c hs=>VT.2 λe=>by
 have a:=k.gn b i e;rw [h i (k.n▸c) (k.n▸hs)] at a;cases a
def G5 {A:az} {x:Nat} {f:Nat->bG} (h:A.n<=16) (j:x<2^A.n) (d:∀ i,i<A.n->gnB A b i=ZU->x.testBit i=ZU) (c:∀ i,i<A.n->A.lost i=ZT):Hld sg (A.putAt (ab (sg x)) b f) b:=λi a hs=>VT.2 λe=>by
 have g:i∈ab (sg x):=cE.2 ⟨T7 a h,hs x j (d i a (CE e))⟩;exact absurd (ry g e) (by rw [c i a];decide)
theorem vQ {A:az} {r:bG} (ho:mN w ar v p ps D L G A F) (a:a9 w ar v D' L' G' t f nn pg ob ZT) (hE:Ent cf) (k:∀ X,aa F.S w X->Cho cf cp sg X) (hq:∀ x,x<2^A.n->sg x<2^A.n) (T:b<A.nb) (l:r.ok) (hc:MW r) (h:A.at b λ_=>r) (Y:∀ i,i<A.n->A.lost i=ZT) :
 ZQ ZM 87 #[Z6 (ZV ⟨ar,0,ZW⟩),Z7 Z9 b,dI r,mO cf cp] w λe w'=>e=Z3 (Z7 Z8 (0:Nat))/\(∃ B,(dJ A B/\B.rc=A.rc/\Hld sg B b)/\aA w' p B F)/\aa F.S w w':=by
 have P:A.n<=16:=by rw [ho.vol.n];exact ho.vol.par.s
 have h2:2^A.n<=65536:=jk P;have ca:=mD a;have Z:=iQ ho.vol b T;obtain ⟨tr,rv,E⟩:=iP r;have C:=a7 ho a k l hc h;unfold Ent at hE;clear ho a k l hc h;unfold mO;rw [E];go_enter func87,ntmps87;go_wp2_with fail;refine Z.mono ?_;rintro e w1 ⟨g,rfl,hg,Q,m,d⟩;obtain ⟨ho,a,k,l,hc,h⟩:=C.o;have z:=vC (w:=w1) (R:=λi=>A.RX i b) (r:=r) ec hc (λi j=>AU h j) Q;rw [E] at z;have hd:=mD (a.keep (d.block _ a.lt ho.nar));have u:=ho.vol.turn d m rfl;obtain ⟨N,c⟩:=nM (A.n);rw [c] at z;rw [c];have K:=a5 u d m c;clear ho a k l hc h u d m c Q Z ca;go_wp2_with fail;refine z.mono ?_;rintro e w2 ⟨x,rfl,J,hp,rfl⟩;clear z;obtain ⟨ho,a,k,l,hc,h⟩:=C.o;obtain ⟨u,d,m,c⟩:=K.o;have V:=k w2.drew (d.trans (aa.drew _)) x;have H:=hq x (by rw [c];exact J);have W:∀ i,i<A.n->gnB A b i=ZU->x.testBit i=ZU:=λi j q=>hp i (by rw [<- c];exact j) ((Ff q).elim (λq=>.inl q.2) λq=>q.elim (λq=>.inl q.2) λq=>.inr q.2);have I:=eZ (u.below ((TW _ w2).drew) lR) b (sg x) T ec (λi j=>qO H j) r l;rw [E,DP λi j=>Y i (qO H j)] at I;have y:=a6 V I H W J;clear ho a k l hc h u d m c V I W hp J;go_upto_region 2 with fail;go_region_with (first
  | (go_at_call 118;refine y.o.2.1.mono ?_;rintro e w3 ⟨rfl,O,U⟩;have M:=al O U;clear O U)
  | (refine y.o.1.mono ?_;rintro e w3 ⟨rfl,rfl⟩))
 all_goals (
  go_wp2;go_ret;obtain ⟨ho,a,k,l,hc,h⟩:=C.o;obtain ⟨u,d,m,c⟩:=K.o;exact ⟨rfl,⟨_,⟨dJ.put _ _ _ _,Nu h λi j=>qO y.o.2.2.1 j,G5 P (by rw [c];exact y.o.2.2.2.2) y.o.2.2.2.1 Y⟩,M.o.1⟩,d.trans ((aa.drew _).trans M.o.2)⟩)
section
def RwK (w w':ZS) (l:a8) (x:ZR):Prop:=∃ bl c,x=Z5 (ZV ⟨bl,0,ZW⟩) 44 c/\w.heap.size<=bl/\bl<w'.heap.size/\w'.rangeAt bl 0 (aJ l)
structure Py (w:ZS) (r v b g N p D L G:Nat) (Kind:aR->Prop) (ps:aR) (A:az) (F:aK) (dl:a8) (e:ZP) (w':ZS):Prop where
 rd:∃ gone sp,dZ w' r v b g N gone sp
 row:∃ f gn,w'.rowIs g 40 N f/\e=Z3 (ZY #[Z5 (ZV ⟨g,0,ZW⟩) N N,Z7 Z8 (gn:Nat),.nilIface])/\gn<2^N/\(∀ i,i<N->gnB A b i=ZU->gn.testBit i=ZU)/\∀ i,i<N->RwK w w' (vT D L G dl i) (f i)
 kit:∃ (ps1:aR) (hl:Nat),Kind ps1/\ps1.ps=ps.ps/\ps1.S w'/\bg w' v p D L G ps.ps hl/\hl<2^N/\∀ k,ps1.bl k->ps.bl k\/w.heap.size<=k
 arr:aA w' p A F
 out:aa (λk=>k=g\/k=r\/k=v\/F.S k\/ps.bl k) w w'
def C6 (r v ps D L G gn:Nat) (w:ZS):Prop:=w.cell? ⟨r,0,ZW⟩=ZV (Z6 (ZV ⟨v,0,ZW⟩))/\w.cell? ⟨v,1,ZW⟩=ZV (Z7 Z9 (D:Int))/\w.cell? ⟨v,2,ZW⟩=ZV (Z7 Z9 (L:Int))/\w.cell? ⟨v,3,ZW⟩=ZV (Z7 Z9 (G:Int))/\w.cell? ⟨v,4,ZW⟩=ZV (Z6 (ZV ⟨ps,0,ZW⟩))/\w.cell? ⟨r,3,ZW⟩=ZV (Z7 Z8 gn)
def Nv {ps:Nat} (a:dZ w r v b g N gone sp) (hv:bg w v p D L G ps ho):C6 r v ps D L G gone w:=by
 obtain ⟨_,c,d,e,f,_⟩:=hv.cells;exact ⟨a.cells.1,c,d,e,f,a.cells.2.2.2.1⟩
section
variable {w:ZS} {r v b g N p D L G:Nat} {Kind:aR->Prop} {ps:aR} {A:az} {F:aK} {dl:a8} (hs:qK w r v b g N p D L G Kind ps A F dl) (hSh:oX D L G Kind)
include hs hSh
theorem JS {b0:Nat} {f0:Nat->ZR} (hr:dZ w r v b0 g N gone sp) (hy:w.rowIs g 40 N f0) :
 ZQ ZM 85 #[Z6 (ZV ⟨r,0,ZW⟩),Z7 Z9 b] w λe w'=>Py w r v b g N p D L G Kind ps A F dl e w':=by
 have qd:=hs.vol;have k7:N<=16:=Zq
 have qv:2^N<=65536:=jk k7;have hp:ab (2^N-1)=YE N:=vh k7;have hS:2^N-1<65536:=e9 (VO N)
 obtain ⟨S,q8⟩:=nM (2^N-1);rw [q8] at hp hS;have qh:∀ i,i∈ab S->i<N:=λi K=>by rw [hp,Ur] at K;exact K
 have qc:=Gr hr qd.vol hy (by have:=hs.nN;have:=hs.vol.par.d1;omega) (λe=>hs.rg e.symm) hs.vg b;have u:=bU hs.kit hr qH;have h:¬ ps.bl g:=by obtain ⟨cs,h1,_⟩:=hy;exact bU hs.kit h1 oV
 have Y:=a7 hs (And.intro hSh.2 hs.fine) u h hr.lt hy.lt;clear hr hy hs hSh u h qd;go_enter func85,ntmps85;go_wp2_with fail;refine qc.mono ?_;rintro e w1 ⟨rfl,k9,hj,J⟩;obtain ⟨hs,hSh,u,h,T,X⟩:=Y.o;have d:=hs.turn u h J;have kx:qM w1 r v b g N p D L G A F Kind ps ps dl ps.ho 0 ps.ho [] wE w1:=⟨k9,d.vol,hj,Kn.nil _ _ _ _,d.kit,d.kind,rfl,λk q=>.inl q,aa.refl _ _,λi q=>acy,abu ee,d.hol,d.hol,λi q=>ZI⟩;have I:=k9.lt;have H:=hj.lt;have B:=kx.SE d I H u h;obtain ⟨d0,d1,d2,d3,d4⟩:=k9.cells;have f4:=k9.free 4;obtain ⟨w2,qf⟩:=nM (w1.setCell ⟨r,4,ZW⟩ (Z7 Z8 0));rw [qf] at B;have qe:=B.vol;have kh:=kI qe.vol hs.vol.par;rw [<- hs.nN,q8] at kh;obtain ⟨q0,_⟩:=B.rd.cells;have H1:=a6 B d I H J;clear qc hs hSh u h T X d kx B k9 hj J qe I H;go_wp2_with fail;clear qf d0 d1 d2 d3 d4 f4;refine kh.mono ?_;rintro e O ⟨rfl,ki⟩;obtain ⟨B,d,I,H,J⟩:=H1.o;obtain ⟨hs,hSh,u,h,T,X⟩:=Y.o;have ky:=B.SB (B.apart d I H u h) (aa.RL ki _) (ps.keep _ _ B.kit λk M=>ki.block k (ps.lt _ B.kit k M)) B.kind rfl (λk q=>.inl q);have km:=nD ky d I H u h S hS qh;obtain ⟨nw,kp⟩:=nM (feN S 0 0 []);rw [kp] at km;have HN:=ak kp;clear B d I H J hs hSh u h T X ky ki kh q0 kp;go_wp2_with fail;refine km.mono ?_;rintro e E ⟨rfl,f4,h1,a,_⟩;clear km;rw [Nat.zero_or,Uq] at a;obtain ⟨ds,kk⟩:=nM (CX A b nw);obtain ⟨f,ko⟩:=nM (jL (gnB A b) nw);rw [kk,ko] at a;have qa:∀ i,i<N->gnB A b i=ZU->f.testBit i=ZU:=λi K hq=>by
  rw [<- ko];exact (ji _ i nw).2 ⟨by rw [<- HN.o];exact (oS ec ec).2 ⟨by rw [hp];exact Ur.2 K,V7 _,V7 _,ek⟩,hq⟩
 have P:∀ i,i<N->f.testBit i=ZT->i∈ds:=λi K V=>by
  have P:i∈nw:=by rw [<- HN.o];exact (oS ec ec).2 ⟨by rw [hp];exact Ur.2 K,V7 _,V7 _,ek⟩
  rw [<- kk];refine mv.2 ⟨P,?_⟩;cases hq:gnB A b i
  . rfl
  . rw [<- ko,(ji _ i nw).2 ⟨P,hq⟩] at V;cases V
 have hn:=a.gol;obtain ⟨e0,_,e2,e3,_⟩:=a.rd.cells;have R:=al a P;have HG:=ak qa;clear a P kk qa;by_cases hz:f=0
 . have x6:E.cell? ⟨r,3,ZW⟩=ZV (Z7 Z8 0):=(by rw [e3,hz];rfl);clear e3 e0;go_wp2;refine Ut (v:=ZY #[Z5 (ZV ⟨g,0,ZW⟩) N N,Z7 Z8 0,.nilIface]) (by simp [results,results85,go_sem]) rfl ?_;obtain ⟨a,P⟩:=R.o;obtain ⟨hs,hSh,u,h,T,X⟩:=Y.o;have hv:=a.vol;obtain ⟨B,d,I,H,J⟩:=H1.o;have kc:=J.size;refine ⟨⟨_,_,a.rd⟩,⟨f4,0,a.row,rfl,VO _,λi K q=>(by rw [<- hz];exact HG.o i K q),λi K=>?_⟩,⟨ps,h1,a.kind,a.psE,a.kit,hv.vol,a.hll,λk q=>.inl q⟩,hv.arr,(J.mono λk _ q=>q.elim (λe=>.inr (.inl e)) .inl).trans a.out⟩;have Z:=P i K (by rw [hz];exact V7 _);obtain ⟨bl,q1,q2,Q,U⟩:=a.kn.2 i Z;exact ⟨bl,44,q1,ec,Q,jm U⟩
 have qz:((f:Int)==0)=ZT:=en
 have qb:∀ w',bW E w'->ZQ ZM 113 #[Z6 (ZV ⟨ps.ps,0,ZW⟩),.agg #[Z7 Z9 D,Z7 Z9 L,Z7 Z9 G],Z7 Z8 f] w' λe qr=>PnA D L G Kind ps f w' e qr:=λw' V=>by
  obtain ⟨a,_⟩:=R.o;obtain ⟨hs,hSh,_⟩:=Y.o;have hv:=a.vol;exact hSh.1 ps a.kind w' (ps.keep _ _ a.kit λk M=>V.block k (ps.lt _ a.kit k M)) (hv.tab.keep (V.block _ hv.tab.lt)) (TU hv.room V.size) f (by rw [<- hs.nN];exact hn)
 have HB:=al qb (λk (M:ps.bl k)=>ps.lt _ R.o.1.kit k M);have ke:=R.o.1.vol;obtain ⟨_,y1,y2,y3,y4,_⟩:=ke.vol.cells;have kj:bW E (E.alloc (Z4 #[Z7 Z9 0,Z5 ZW 0 0] 206)):=bA E _;obtain ⟨_,x1,x2,x3,x4,_⟩:=(ke.vol.keep (kj.block _ ke.vol.lt)).cells;obtain ⟨x0,_,_,x5,_⟩:=(R.o.1.rd.keep (kj.block _ R.o.1.rd.lt)).cells;clear kj qb ke;have HY:b9 (∀ (w' O:ZS),bW E w'->aa ps.bl w' O->C6 r v ps.ps D L G f O/\(∀ o:Obj,C6 r v ps.ps D L G f (O.alloc o))/\(∀ k x y,E.heap.size<=k->C6 r v ps.ps D L G f ((O.setCell ⟨k,0,ZW⟩ x).setCell ⟨k,1,ZW⟩ y))):=ak λw' O V hO=>by
  have kz:=aa.after V hO;have hM:=R.o.1;obtain ⟨B,d,I,H,J⟩:=H1.o;obtain ⟨hs,hSh,u,h,T,X⟩:=Y.o;have ha:=hM.apart d I H u h;have hv:=hM.vol;have ka:=hM.rd.keep (kz.block _ hM.rd.lt λq=>(ha _ q).2.2.1 rfl);have hv3:=hv.vol.keep (kz.block _ hv.vol.lt λq=>(ha _ q).2.1 rfl);have T:=hM.rd.lt;have qx:=hv.vol.lt;exact ⟨Nv ka hv3,λo=>Nv (ka.keep (UF _ _ _ ka.lt)) (hv3.keep (UF _ _ _ hv3.lt)),λk x y M=>Nv (ka.keep ((fO O k 0 1 x y).block _ ka.lt ec)) (hv3.keep ((fO O k 0 1 x y).block _ hv3.lt ec))⟩
 go_upto_region 6 with fail;go_cut [6,7] from 30 to 51 (λv6 v7 wx=>O6 D L G Kind ps f E v7 v6 wx)
 case first=>
  go_region_held3 (λw'=>w'.cell? ⟨r,0,ZW⟩=ZV (Z6 (ZV ⟨v,0,ZW⟩))/\w'.cell? ⟨v,1,ZW⟩=ZV (Z7 Z9 (D:Int))/\w'.cell? ⟨v,2,ZW⟩=ZV (Z7 Z9 (L:Int))/\w'.cell? ⟨v,3,ZW⟩=ZV (Z7 Z9 (G:Int))/\w'.cell? ⟨v,4,ZW⟩=ZV (Z6 (ZV ⟨ps.ps,0,ZW⟩))/\w'.cell? ⟨r,3,ZW⟩=ZV (Z7 Z8 (f:Int))) (first|exact ⟨e0,y1,y2,y3,y4,e3⟩|exact ⟨x0,x1,x2,x3,x4,x5⟩|exact Y0.out|exact Y1.out _|exact Y2.out _ _ _ lR|go_keep)
   (first|(go_at_call 113;refine (HB.o.1 _ ?_).mono ?_;(first|exact (TW _ _).drew|exact ((TW _ _).drew).alloc lR _);rintro e O k8;obtain ⟨z,ao,m,c,er,he,kg,H3⟩:=vl k8;subst he;clear k8;(try (have Q:O.heap[E.heap.size]?=ZV (Z4 #[Z7 Z9 0,Z5 ZW 0 0] 206 (0,0)):=(kg.block E.heap.size ek (λq=>e9 (HB.o.2 _ q))).trans (Ug E.drew _);obtain ⟨r0,r1,x7,g0⟩:=ay Q;clear Q));obtain ⟨Y0,Y1,Y2⟩:b9 (C6 r v ps.ps D L G f O)/\b9 (∀ o:Obj,C6 r v ps.ps D L G f (O.alloc o))/\b9 (∀ k x y,E.heap.size<=k->C6 r v ps.ps D L G f ((O.setCell ⟨k,0,ZW⟩ x).setCell ⟨k,1,ZW⟩ y)):=HY.o _ O (by first|exact (TW _ E).drew|exact ((TW _ E).drew).alloc lR _) kg;clear kg))
  all_goals (go_wp2_with fail;go_meet;case rel=>first|(refine yW (w':=E.drew) H3.o ?_ rfl;exact (TW _ _).drew)|(refine vq (w2:=E.drew) H3.o HB.o.2 rfl ?_;exact (TW _ _).drew))
 case rest=>
  clear e0 e2 e3 y1 y2 y3 y4 x0 x1 x2 x3 x4 x5 HY HB;rename ZS=>w5;obtain ⟨a,P⟩:=R.o;obtain ⟨B,d,I,H,J⟩:=H1.o;obtain ⟨hs,hSh,u,h,T,X⟩:=Y.o;have hm:aa (λk=>k=g\/k=r\/k=v\/F.S k\/ps.bl k) w w1:=J.mono λk _ q=>q.elim (λe=>.inr (.inl e)) .inl;have kc:=J.size;rcases hcut with ⟨_,qp,_⟩|hcut
  . refine absurd (lQ hSh.2.1 λi q=>(d.cw i ?_).2 (a.gb i q)) qp;rw [d.vol.n,<- d.nN];by_cases e:i<N
    . exact e
    . rw [WD (T7 hn (UY ee ec))] at q;cases q
  . obtain ⟨rfl,gb,hd,s,C,ao,m,c,rfl,qn,ks,W,q7⟩:=hcut;have hc:=a.SB (a.apart d I H u h) q7 W.kit W.kind W.psE W.bl;obtain ⟨z,kv⟩:∃ z:Int,1+((ab (aw (D+L+G) s)).length:Int)=z:=⟨_,rfl⟩;rw [kv] at ks;have q9:=DC d hc W hz hn (λi K=>by
     obtain ⟨t,ht,h0,qs⟩:=(oC _ _).1 K;obtain ⟨j,q1,q2,Q⟩:=jS hs.vol.par.s ht h0;have e:j=i:=(by rw [<- qs,q1];rfl);subst e;have U:j<N:=(by rw [hs.nN];exact q2);exact ⟨U,P j U (uQ λe=>by rw [W.To j e] at Q;cases Q)⟩) kv
    obtain ⟨k0,k1,_,_⟩:=ay ks;have H5:=a5 hc q9 hm kc;have HP:=ak W.To;clear a P B d I H J hs hSh u h T X hm hc q9 W q7 kv ks kc;go_wp2_with fail;refine H5.o.2.1.mono ?_;rintro e w6 ⟨rfl,hF⟩;clear k0 k1;obtain ⟨_,_,d2,d3,_⟩:=hF.rd.cells;have H6:=ak hF;clear hF;go_wp2;go_region;go_wp2;refine Ut (v:=ZY #[Z5 (ZV ⟨g,0,ZW⟩) N N,Z7 Z8 (f:Int),.nilIface]) (by simp [results,results85,go_sem]) rfl ?_;obtain ⟨qq,⟨f6,kb,qk,qm⟩,qg⟩:=H6.o;obtain ⟨hc,_,hm,kc⟩:=H5.o;obtain ⟨a,P⟩:=R.o;obtain ⟨B,d,I,H,J⟩:=H1.o;obtain ⟨hs,hSh,u,h,T,X⟩:=Y.o;have hg:aa (λk=>k=g) w5 w6.drew:=qg.trans (aa.drew _);have qi:=hc.apart d I H u h;have qy:=hc.out.size;have kf:=hc.vol;refine ⟨⟨_,_,show dZ w6.drew r v b g N f 0 from qq⟩,⟨f6,f,kb,rfl,hn,HG.o,λi K=>?_⟩,⟨hd,h1,hc.kind,hc.psE,hd.keep _ _ hc.kit (λk M=>hg.block k (hd.lt _ hc.kit k M) (λq=>(qi k M).2.2.2.1 q)),kf.vol.keep (hg.block _ kf.vol.lt hs.vg),hc.hll,λk M=>(hc.bl k M).imp id λq=>TU kc q⟩,kf.arr.keep (λk M=>hg.block k (kf.arr.RN M) λq=>hs.gF (q▸M)),(hm.trans hc.out).trans (hg.mono λk _ q=>.inl q)⟩;by_cases kr:s.testBit i=ZU
    . obtain ⟨bl,mm,l,q1,q2,Q,U,q5,q6⟩:=qm i ((bM hs.vol.par.s).2 ⟨e9 hs.nN,kr⟩);obtain ⟨h1,h2⟩:=yN U Q q5;rw [(pX hs.vol.par dl (e9 hs.nN)).1] at h2;subst h2;exact ⟨bl,l.length,q1,ec,aM.lt U,h1⟩
    . have qo:i∉ab (aw (D+L+G) s):=λq=>kr ((bM hs.vol.par.s).1 q).2;have Z:i∈ds:=P i K (uQ λe=>kr (HP.o i e));obtain ⟨bl,q1,q2,Q,U⟩:=hc.kn.2 i Z;have qj:bl≠g:=ec;exact ⟨bl,44,by rw [qk i qo];exact q1,ec,T7 Q hg.size,jm ((hg.block bl Q qj).trans U)⟩
end
end
section
attribute [local go_sem] Oper.semAt_some
def F0 (h:a9 w ar v D L G t f nn pg ob off):(Instr.loadAt 142 (Z6 (ZV ⟨ar,1,ZW⟩))).run ZM w=.ok (.agg (aj D L G t f nn)) w:=by
 have b:w.heap[ar]?=ZV (Z4 (jK v D L G t f nn pg ob off) 146 (0,0)):=h;have c:w.rangeAt ar 1 (aj D L G t f nn).toList:=λj u a=>by
  unfold aj at a;match j with
  | 0|1|2|3|4|5=>simp at a;subst a;simp [World.cell?,b,jK]
  | j+6=>simp at a
 exact abv (P:=ZM) w ar 1 142 (aj D L G t f nn).toList _ c XF rfl ei
def JT {fn:Func} {u:Nat} {ty tz:ZO} {x y:ZR} {a:Act} {R:ZP->ZS->Prop} (g:fn.results=#[.cell t ty,.cell u tz]) (hd:a.defers=[{ target:=.collected D',args:=#[] }]) (h8:a.tmps.getD t ZX=Z6 (ZV ⟨b,0,ZW⟩)) (h9:a.tmps.getD u ZX=Z6 (ZV ⟨c,0,ZW⟩))
 (hl:∀ w,w.heap[b]?=Z.heap[b]?->(loadVar ty ⟨b,0,ZW⟩).run ZM w=.ok x w) (hm:∀ w,w.heap[c]?=Z.heap[c]?->(loadVar tz ⟨c,0,ZW⟩).run ZM w=.ok y w) (hK:Z.heap[D']?=ZV (.deferred (ZV []))) (hD:b≠D') (hE:c≠D')
 (hR:R (Z3 (ZY #[x,y])) (Z.putObj D' (.deferred ZW))):bodyPostM Fence.wide n ZM fn R .ret a Z:=by
 obtain ⟨d,h⟩:=a;simp only at hd h8 h9;subst hd;refine ⟨ek,.inl ⟨_,_,rfl,WA hK,?_⟩⟩;have c0:=hl (Z.putObj D' (.deferred ZW)) (UP hD);have c1:=hm (Z.putObj D' (.deferred ZW)) (UP hE);refine ⟨ZY #[x,y],?_,hR⟩;have e:d[t]?.getD ZX=Z6 (ZV ⟨b,0,ZW⟩):=oD h8
 have f:d[u]?.getD ZX=Z6 (ZV ⟨c,0,ZW⟩):=oD h9
 simp [results,g,asAddr,e,f,c0,c1]
def ErL (x:ZR):Prop:=x=.nilIface
theorem Nw {x:ZR} (h:ZN Z b 64 x) (w:ZS) (e:w.heap[b]?=Z.heap[b]?):(loadVar 64 ⟨b,0,ZW⟩).run ZM w=.ok x w:=by
 have hc:w.cell? ⟨b,0,ZW⟩=ZV x:=(show ZN w b 64 x from e.trans h).cell;simp [go_sem,hc]
def MJ (w:ZS) (ar v p D L G:Nat) (Kind:aR->Prop) (ps:aR) (A:az) (F:aK) (sg:Nat->Nat) (ls:a8) (X:ZS):Prop:=∃ ps' B,(Kind ps'/\ps'.ps=ps.ps/\∀ k,ps'.bl k->ps.bl k\/w.heap.size<=k)/\(dJ A B/\B.rc=A.rc/\∀ b∈ls,Hld sg B b)/\mN X ar v p ps' D L G B F
def mN.gotR {A:az} (h:mN w ar v p ps D L G A F) {Kind:aR->Prop} (b:w.heap.size<=w'.heap.size) (a:∀ k,k<3->¬ F.S k->k<w.heap.size->w'.heap[k]?=w.heap[k]?) (f:aA w' p A F) (hK:mM w v p D L G Kind ps A ps' w'):mN w' ar v p ps' D L G A F:=by
 have c:2<3:=ee
 have d:1<3:=ee
 have:=h.vlt;exact { h with
  vol:={ h.vol with vol:=Zz,arr:=f,laid:=h.vol.laid.keep (a _ c h.vol.g h.vol.laid.lt),tab:=h.vol.tab.keep (a _ d h.vol.t h.vol.tab.lt),room:=TU h.vol.room b }
  arl:=T7 h.arl b
  kit:=hK.kit
  apt:=λk i=>by
   rcases hK.bl k i with q|q
   . exact h.apt k q
   . have:=h.arl;exact ⟨ec,ec,ec,λe=>e9 (h.vol.arr.RN e)⟩
  hl:=hK.hol }
def Mv (v:Nat) (ps:aR) (F:aK) (j:Nat):Prop:=F.S j\/j=v\/ps.bl j
section
variable {w X Y:ZS} {ar v p D L G:Nat} {Kind:aR->Prop} {ps:aR} {A:az} {F:aK} {sg:Nat->Nat} {ls:a8}
def MJ.own (h:MJ w ar v p D L G Kind ps A F sg ls X) (g:mN w ar v p ps D L G A F) (t:ps.ps<w.heap.size) {T:Nat->Prop} (b:aa T X Y) (hT:∀ k,T k->w.heap.size<=k/\∀ cs d z,X.heap[k]?=ZV (Z4 cs d z)->¬ jX d):MJ w ar v p D L G Kind ps A F sg ls Y:=by
 obtain ⟨ps',B,⟨j,l,m⟩,n,a⟩:=h;have:=g.vol.room;have c:∀ k,k<w.heap.size->k<X.heap.size->Y.heap[k]?=X.heap[k]?:=λk u o=>b.block k o (λq=>e9 ((hT k q).1));have hv:=g.vol.vol.lt;refine ⟨ps',B,⟨j,l,m⟩,n,{ a with vol:={ a.vol with vol:=a.vol.vol.keep (c _ hv a.vol.vol.lt),arr:=a.vol.arr.keep λk q=>c k (g.vol.arr.RN q) (a.vol.arr.RN q),laid:=a.vol.laid.keep (c _ ec a.vol.laid.lt),tab:=a.vol.tab.keep (c _ ec a.vol.tab.lt),room:=TU a.vol.room b.size },arl:=T7 a.arl b.size,kit:=ps'.keep _ _ a.kit λk q=>b.block k (ps'.lt _ a.kit k q) (λe=>?_) }⟩;obtain ⟨r,i⟩:=hT k e;rcases ps'.cl _ a.kit k q with f|⟨cs,d,z,f⟩
 . omega
 . exact i _ _ _ f (ps'.kd _ a.kit k q _ _ _ f)
def MJ.below (h:MJ w ar v p D L G Kind ps A F sg ls X) (d:bW X Y):MJ w ar v p D L G Kind ps A F sg ls Y:=by
 obtain ⟨ps',B,a,b,c⟩:=h;exact ⟨ps',B,a,b,c.below d⟩
def mN.put {B C:az} (h:mN X ar v p ps D L G B F) (c:aA Y p C F) (b:dJ B C) (a:aa F.S X Y):mN Y ar v p ps D L G C F:=
 { h with fine:=b.fine h.fine,vol:=h.vol.turn a c b.n,arl:=T7 h.arl a.size,kit:=ps.keep _ _ h.kit λk q=>a.block k (ps.lt _ h.kit k q) (h.apt k q).2.2.2 }
end
def cK.data {A:az} {xs:aL} (h:cK A D L G t P xs) (e:1<=D) {b:Nat} (a:b∈P++af xs.os):∃ dl,A.at b (PP D L G dl)/\dl.length<=D*44/\∀ x∈dl,x<256:=by
 rcases Ui.1 a with a|a
 . obtain ⟨k,c,rfl⟩:=UR a;have:=h.page k c;rw [ik c] at this;exact ⟨_,this,pY e _ _ _,ug (oZ _) _ _⟩
 . obtain ⟨o,ho,f⟩:=XR.1 a;obtain ⟨x,d,rfl⟩:=T9.1 ho;obtain ⟨k,c,rfl⟩:=UR f;have:=h.held x d k c;rw [ik c] at this;exact ⟨_,this,by unfold dz;exact List.length_take_le _ _,λy g=>(h.fits x d).byt y (U0 (UX g))⟩
structure PZ (w:ZS) (ar:Nat) (cf:FuncId) (cp:Array ZR) (D1:Nat) (M:Nat->Prop) (J:ZS->Prop) (X:ZS):Prop where
 b2:ZN X w.heap.size 103 (Z6 (ZV ⟨ar,0,ZW⟩))
 b3:ZN X (w.heap.size+1) 169 (mO cf cp)
 b4:ZN X (w.heap.size+1+1) 133 (Z7 Z8 (0:Nat))
 b5:∃ er,ErL er/\ZN X (w.heap.size+1+1+1) 64 er
 arr:J X
 out:aa M w X
 dk:X.heap[D1]?=ZV (.deferred (ZV []))
def AW:¬ jX 133:=vf
def DQ:¬ jX 64:=vf
def PZ.next {M:Nat->Prop} {J0:ZS->Prop} (h:PZ w ar cf cp D1 M J0 X) (m:∀ k,M k->k<w.heap.size) (r:∀ X Y (T:Nat->Prop),J X->aa T X Y->(∀ k,T k->w.heap.size<=k/\∀ cs c z,X.heap[k]?=ZV (Z4 cs c z)->¬ jX c)->J Y) (x:w.heap.size+4<=D1)
 (s:J Z) (t:aa M X.drew Z):PZ w ar cf cp D1 M J (Z.setCell ⟨w.heap.size+1+1,0,ZW⟩ (Z7 Z8 ((0:Nat):Int))):=by
 have d:aa M X Z:=(aa.drew X).trans t;obtain ⟨W,b⟩:=nM (Z.setCell ⟨w.heap.size+1+1,0,ZW⟩ (Z7 Z8 ((0:Nat):Int)));have j:∀ k,k≠w.heap.size+1+1->W.heap[k]?=Z.heap[k]?:=λk a=>by rw [<- b];exact Ud _ _ _ _ a
 have:Z.heap.size=W.heap.size:=by rw [<- b];simp [World.setCell]
 have i:aa (λk=>k=w.heap.size+1+1) Z W:=⟨by rw [<- b];rfl,by rw [<- b];rfl,by rw [<- b];rfl,ec,λk _ a=>j k a⟩;have a:∀ k,w.heap.size<=k->k<X.heap.size->k≠w.heap.size+1+1->W.heap[k]?=X.heap[k]?:=λk o e p=>(j k p).trans (d.block k e (λq=>e9 (m k q)));have f:ZN Z (w.heap.size+1+1) 133 (Z7 Z8 (0:Nat)):=(d.block _ h.b4.lt (λq=>e9 (m _ q))).trans h.b4;have l:=f.set (Z7 Z8 ((0:Nat):Int));obtain ⟨n,u,g⟩:=h.b5;rw [b] at l ⊢;exact ⟨(a _ ec h.b2.lt ec).trans h.b2,(a _ ec h.b3.lt ec).trans h.b3,l,⟨n,u,(a _ ec g.lt ec).trans g⟩,r _ _ _ s i (λk a=>⟨ec,λcs c z q=>by rw [a,show Z.heap[w.heap.size+1+1]?=ZV (Z4 _ 133 (0,0)) from f] at q;simp only [UB,UQ] at q;rw [<- q.2.1];exact AW⟩),(h.out.trans d).later i (λk o e=>ec),(a _ ec (TX.1 h.dk).1 ec).trans h.dk⟩
def aae {W3:ZS} {M:Nat->Prop} {er:ZR} {a:Act} {R:ZP->ZS->Prop} (h:PZ w ar cf cp D1 M J W3) (_:∀ k,M k->k<w.heap.size) (v:∀ X Y (T:Nat->Prop),J X->aa T X Y->(∀ k,T k->w.heap.size<=k/\∀ cs j z,X.heap[k]?=ZV (Z4 cs j z)->¬ jX j)->J Y) (_:ErL er) (o:ZN W3 (w.heap.size+1+1+1) 64 er) (C:w.heap.size+4<=D1)
 (hd:a.defers=[{ target:=.collected D1,args:=#[] }]) (h8:a.tmps.getD 4 ZX=Z6 (ZV ⟨w.heap.size+1+1,0,ZW⟩)) (h9:a.tmps.getD 5 ZX=Z6 (ZV ⟨w.heap.size+1+1+1,0,ZW⟩)) (hR:∀ Y,J Y->aa M w Y->R (Z3 (ZY #[Z7 Z8 ((0:Nat):Int),er])) Y) :
 bodyPostM Fence.wide n ZM Tryz.f60 R .ret a ((W3.setCell ⟨w.heap.size+1+1,0,ZW⟩ (Z7 Z8 ((0:Nat):Int))).setCell ⟨w.heap.size+1+1+1,0,ZW⟩ er).drew:=by
 obtain ⟨i,e⟩:=nM (W3.setCell ⟨w.heap.size+1+1,0,ZW⟩ (Z7 Z8 ((0:Nat):Int)));obtain ⟨d,f⟩:=nM (i.setCell ⟨w.heap.size+1+1+1,0,ZW⟩ er);have l:∀ k,k≠w.heap.size+1+1->i.heap[k]?=W3.heap[k]?:=λk g=>by rw [<- e];exact Ud _ _ _ _ g
 have m:∀ k,k≠w.heap.size+1+1+1->d.heap[k]?=i.heap[k]?:=λk g=>by rw [<- f];exact Ud _ _ _ _ g
 have p:ZN d (w.heap.size+1+1) 133 (Z7 Z8 (0:Nat)):=by
  have:=h.b4.set (Z7 Z8 ((0:Nat):Int));rw [e] at this;exact (m _ ec).trans this
 have r:ZN d (w.heap.size+1+1+1) 64 er:=by
  have:=(show ZN i (w.heap.size+1+1+1) 64 er from (l _ ec).trans o).set er;rwa [f] at this
 have D:W3.heap.size=d.heap.size:=by rw [<- f,<- e];simp [World.setCell]
 have y:aa (λk=>k=w.heap.size+1+1\/k=w.heap.size+1+1+1) W3 d:=⟨by rw [<- f,<- e];rfl,by rw [<- f,<- e];rfl,by rw [<- f,<- e];rfl,ec,λk _ g=>(m k ec).trans (l k ec)⟩;have x:d.heap[D1]?=ZV (.deferred (ZV [])):=((m _ ec).trans (l _ ec)).trans h.dk;rw [e,f];have hc:aa (λk=>k=w.heap.size+1+1\/k=w.heap.size+1+1+1\/k=D1) W3 (d.drew.putObj D1 (.deferred ZW)):=((y.trans (aa.drew d)).mono λk _ q=>ec).trans ⟨rfl,rfl,rfl,Ok,λk _ g=>UP ec⟩;refine JT (b:=w.heap.size+1+1) (c:=w.heap.size+1+1+1) (t:=4) (u:=5) (Z:=d.drew) results60 hd h8 h9 (B4 (s:=0) (Z:=d.drew) p) (Nw (Z:=d.drew) r) x ec ec (hR _ ?_ ?_)
 . refine v _ _ _ h.arr hc λk g=>⟨ec,λcs j z q=>?_⟩;rcases g with rfl|rfl|rfl
   . rw [show W3.heap[w.heap.size+1+1]?=ZV (Z4 _ 133 (0,0)) from h.b4] at q;simp only [UB,UQ] at q;rw [<- q.2.1];exact AW
   . rw [show W3.heap[w.heap.size+1+1+1]?=ZV (Z4 _ 64 (0,0)) from o] at q;simp only [UB,UQ] at q;rw [<- q.2.1];exact DQ
   . rw [h.dk] at q;cases q
 . exact h.out.later hc (λk A B=>ec)
structure MdI (w:ZS) (ar v:Nat) (cf:FuncId) (cp:Array ZR) (N b6 b7 r g B:Nat) (M:Nat->Prop) (J:a8->ZS->Prop) (X0:a8) (pre:List (Sn X0)) (X:ZS):Prop where
 b2:ZN X w.heap.size 103 (Z6 (ZV ⟨ar,0,ZW⟩))
 b3:ZN X (w.heap.size+1) 169 (mO cf cp)
 b4:ZN X (w.heap.size+1+1) 133 (Z7 Z8 (0:Nat))
 b5:∃ er,ErL er/\ZN X (w.heap.size+1+1+1) 64 er
 b6:ZN X b6 170 (Z6 (ZV ⟨r,0,ZW⟩))
 b7:ZN X b7 103 (Z6 (ZV ⟨ar,0,ZW⟩))
 rd:∃ b0 gone sp,dZ X r v b0 g N gone sp
 row:∃ f0,X.rowIs g 40 N f0
 arr:J (pre.map (·.1)) X
 out:aa M w X
 size:B<=X.heap.size
def MdI.own {b6 b7:Nat} {M:Nat->Prop} {X0:a8} {J:a8->ZS->Prop} (y:∀ ls X Y (T:Nat->Prop),J ls X->aa T X Y->(∀ k,T k->w.heap.size<=k/\∀ cs c z,X.heap[k]?=ZV (Z4 cs c z)->¬ jX c)->J ls Y) (P:w.heap.size+4<=B) (s:b6<B) (t:b7<B) (L:r<B) (D:g<B):OwnFrom B (MdI w ar v cf cp N b6 b7 r g B M J X0):=by
 rintro pre X Y row ⟨d,m,n,⟨j,A,p⟩,F,G,⟨b0,gone,sp,H⟩,⟨l,u⟩,x,C,E⟩ b hc;have a:∀ k,k<B->Y.heap[k]?=X.heap[k]?:=λk a=>b.block k ec (λe=>e9 ((hc k e.symm).1));have f:aa (λk=>row=ZV k) X Y:=⟨b.os,b.tape,b.output,b.size,λk I K=>b.block k I (λe=>K e.symm)⟩;refine ⟨(a _ ec).trans d,(a _ ec).trans m,(a _ ec).trans n,⟨j,A,(a _ ec).trans p⟩,(a _ s).trans F,(a _ t).trans G,⟨b0,gone,sp,H.keep (a _ L)⟩,⟨l,u.of_block (a _ D)⟩,y _ _ _ _ x f (λk e=>?_),C.later f (λk O d=>e9 ((hc k d).1)),TU E b.size⟩;obtain ⟨Q,o,h,i⟩:=hc k e;refine ⟨ec,λcs c z q=>?_⟩;rw [q] at h;have:=UM h;rw [<- this] at i;cases i
theorem DR {xs:aL} {A:az} (hl:aS w ar v p ps D L G t pg ob P xs A F) (hv:vt D L G Kind ps) (yc:ps.ps<w.heap.size) (z8:2<=A.nb) (hE:Ent cf) (qe:∀ X,aa (Mv v ps F) w X->Cho cf cp sg X) (yf:∀ x,x<2^A.n->sg x<2^A.n) (y7:∀ i,i<A.n->A.lost i=ZT) :
 ZQ ZM 60 #[Z6 (ZV ⟨ar,0,ZW⟩),mO cf cp] w λe Y=>e=Z3 (ZY #[Z7 Z8 (0:Nat),.nilIface])/\MJ w ar v p D L G Kind ps A F sg (1::0::(P++af xs.os)) Y/\aa (Mv v ps F) w Y:=by
 obtain ⟨m,HN⟩:∃ m:Nat,b9 (9<=m):=⟨9,TV _⟩;have u:mN w ar v p ps D L G A F:=⟨hl.vol,hl.nar,hl.vlt,hl.arc.lt,hl.kit,hl.apt,hl.hl,hl.fine⟩;have ha:=hl.arc;have hJ:MJ w ar v p D L G Kind ps A F sg [] w:=⟨ps,A,⟨hv.kind,rfl,λ_ q=>.inl q⟩,⟨dJ.refl A,rfl,λ_ q=>acy⟩,u⟩;have hs:∀ k,Mv v ps F k->k<w.heap.size:=λk q=>by
  rcases q with q|q|q
  . exact hl.vol.arr.RN q
  . rw [q];exact hl.vol.vol.lt
  . exact ps.lt _ hl.kit k q
 have y8:¬ Mv v ps F ar:=λq=>by
  rcases q with q|q|q
  . exact hl.nar q
  . have:=hl.vlt;omega
  . exact (hl.apt _ q).2.1 rfl
 have x1:∀ k,(ar<k/\¬ F.S k/\¬ ps.bl k)->k<w.heap.size->(k<w.heap.size/\¬ Mv v ps F k):=λk q J=>⟨J,λe=>by
  rcases e with e|e|e
  . exact q.2.1 e
  . have:=hl.vlt;omega
  . exact q.2.2 e⟩
 have hP:=hl.pgs.wk x1;have hC:=hl.cat.wk x1;have qh:∀ ls X Y (T:Nat->Prop),MJ w ar v p D L G Kind ps A F sg ls X->aa T X Y->(∀ k,T k->w.heap.size<=k/\∀ cs Ty z,X.heap[k]?=ZV (Z4 cs Ty z)->¬ jX Ty)->MJ w ar v p D L G Kind ps A F sg ls Y:=λls X Y T J M h3=>J.own u yc M h3;have ks:=hl.disk.Tl;have xc:(bG.root D L G t (P.getD 0 0) (an xs.os).length).ok:=by
  have J:=hl.packL_le;have M:=hl.turn;have h3:=hl.vol.par.d;have h4:=hl.vol.par.l4;have U:=hl.vol.par.g;have h6:P.getD 0 0<4294967296:=by
   have xm:0<P.length:=(by rw [hl.disk.pl];unfold pgs;omega);have:=(hl.disk.Tl (P.getD 0 0) (UG _ (by rw [ik xm];exact T6 xm))).2;have:=hl.nb;omega
  exact ⟨ec,ec,ec,ec,h6,ec⟩
 obtain ⟨os,xb⟩:=nM (xs.os);rw [xb] at hC ks;have c0:=ha.cells.1;have qc:=ha.lt;obtain ⟨N,ke⟩:=nM (A.n);have qg:A.n<=16:=by rw [u.vol.n];exact u.vol.par.s
 have O:=a7 u hJ ha qe hP hC;have kr:=λb hb=>hl.disk.data hl.vol.par.d1 (b:=b) hb;rw [xb] at kr;have ye:=hl.disk.root;have y1:=hl.disk.fill;have qy:=ak y7;clear y7;have HD:=aE kr ye y1;have H:=hide7 hs y8 qh ks hv yf yc;clear kr ye y1;clear u hJ ha qe hP hC hs y8 qh ks x1 hl yf;unfold mO;refine (Vd (n:=m)).1 ?_;refine Wh func60 rfl trivial ?_ rfl;simp only [ntmps60,UH,UA,UV,Nat.reduceAdd,Nat.reduceSub,Vg,Vh,Vj,Vk,Uq,US];have c1:((((w.alloc (Z4 #[Z6 (ZV ⟨ar,0,ZW⟩)] 103)).alloc (Z4 #[.func (.func cf) #[] cp] 169)).alloc (Z4 #[Z7 Z8 0] 133)).alloc (Z4 #[.nilIface] 64)).cell? ⟨ar,0,ZW⟩=ZV (Z6 (ZV ⟨v,0,ZW⟩)):=(Uk (((((bA w _).alloc ek _).alloc en _).alloc en _).block _ qc)).trans c0;gi_wp2;clear c1;obtain ⟨w4,km⟩:=nM ((((w.alloc (Z4 #[Z6 (ZV ⟨ar,0,ZW⟩)] 103)).alloc (Z4 #[mO cf cp] 169)).alloc (Z4 #[Z7 Z8 0] 133)).alloc (Z4 #[.nilIface] 64));have k9:bW w w4:=by rw [<- km];exact (((bA w _).alloc ek _).alloc en _).alloc en _
 have xf:w4.heap.size=w.heap.size+4:=by rw [<- km];simp
 have xe:ZN w4 w.heap.size 103 (Z6 (ZV ⟨ar,0,ZW⟩)):=by rw [<- km];exact (((Us w _ _).alloc _).alloc _).alloc _
 have yi:ZN w4 (w.heap.size+1) 169 (mO cf cp):=by
  rw [<- km];have:=Us (w.alloc (Z4 #[Z6 (ZV ⟨ar,0,ZW⟩)] 103)) 169 (mO cf cp);rw [Ul] at this;exact (this.alloc _).alloc _
 have yj:ZN w4 (w.heap.size+1+1) 133 (Z7 Z8 (0:Nat)):=by
  rw [<- km];have:=Us ((w.alloc (Z4 #[Z6 (ZV ⟨ar,0,ZW⟩)] 103)).alloc (Z4 #[mO cf cp] 169)) 133 (Z7 Z8 (0:Nat));rw [Ul,Ul] at this;exact this.alloc _
 have yk:ZN w4 (w.heap.size+1+1+1) 64 .nilIface:=by
  rw [<- km];have:=Us (((w.alloc (Z4 #[Z6 (ZV ⟨ar,0,ZW⟩)] 103)).alloc (Z4 #[mO cf cp] 169)).alloc (Z4 #[Z7 Z8 0] 133)) 64 .nilIface;rw [Ul,Ul,Ul] at this;exact this
 have zp:=xe.cell;have qm:=O.o.2.1.below k9;have qi:=qJ (O.o.1.vol.vol.keep (k9.block _ O.o.1.vol.vol.lt)) O.o.1.vol.par.d O.o.1.vol.par.l4 O.o.1.vol.par.g (ke.symm.trans O.o.1.vol.n);unfold mO at km;rw [km];have H4:=hide7 xe yi yj yk k9 qm qi;clear km xe yi yj yk k9 qm qi;refine cd H4.o.2.2.2.2.2.2 ?_;rintro e w5 ⟨rfl,ka,hm,x6⟩;obtain ⟨r,hr⟩:=nM (w4.heap.size+2);obtain ⟨g,hg⟩:=nM (w4.heap.size+1);rw [hr] at ka ⊢;rw [hg] at ka hm;have yn:=x6.size;have y5:=ka.lt;have y6:=hm.lt;obtain ⟨B,qv⟩:=nM (w5.alloc (Z4 #[Z6 (ZV ⟨r,0,ZW⟩)] 170));have ki:bW w5 B:=by rw [<- qv];exact bA w5 _
 have hc:=x6.trans (ki.mono yn);have qx:ZN B w5.heap.size 170 (Z6 (ZV ⟨r,0,ZW⟩)):=by rw [<- qv];exact Us w5 _ _
 have kj:=ka.keep (ki.block _ y5);have hn:=hm.of_block (ki.block _ y6);have z6:B.heap.size=w5.heap.size+1:=by rw [<- qv];simp
 have zs:B.cell? ⟨w.heap.size,0,ZW⟩=ZV (Z6 (ZV ⟨ar,0,ZW⟩)):=(Uk (hc.block w.heap.size ec)).trans zp;have qf:w.heap.size+4<=g/\w.heap.size+4<=r/\r≠g/\g<B.heap.size/\r<B.heap.size/\w.heap.size+4<=w5.heap.size/\w5.heap.size<B.heap.size/\r<w5.heap.size/\g<w5.heap.size:=ec
 have H5:=a7 kj hn hc qx qf xf;clear ka hm x6 c0 zp kj hn hc ki qx z6 yn y5 y6 hr hg xf qf;gi_wp2;clear zs qv;refine cd (lK ar B) ?_;rintro e w' ⟨rfl,rfl⟩;have h7:ZN (B.alloc (Z4 #[Z6 (ZV ⟨ar,0,ZW⟩)] 103)) B.heap.size 103 (Z6 (ZV ⟨ar,0,ZW⟩)):=Us B _ _;have xg:(B.alloc (Z4 #[Z6 (ZV ⟨ar,0,ZW⟩)] 103)).heap.size=B.heap.size+1:=ek
 have kp:bW B (B.alloc (Z4 #[Z6 (ZV ⟨ar,0,ZW⟩)] 103)):=bA B _;obtain ⟨w7,yg⟩:=nM (B.alloc (Z4 #[Z6 (ZV ⟨ar,0,ZW⟩)] 103));have H7:=aE h7 xg kp;clear h7 xg kp;gi_wp2;rw [yg] at H7;clear yg;obtain ⟨s1,s2,s3,s4,s5,s6,s7,s8,s9⟩:=H5.o.2.2.2.2.1;have xg:=H7.o.2.1;have y4:MdI w ar v cf cp N w5.heap.size B.heap.size r g w7.heap.size (Mv v ps F) (MJ w ar v p D L G Kind ps A F sg) (P++af os) [] w7:=by
  obtain ⟨x2,x3,x4,x5,k9,qm,_⟩:=H4.o;obtain ⟨kj,hn,hc,qx,_,xf⟩:=H5.o;have kp:=H7.o.2.2;have ko:=hc.trans (kp.mono hc.size);have I:∀ k,k<w4.heap.size->w7.heap[k]?=w4.heap[k]?:=λk I=>ko.block k I;exact ⟨(I _ ec).trans x2,(I _ ec).trans x3,(I _ ec).trans x4,⟨_,rfl,(I _ ec).trans x5⟩,(kp.block _ s7).trans qx,H7.o.1,⟨_,_,_,kj.keep (kp.block _ s5)⟩,⟨_,hn.of_block (kp.block _ s4)⟩,qm.below ko,(aa.RL k9 _).trans (aa.RL ko _),TV _⟩
 have x0:∀ {x':ZR} {l:a8},bf (λk=>k<w.heap.size/\¬ Mv v ps F k) w x' l->bf (λk=>(k<w.heap.size/\¬ Mv v ps F k)\/k=B.heap.size) w x' l:=λ⟨ao,c,q1,q2,q3⟩=>⟨ao,c,q1,q2,λhl=>by obtain ⟨b,off,r1,r2,r3⟩:=q3 hl;exact ⟨b,off,r1,.inl r2,r3⟩⟩;have xn:=x0 O.o.2.2.2.2.1;have xi:eN (λk=>(k<w.heap.size/\¬ Mv v ps F k)\/k=B.heap.size) w ob os:=by
  obtain ⟨ao,c,q1,q2,q3⟩:=O.o.2.2.2.2.2;refine ⟨ao,c,q1,q2,λhl=>?_⟩;obtain ⟨b,off,r1,r2,r3,r4⟩:=q3 hl;refine ⟨b,off,r1,.inl r2,r3,λi a=>?_⟩;obtain ⟨sv,t1,t2,t3,t4⟩:=r4 i a;exact ⟨sv,t1,t2,t3,x0 t4⟩
 have qd:bW w w7:=by
  have k9:=H4.o.2.2.2.2.1;have hc:=H5.o.2.2.1;exact (k9.trans (hc.mono k9.size)).trans (H7.o.2.2.mono ec)
 have HI:=a5 y4 xn xi qd;clear y4 x0 xn xi qd;refine Wi rfl (e9 HN.o) (gf:=108) (lb:=#[Z6 (ZV ⟨B.heap.size,0,ZW⟩)]) rfl trivial (U5 func108 ei rfl)
  (pR (λk=>(k<w.heap.size/\¬ Mv v ps F k)\/k=B.heap.size) (m-1) B.heap.size ar v D L G t (P.getD 0 0) (an xs.os).length pg ob ZT P os (.inr rfl) (.inl ⟨qc,H.o.2.1⟩) w7 H7.o.1 (O.o.2.2.1.keep (HI.o.2.2.2.block _ qc)) (HI.o.2.1.keep (ef.RM HI.o.2.2.2)) (HI.o.2.2.1.keep (ef.RM HI.o.2.2.2)))
  (λh k=>h.trans k) (λW l o o' hl _ _ _=>⟨Ok,λk _ I=>UP (by rcases I with I|I<;>omega)⟩) (TW _ _) (λ_=>rfl)
  (MdI w ar v cf cp N w5.heap.size B.heap.size r g w7.heap.size (Mv v ps F) (MJ w ar v p D L G Kind ps A F sg) (P++af os)) (λ_ _ _=>False) (MdI.own H.o.2.2.1 ec ec ec ec ec) (λ_ _ _ _ _ h _ _=>h.elim) HI.o.1
  (λx=>{ tmps:=#[Z6 (ZV ⟨ar,0,ZW⟩),.func (.func cf) #[] cp,Z6 (ZV ⟨w.heap.size,0,ZW⟩),Z6 (ZV ⟨w.heap.size+1,0,ZW⟩),Z6 (ZV ⟨w.heap.size+1+1,0,ZW⟩),Z6 (ZV ⟨w.heap.size+1+1+1,0,ZW⟩),Z6 (ZV ⟨w5.heap.size,0,ZW⟩),Z7 Z9 (x.1:Nat),ZX,ZX,ZX,Z6 (ZV ⟨ar,0,ZW⟩),Z6 (ZV ⟨ar,0,ZW⟩),Z6 (ZV ⟨ar,0,ZW⟩),Z6 (ZV ⟨v,0,ZW⟩),Z6 (ZV ⟨r,0,ZW⟩),Z6 (ZV ⟨ar,0,ZW⟩),.func (.func 108) #[] #[Z6 (ZV ⟨B.heap.size,0,ZW⟩)],Z7 Z9 (x.1:Nat),ZX,ZX,ZX,ZX,ZX,ZX,ZX,ZX,ZX,ZX,ZX,ZX,ZX,ZX,ZX,ZX,ZX,ZX,ZX,ZX,ZX,ZX,ZX,ZX,ZX,ZX,ZX,ZX,ZX,ZX,ZX,ZX,ZX,ZX,ZX,ZX,ZX,ZX,ZX,ZX,ZX,ZX,ZX],defers:=[] }) ?assign ?body ?done ?stop
 case assign=>
  intro l2 x X Kk hK;unfold PM nr;gi_wp2;exact hK
 case body=>
  rintro l2 pre x X a x8;obtain ⟨er,qo,U⟩:=a.b5;obtain ⟨b0,gone,sp,qi⟩:=a.rd;obtain ⟨f0,qj⟩:=a.row;obtain ⟨hd,B0,hq,f,Q⟩:=id a.arr;have u:=O.o.1;obtain ⟨dl,qn,xy,xz⟩:=HD.o.1 x.1 x.2;have hp:B0.at x.1 (PP D L G dl):=qn.off f.1.Tq λi=>by rw [f.2.1]
  have hs:=H.o.1;have kk:qK X r v x.1 g N p D L G Kind hd B0 F dl:=
   { vol:=Q.vol,nN:=by rw [<- ke];exact u.vol.n,hol:=by rw [<- ke,u.vol.n];exact Q.hl,kit:=Q.kit,kind:=hq.1,apt:=λj hj=>⟨(Q.apt j hj).1,(Q.apt j hj).2.2.1,(Q.apt j hj).2.2.2⟩,vr:=e9 u.vol.vol.lt,vg:=e9 u.vol.vol.lt,rg:=s3,gF:=λe=>e9 (u.vol.arr.RN e),rF:=λe=>e9 (u.vol.arr.RN e),rK:=e9 u.vol.room,vK:=u.vlt.1,gK:=e9 u.vol.room,nb:=by rw [f.1.nb];exact (H.o.2.2.2.1 _ x.2).2,cw:=hp,len:=xy,byt:=xz,fine:=Q.fine }
  have yh:=JS kk H.o.2.2.2.2.1.sh qi qj;have c6:=a.b6.cell;have HX:=hide8 a U qo yh hq hp f Q;have z9:=a.size;clear x8 a U qo qi qj yh kk hq qn hp xy xz f Q u hs;gi_wp2;refine dq HX.o.2.2.2.1 ?_;intro e Y kz;obtain ⟨a,U,qo,_,hq,hp,f,Q⟩:=HX.o;have u:=O.o.1;have hs:=H.o.1;have ky:=kz.out;have k8:∀ k,w.heap.size<=k->k<X.heap.size->k≠r->k≠g->(∀ cs Ty z,X.heap[k]?=ZV (Z4 cs Ty z)->¬ jX Ty)->Y.heap[k]?=X.heap[k]?:=λk J M h3 h4 h6=>ky.block k M (λq=>by
   rcases q with q|q|q|q|q
   . exact h4 q
   . exact h3 q
   . have:=u.vol.vol.lt;omega
   . have:=u.vol.arr.RN q;omega
   . rcases hd.cl _ Q.kit k q with e3|⟨cs,Ty,z,e3⟩
     . have:=hq.2.1;omega
     . exact h6 _ _ _ e3 (hd.kd _ Q.kit k q _ _ _ e3))
  have kv:∀ {k:Nat} {T:ZO} {x:ZR},ZN X k T x->¬ jX T->∀ cs Ty z,X.heap[k]?=ZV (Z4 cs Ty z)->¬ jX Ty:=λ{k T x} hb hT cs Ty z q=>by
   rw [show X.heap[k]?=ZV (Z4 #[x] T (0,0)) from hb] at q;simp only [UB,UQ] at q;rw [<- q.2.1];exact hT
  have kg:aa (Mv v ps F) w Y:=a.out.later ky (λk J M=>by
   rcases M with q|q|q|q|q
   . omega
   . omega
   . exact .inr (.inl q)
   . exact .inl q
   . rcases hq.2.2 k q with q|q
     . exact .inr (.inr q)
     . omega)
  have d2:ZN Y w.heap.size 103 _:=(k8 _ ec ec ec ec (kv a.b2 vf)).trans a.b2;have d3:ZN Y (w.heap.size+1) 169 _:=(k8 _ ec ec ec ec (kv a.b3 vf)).trans a.b3;have d4:ZN Y (w.heap.size+1+1) 133 _:=(k8 _ ec ec ec ec (kv a.b4 AW)).trans a.b4;have d5:ZN Y (w.heap.size+1+1+1) 64 _:=(k8 _ ec ec ec ec (kv U DQ)).trans U;have d7:ZN Y B.heap.size 103 _:=(k8 _ ec ec ec ec (kv a.b7 vf)).trans a.b7;have d6:ZN Y w5.heap.size 170 _:=(k8 _ ec ec ec ec (kv a.b6 vf)).trans a.b6;have xx:=kz.arr;obtain ⟨qr,qp,k1,k2,k3,k4,k5,k6⟩:=kz.kit;have qs:mN Y ar v p (qr.SF qp) D L G B0 F:=Q.gotR ky.size (λk J M h3=>ky.block k h3 (λq=>by
   have:=u.vol.room;rcases q with q|q|q|q|q
   . omega
   . omega
   . have:=u.vlt;omega
   . exact M q
   . have:=(Q.apt k q).1;omega)) xx (⟨H.o.2.2.2.2.1.re _ _ k1,k2,k3,k4,by rw [<- u.vol.n,ke];exact k5,k6⟩:mM X v p D L G Kind hd B0 (qr.SF qp) Y)
  have q9:MJ w ar v p D L G Kind ps A F sg (pre.map (·.1)) Y:=⟨qr.SF qp,B0,⟨H.o.2.2.2.2.1.re _ _ k1,k2.trans hq.2.1,λk q=>by
   rcases k6 k q with q|q
   . exact hq.2.2 k q
   . exact .inr ec⟩,f,qs⟩
  obtain ⟨zz,bc,hz⟩:=kz.rd;obtain ⟨f1,gn,h8,rfl,y2,y3,yd⟩:=kz.row;have za:X.heap.size<=Y.heap.size:=ky.size;have qb:=O.o.2.2.1.keep (kg.block _ qc H.o.2.1);have HY:=hide12 a hz h8 q9 kg d2 d3 d4 d5 d6 d7 k8;have qa:((YE N).map (vT D L G dl)).length=N:=ek
  have xo:NL Y w.heap.size g ((YE N).map (vT D L G dl)):=by
   refine ⟨ec,h8.lt,λi a=>?_⟩;rw [qa] at a;obtain ⟨bl,c,q1,q2,q3,q6⟩:=yd i a;obtain ⟨q4,q5⟩:=pX u.vol.par dl (i:=i) (e9 u.vol.n);have cg:=h8.cell (i:=i) a;rw [q1] at cg;have e:((YE N).map (vT D L G dl))[i]'(by rw [qa];exact a)=vT D L G dl i:=ek;rw [e];exact ⟨bl,0,c,cg,ec,q3,q6,q4,q5⟩
  have qe:=O.o.2.2.2.1 Y.drew (kg.trans (aa.drew Y)) gn;have z5:=H.o.2.2.2.2.2.1 gn (by rw [ke];exact y2);have q0:∀ i,i∈ab (sg gn)->i<B0.n:=λi a=>by rw [f.1.n];exact qO z5 a
  have xd:=lf (qs.vol.below ((TW _ Y).drew) lR) x.1 (sg gn) (by rw [f.1.nb];exact (H.o.2.2.2.1 _ x.2).2) (e9 (jk qg)) q0 (w:=Y.drew) (c:=N) (m:=N) (xo.keep lR λ_ _ _=>rfl) (λi a=>by rw [qa,<- ke,<- f.1.n];exact q0 i a) (Nat.le_of_eq qa) (λk I=>u.vol.arr.RN I);rw [DP λi a=>by rw [f.1.lost];exact qy.out i (by rw [<- f.1.n];exact q0 i a)] at xd;have qk:ZQ ZM 86 #[Z6 (ZV ⟨v,0,ZW⟩),Z7 Z9 x.1,Z5 (ZV ⟨g,0,ZW⟩) N N,Z7 Z8 (sg gn)] Y.drew λe w'=>e=Z3 (Z7 Z8 (0:Nat))/\MJ w ar v p D L G Kind ps A F sg (pre.map (·.1)++[x.1]) w'/\aa F.S Y.drew w':=xd.mono λe Z h=>by
   obtain ⟨J,M,h3⟩:=h;have ep:B0.putAt (ab (sg gn)) x.1 (λi=>.shard (((YE N).map (vT D L G dl)).getD i []))=B0.putAt (ab (sg gn)) x.1 (PP D L G dl):=by
    unfold az.putAt;congr 1;funext i m;by_cases q:m=x.1/\i∈ab (sg gn)
    . have z1:i<N:=(by rw [<- ke,<- f.1.n];exact q0 i q.2);simp [q,PP,Ub,z1]
    . rw [TS q,TS q]
   rw [ep] at M;exact ⟨J,⟨qr.SF qp,_,⟨H.o.2.2.2.2.1.re _ _ k1,k2.trans hq.2.1,λk q=>by
    rcases k6 k q with q|q
    . exact hq.2.2 k q
    . exact .inr ec⟩,⟨f.1.trans (dJ.put _ _ _ _),(Nu hp q0).trans f.2.1,λb hb=>by
    rcases Ui.1 hb with q|q
    . exact (f.2.2 b q).Tp (dJ.put _ _ _ _)
    . obtain rfl:=U6.1 q;exact G5 (by rw [f.1.n];exact qg) (by rw [f.1.n,ke];exact y2) (λi a=>y3 i (by rw [<- ke,<- f.1.n];exact a)) λi a=>by rw [f.1.lost];exact qy.out i (by rw [<- f.1.n];exact a)⟩,(qs.below ((TW _ Y).drew)).put M (dJ.put _ _ _ _) h3⟩,h3⟩
  have e3:=d3.cell;have e5:=qb.cells.1;unfold mO at e3;have x9:=d4.lt;have HC:=al qe qk;clear a U hq hp f Q hs ky k8 kv kg d2 d3 d4 d5 d6 d7 xx k1 k2 k3 k4 k5 k6 qs q9 hz h8 qb kz yd y3 qa xo qe xd qk u q0;gi_wp2;obtain ⟨a,hz,h8,q9,kg,d2,d3,d4,d5,d6,d7,k8⟩:=HY.o;have u:=O.o.1;have K:∀ k,w.heap.size<=k->¬ F.S k:=λk I q=>e9 (u.vol.arr.RN q)
  have hf:∀ Z,aa F.S Y Z->Z.cell? ⟨w.heap.size,0,ZW⟩=ZV (Z6 (ZV ⟨ar,0,ZW⟩))/\Z.cell? ⟨w.heap.size+1,0,ZW⟩=ZV (.func (.func cf) #[] cp)/\Z.cell? ⟨w.heap.size+1+1,0,ZW⟩=ZV (Z7 Z8 (0:Nat))/\Z.cell? ⟨ar,0,ZW⟩=ZV (Z6 (ZV ⟨v,0,ZW⟩)):=λZ R=>⟨Wj ((R.block _ d2.lt (K _ ec)).trans d2),Wj ((R.block _ d3.lt (K _ ec)).trans d3),Wj ((R.block _ d4.lt (K _ ec)).trans d4),(Uk (R.block _ (T7 qc kg.size) u.nar)).trans e5⟩;refine bX (eG _) 12 [(0,ZU),(1,ZU),(2,ZU),(3,ZU),(4,ZU),(5,ZU),(6,ZU),(7,ZU),(8,ZU),(9,ZT),(10,ZT),(11,ZU),(12,ZT)] (λZ=>Z.cell? ⟨w.heap.size,0,ZW⟩=ZV (Z6 (ZV ⟨ar,0,ZW⟩))/\Z.cell? ⟨w.heap.size+1,0,ZW⟩=ZV (.func (.func cf) #[] cp)/\Z.cell? ⟨w.heap.size+1+1,0,ZW⟩=ZV (Z7 Z8 (0:Nat))/\Z.cell? ⟨ar,0,ZW⟩=ZV (Z6 (ZV ⟨v,0,ZW⟩))) ei ei (hf _ (aa.drew Y)) ?_;iterate 9 (refine aF rfl rfl ?_;apply YF;refine ⟨λw' V=>?_,?_⟩;(obtain ⟨s1,s2,s3,s4⟩:=V;first|(go_simp;done)|(go_simp;exact rfl));simp only [Act.put,TZ,TY,T5])
  have yy:∀ (args:Array ZR) (w:ZS),(callFunc cf args).run ZM w=.ok (.enter cf args) w:=hE;refine eR (eG _) HC.o.1 rfl rfl nofun ua ?_;rintro e Z ⟨rfl,rfl⟩;refine ⟨_,rfl,λ_=>hf _ (aa.drew Y),?_⟩;simp only [Act.put,TZ,TY,T5];refine eR (eG _) HC.o.2 rfl rfl nofun ua ?_;rintro e Z ⟨rfl,kb,kx⟩;have xp:=hf _ ((aa.drew Y).trans kx);have yb:bits .or .u64 0 0=0:=ee
  refine ⟨_,rfl,λ_=>xp,?_⟩;simp only [Act.put,TZ,TY,T5];refine aF rfl rfl ?_;apply YF;refine ⟨λw' V=>?_,?_⟩;(obtain ⟨s1,s2,s3,s4⟩:=V;first|(go_simp;done)|(go_simp;exact rfl));simp only [Act.put,TZ,TY,T5];have x7:ZN Z (w.heap.size+1+1) 133 _:=(((aa.drew Y).trans kx).block _ d4.lt (K _ ec)).trans d4;have f4:=x7.frozen;have c4:=x7.cell;refine iI (eG _) (w1:=Z.setCell ⟨w.heap.size+1+1,0,ZW⟩ (Z7 Z8 ((0:Nat):Int))) rfl rfl nofun ua (absurd rfl) (cH ?_);have HZ:=aE kb kx K;clear a hz h8 q9 kg d2 d3 d4 d5 d6 d7 k8 u K kb kx e3 e5 hf xp x7 f4 c4 yy yb;simp only [Act.put];gi_wp2;obtain ⟨a,hz,h8,q9,kg,d2,d3,d4,d5,d6,d7,k8⟩:=HY.o;obtain ⟨kb,kx,K⟩:=HZ.o;have kf:aa F.S Y Z:=(aa.drew Y).trans kx;obtain ⟨W,E⟩:=nM (Z.setCell ⟨w.heap.size+1+1,0,ZW⟩ (Z7 Z8 ((0:Nat):Int)));rw [E];have xv:∀ k,k≠w.heap.size+1+1->W.heap[k]?=Z.heap[k]?:=λk I=>by rw [<- E];exact Ud _ _ _ _ I
  have z7:Z.heap.size=W.heap.size:=by rw [<- E];simp [World.setCell]
  have xj:aa (λk=>k=w.heap.size+1+1) Z W:=⟨by rw [<- E];rfl,by rw [<- E];rfl,by rw [<- E];rfl,ec,λk _ I=>xv k I⟩;have zc:=kf.size;have kh:∀ k,w.heap.size<=k->k<Y.heap.size->k≠w.heap.size+1+1->W.heap[k]?=Y.heap[k]?:=λk J M h3=>(xv k h3).trans (kf.block k M (K k J));have zr:ZN Z (w.heap.size+1+1) 133 _:=(kf.block _ x9 (K _ ec)).trans d4;have yv:=H.o.2.2.1 _ _ _ _ kb xj (λk I=>⟨ec,λcs Ty z q=>by rw [I,show Z.heap[w.heap.size+1+1]?=ZV (Z4 _ 133 (0,0)) from zr] at q;simp only [UB,UQ] at q;rw [<- q.2.1];exact AW⟩);have k9:ZN W (w.heap.size+1+1) 133 (Z7 Z8 (0:Nat)):=by rw [<- E];exact zr.set _
  have hh:aa (Mv v ps F) w Z:=kg.trans (kf.mono λk _ q=>.inl q);have xk:aa (Mv v ps F) w W:=hh.later xj (λk J M=>ec);refine ⟨⟨ec,λk o I ho z2=>?_⟩,⟨ec,λk I hK=>?_⟩,?_⟩
  . exact (kh k ec (e9 ((TX.1 ho).1)) ec).trans ((k8 k ec (TX.1 ho).1 ec ec (λcs Ty z q=>by rw [q] at ho;have:=UM ho;subst this;cases z2)).trans ho)
  . rcases hK with ⟨J,M⟩|J
    . exact (xk.block k J M).trans (a.out.block k J M).symm
    . subst J;exact (kh _ ec ec ec).trans (d7.trans a.b7.symm)
  . exact ⟨(kh _ ec ec ec).trans d2,(kh _ ec ec ec).trans d3,k9,⟨_,qo,(kh _ ec ec ec).trans d5⟩,(kh _ ec ec ec).trans d6,(kh _ ec ec ec).trans d7,⟨_,_,_,hz.keep (kh _ ec ec ec)⟩,⟨_,h8.of_block (kh _ ec ec ec)⟩,by rw [Uw];exact yv,xk,ec⟩
 case done=>
  rintro D1 ba X ys ym a hK;have qz:w.heap.size+4<=D1:=ec
  have k0:PZ w ar cf cp D1 (Mv v ps F) (MJ w ar v p D L G Kind ps A F sg (P++af os)) X:=⟨a.b2,a.b3,a.b4,a.b5,by have e:ba.map (·.1)=P++af os:=ym;rw [<- e];exact a.arr,a.out,hK⟩;have K:∀ k,w.heap.size<=k->¬ Mv v ps F k:=λk I q=>e9 (H.o.1 k q)
  have kc:∀ (ls:a8) (W:ZS) (b:Nat) (rc:bG),PZ w ar cf cp D1 (Mv v ps F) (MJ w ar v p D L G Kind ps A F sg ls) W->b<A.nb->rc.ok->MW rc->A.at b (λ_=>rc)->ZQ ZM 87 #[Z6 (ZV ⟨ar,0,ZW⟩),Z7 Z9 b,dI rc,mO cf cp] W.drew λe Y=>e=Z3 (Z7 Z8 (0:Nat))/\MJ w ar v p D L G Kind ps A F sg (b::ls) Y/\aa (Mv v ps F) W.drew Y:=λls W b rc E hb z3 yz qn=>by
   obtain ⟨hd,B0,hq,f,Q⟩:=E.arr;have ha:=O.o.2.2.1;have ya:=Q.below ((TW _ W).drew);have kc:=vQ (w:=W.drew) (cf:=cf) (cp:=cp) (sg:=sg) (b:=b) (r:=rc) ya (ha.keep (w':=W.drew) (E.out.block _ ha.lt H.o.2.1)) hE (λX' R=>O.o.2.2.2.1 X' ((E.out.trans (aa.drew W)).trans (R.mono λk _ q=>.inl q))) (λy hy=>by rw [f.1.n] at hy ⊢;exact H.o.2.2.2.2.2.1 y hy) (by rw [f.1.nb];exact hb) z3 yz (qn.off f.1.Tq λi=>by rw [f.2.1]) λi a=>by rw [f.1.lost];exact qy.out i (by rw [<- f.1.n];exact a)
   refine kc.mono λe Y h=>?_;obtain ⟨J,⟨C,⟨hC,yr,yq⟩,yp⟩,R⟩:=h;exact ⟨J,⟨hd,C,hq,⟨f.1.trans hC,yr.trans f.2.1,λb' yx=>(Uv.1 yx).elim (λq=>q▸yq) λq=>(f.2.2 b' q).Tp hC⟩,ya.put yp hC R⟩,R.mono λk _ q=>.inl q⟩
  have HE:=aE k0 K kc;clear a hK k0 K kc ym;gi_wp2;obtain ⟨k0,K,kc⟩:=HE.o;obtain ⟨f1,y0⟩:=nM (P.getD 0 0);obtain ⟨n1,y9⟩:=nM ((an xs.os).length);have ha:=O.o.2.2.1;have qq:=kc _ X 0 _ k0 ec xc trivial HD.o.2.1;rw [y0,y9] at ha qq;have hf:∀ (ls:a8) W Z,PZ w ar cf cp D1 (Mv v ps F) (MJ w ar v p D L G Kind ps A F sg ls) W->aa (Mv v ps F) W Z->Z.cell? ⟨w.heap.size,0,ZW⟩=ZV (Z6 (ZV ⟨ar,0,ZW⟩))/\Z.cell? ⟨w.heap.size+1,0,ZW⟩=ZV (.func (.func cf) #[] cp)/\Z.cell? ⟨w.heap.size+1+1,0,ZW⟩=ZV (Z7 Z8 (0:Nat))/\a9 Z ar v D L G t f1 n1 pg ob ZT:=λ_ W Z E R=>⟨Wj ((R.block _ E.b2.lt (K _ ec)).trans E.b2),Wj ((R.block _ E.b3.lt (K _ ec)).trans E.b3),Wj ((R.block _ E.b4.lt (K _ ec)).trans E.b4),ha.keep ((E.out.trans R).block _ ha.lt H.o.2.1)⟩;have kk:∀ (ls:a8) W Z,PZ w ar cf cp D1 (Mv v ps F) (MJ w ar v p D L G Kind ps A F sg ls) W->aa (Mv v ps F) W Z->Z.frozen? ⟨w.heap.size+1+1,0,ZW⟩=ZT:=λ_ W Z E R=>Boxed.frozen ((R.block _ E.b4.lt (K _ ec)).trans E.b4);have yb:bits .or .u64 0 0=0:=ee
  change ZQ ZM 87 #[Z6 (ZV ⟨ar,0,ZW⟩),Z7 Z9 (0:Nat),.iface 142 (.agg (aj D L G t f1 n1)),.func (.func cf) #[] cp] _ _ at qq;refine bX nU 10 [(0,ZU),(1,ZU),(2,ZU),(3,ZU),(4,ZU),(5,ZU),(6,ZU),(7,ZU),(8,ZT),(9,ZU),(10,ZT)] (λZ=>Z.cell? ⟨w.heap.size,0,ZW⟩=ZV (Z6 (ZV ⟨ar,0,ZW⟩))/\Z.cell? ⟨w.heap.size+1,0,ZW⟩=ZV (.func (.func cf) #[] cp)/\Z.cell? ⟨w.heap.size+1+1,0,ZW⟩=ZV (Z7 Z8 (0:Nat))/\a9 Z ar v D L G t f1 n1 pg ob ZT) ei ei (hf _ X _ k0 (aa.drew X)) ?_;iterate 5 (refine aF rfl rfl ?_;apply YF;refine ⟨λw' V=>?_,?_⟩;(obtain ⟨s1,s2,s3,s4⟩:=V;first|(go_simp;done)|(go_simp;exact rfl));simp only [Act.put,TZ,TY,T5])
  refine aF rfl rfl ⟨.agg (aj D L G t f1 n1),λw' V=>by simp [execOp,Act.eval,F0 V.2.2.2],?_⟩;simp only [Act.put,TZ,TY,T5];iterate 2 (refine aF rfl rfl ?_;apply YF;refine ⟨λw' V=>?_,?_⟩;(obtain ⟨s1,s2,s3,s4⟩:=V;first|(go_simp;done)|(go_simp;exact rfl));simp only [Act.put,TZ,TY,T5])
  refine eR nU qq rfl rfl nofun ua ?_;rintro e Z ⟨rfl,kb,hh⟩;refine ⟨_,rfl,λ_=>hf _ X _ k0 ((aa.drew X).trans hh),?_⟩;simp only [Act.put,TZ,TY,T5];refine aF rfl rfl ?_;apply YF;refine ⟨λw' V=>?_,?_⟩;(obtain ⟨s1,s2,s3,s4⟩:=V;first|(go_simp;done)|(go_simp;exact rfl));simp only [Act.put,TZ,TY,T5];have f4:=kk _ X Z k0 ((aa.drew X).trans hh);have c4:=(hf _ X Z k0 ((aa.drew X).trans hh)).2.2.1;refine iI nU (w1:=Z.setCell ⟨w.heap.size+1+1,0,ZW⟩ (Z7 Z8 ((0:Nat):Int))) rfl rfl nofun ua (absurd rfl) (cH ?_);simp only [Act.put];clear f4 c4 qq;have HS:=al hf kk;clear hf kk;have k7:=k0.next H.o.1 (H.o.2.2.1 _) qz kb hh;obtain ⟨W,E⟩:=nM (Z.setCell ⟨w.heap.size+1+1,0,ZW⟩ (Z7 Z8 ((0:Nat):Int)));rw [E] at k7 ⊢;obtain ⟨er,z0,U⟩:=id k7.b5;have c5:=U.cell;have yo:=al k7 U;clear k0 K kc ha kb hh k7 E U y0 y9;obtain rfl:er=.nilIface:=z0;gi_wp2;clear c5;obtain ⟨k7,U⟩:=yo.out;obtain ⟨k0,K,kc⟩:=HE.o;obtain ⟨hf,kk⟩:=HS.o;have xa:=kc _ W 1 .filled k7 ec trivial trivial HD.o.2.2;change ZQ ZM 87 #[Z6 (ZV ⟨ar,0,ZW⟩),Z7 Z9 (1:Nat),.iface 180 (.agg #[]),.func (.func cf) #[] cp] _ _ at xa;refine bX nU 7 [(0,ZU),(1,ZU),(2,ZU),(3,ZU),(4,ZU),(5,ZT),(6,ZU),(7,ZT)] (λZ=>Z.cell? ⟨w.heap.size,0,ZW⟩=ZV (Z6 (ZV ⟨ar,0,ZW⟩))/\Z.cell? ⟨w.heap.size+1,0,ZW⟩=ZV (.func (.func cf) #[] cp)/\Z.cell? ⟨w.heap.size+1+1,0,ZW⟩=ZV (Z7 Z8 (0:Nat))/\a9 Z ar v D L G t f1 n1 pg ob ZT) ei ei (hf _ W _ k7 (aa.drew W)) ?_;iterate 5 (refine aF rfl rfl ?_;apply YF;refine ⟨λw' V=>?_,?_⟩;(obtain ⟨s1,s2,s3,s4⟩:=V;first|(go_simp;done)|(go_simp;exact rfl));simp only [Act.put,TZ,TY,T5])
  refine eR nU xa rfl rfl nofun ua ?_;rintro e Z2 ⟨rfl,kb,hh⟩;refine ⟨_,rfl,λ_=>hf _ W _ k7 ((aa.drew W).trans hh),?_⟩;simp only [Act.put,TZ,TY,T5];refine aF rfl rfl ?_;apply YF;refine ⟨λw' V=>?_,?_⟩;(obtain ⟨s1,s2,s3,s4⟩:=V;first|(go_simp;done)|(go_simp;exact rfl));simp only [Act.put,TZ,TY,T5];have f4:=kk _ W Z2 k7 ((aa.drew W).trans hh);have c4:=(hf _ W Z2 k7 ((aa.drew W).trans hh)).2.2.1;refine iI nU (w1:=Z2.setCell ⟨w.heap.size+1+1,0,ZW⟩ (Z7 Z8 ((0:Nat):Int))) rfl rfl nofun ua (absurd rfl) (cH ?_);simp only [Act.put];clear f4 c4 xa hf kk;have q8:=k7.next H.o.1 (H.o.2.2.1 _) qz kb hh;have q7:ZN (Z2.setCell ⟨w.heap.size+1+1,0,ZW⟩ (Z7 Z8 ((0:Nat):Int))) (w.heap.size+1+1+1) 64 .nilIface:=(Ud _ _ _ _ (by show w.heap.size+1+1+1≠w.heap.size+1+1;omega)).trans ((((aa.drew W).trans hh).block _ U.lt (K _ ec)).trans U);obtain ⟨W3,xq⟩:=nM (Z2.setCell ⟨w.heap.size+1+1,0,ZW⟩ (Z7 Z8 ((0:Nat):Int)));rw [xq] at q8 q7 ⊢;have c4:=q8.b4.cell;have f4:=q8.b4.frozen;have c5:=q7.cell;have f5:=q7.frozen;have xh:=al q8 q7;clear k0 k7 U kc K kb hh q8 xq q7;gi_wp2;gi_region
  gi_wp2;exact aae xh.out.1 H.o.1 (H.o.2.2.1 _) rfl xh.out.2 qz rfl rfl rfl (λY J M=>⟨rfl,by rw [xb];exact J,M⟩)
 case stop=>
  rintro D1 cc pre X ys z4 hx hK;exact hx.elim
end
section
def az.Sf (A:az) (S:Nat):az:={ A with sv:=S }
def Alv (A:az) (S:Nat) (B:az):Prop:=B.sv=S/\dJ A (B.Sf A.sv)
section
variable {w Y:ZS} {ar v p D L G t:Nat} {Kind:aR->Prop} {ps ps':aR} {pg ob:ZR} {P:a8} {xs:aL} {A B:az} {F:aK}
def aS.opn (h:aS w ar v p ps D L G t pg ob P xs A F) (ho:mN Y ar v p ps' D L G B F) (f:dJ A B) (n:B.rc=A.rc) (c:aa (Mv v ps F) w Y) (l:∀ k,ps'.bl k->ps.bl k\/w.heap.size<=k):aS Y ar v p ps' D L G t pg ob P xs B F:=by
 have hv:=h.vlt;have d:ef (λk=>ar<k/\¬ F.S k/\¬ ps.bl k/\¬ ps'.bl k) w Y:=⟨c.size,λk m a=>c.block k m (λq=>by
  rcases q with q|q|q
  . exact a.2.1 q
  . have:=a.1;omega
  . exact a.2.2.1 q)⟩
 have g:∀ k,(ar<k/\¬ F.S k/\¬ ps.bl k)->k<w.heap.size->(ar<k/\¬ F.S k/\¬ ps.bl k/\¬ ps'.bl k):=λk q o=>⟨q.1,q.2.1,q.2.2,λe=>(l k e).elim q.2.2 (by omega)⟩;have j:¬ Mv v ps F ar:=λq=>by
  rcases q with q|q|q
  . exact h.nar q
  . omega
  . exact (h.apt _ q).2.1 rfl
 exact { arc:=h.arc.keep (c.block _ h.arc.lt j),vol:=ho.vol,nar:=ho.nar,vlt:=ho.vlt,disk:=h.disk.off f.Tq λb _ i=>by rw [n],pgs:=((h.pgs.wk g).keep d).wk λk q _=>⟨q.1,q.2.1,q.2.2.2⟩,cat:=((h.cat.wk g).keep d).wk λk q _=>⟨q.1,q.2.1,q.2.2.2⟩,nb:=by rw [f.nb];exact h.nb,turn:=h.turn,kit:=ho.kit,apt:=ho.apt,hl:=ho.hl,fine:=ho.fine }
def AX {f:Nat->bG} (h:A.at b f) (c:∀ i,i<A.n->gnB A b i=ZU->A.sv.testBit i=ZU->S.testBit i=ZU):(A.Sf S).at b f:=λi a=>⟨(h i a).1,λq=>c i a q ((h i a).2 q)⟩
def aA.Sf (h:aA X p A F):aA X p (A.Sf S) F:=by
 obtain ⟨R,b,a⟩:=h;exact ⟨R,b,a.n,a.nb,a.lost,a.rd,a.tn⟩
def aS.Sf (h:aS w ar v p ps D L G t pg ob P xs A F) (hT:gu D L G S) (hlo:∀ i,i<A.n->A.lost i=ZU->S.testBit i=ZU) (d:∀ b,b∈1::0::(P++af xs.os)->∀ i,i<A.n->gnB A b i=ZU->A.sv.testBit i=ZU->S.testBit i=ZU):aS w ar v p ps D L G t pg ob P xs (A.Sf S) F:=by
 have hd:=h.disk;have f:∀ {l:a8} {c:Nat->a8},(∀ b∈l,b∈P++af xs.os)->A.holds D L G l c->(A.Sf S).holds D L G l c:=λhl q k e=>AX (q k e) (d _ (UJ _ (UJ _ (hl _ (by rw [ik e];exact T6 e)))));exact { h with vol:={ h.vol with arr:=h.vol.arr.Sf },disk:=⟨hd.turn,AX hd.root (d 0 ek),AX hd.fill (d 1 ek),hd.pl,f (λb a=>UG _ a) hd.page,hd.nod,hd.Tl,hd.fits,hd.up,λx g=>f (λb a=>VQ _ (uG g a)) (hd.held x g),hd.room⟩,fine:=⟨hT,hlo⟩ }
def vR (w:ZS) (ar v p D L G t:Nat) (Kind:aR->Prop) (ps:aR) (pg ob:ZR) (P:a8) (xs:aL) (A:az) (F:aK) (S:Nat) (e:ZP) (Y:ZS):Prop:=e=Z3 .nilIface/\(∃ ps' B,aS Y ar v p ps' D L G t pg ob P xs B F/\(Kind ps'/\∀ k,ps'.bl k->ps.bl k\/w.heap.size<=k)/\Alv A S B)/\aa (Mv v ps F) w Y
def MJ.TA {x:Nat} (l:MJ w ar v p D L G Kind ps A F sg (1::0::(P++af xs.os)) Y) (h:aS w ar v p ps D L G t pg ob P xs A F) (m:aa (Mv v ps F) w Y) (g:∀ ps h,Kind ps->Kind (ps.SF h)) (u:x<2^(D+L+G)) (hT:gu D L G S) (hlo:∀ i,i<A.n->A.lost i=ZT) (f:∀ i,i<A.n->A.sv.testBit i=ZU->¬ Sld sg A.n i->S.testBit i=ZU):vR w ar v p D L G t Kind ps pg ob P xs A F S (Z3 .nilIface) (Y.setCell ⟨v,5,ZW⟩ (Z7 Z8 (x:Nat))):=by
 obtain ⟨ps',B,⟨k1,k2,k3⟩,⟨a,s,r⟩,ho⟩:=l;have d:aa (Mv v ps F) w (Y.setCell ⟨v,5,ZW⟩ (Z7 Z8 (x:Nat))):=m.later (aa.setCell (S:=λk=>k=v) _ _ _ rfl) (λk _ e=>.inr (.inl e));refine ⟨rfl,⟨ps'.SF x,B.Sf S,(h.opn (ho.SF u) a s d k3).Sf hT (λi c q=>?_) (λb o i c q hs=>?_),⟨g _ _ k1,k3⟩,rfl,a.n,a.nb,a.tn,a.lost,rfl,a.gn⟩,d⟩
 . rw [a.lost,hlo i (a.n▸c)] at q;cases q
 . refine f i (a.n▸c) (a.sv▸hs) λj=>?_;rw [r b o i c (a.n.symm▸j)] at q;cases q
def Nx:Ent 61:=U5 func61 ei rfl
def Ny:Ent 79:=U5 func79 ei rfl
theorem Nz (X:ZS):Cho 61 #[] (λx=>x) X:=λbd=>by
 show ZQ ZM 61 #[Z7 Z8 bd] X _;go_enter func61,ntmps61;go_wp2;go_ret;exact ⟨rfl,rfl⟩
theorem NA (h:ZN X q 133 (Z7 Z8 y)):Cho 79 #[Z6 (ZV ⟨q,0,ZW⟩)] (λ_=>y) X:=λbd=>by
 show ZQ ZM 79 #[Z7 Z8 bd,Z6 (ZV ⟨q,0,ZW⟩)] X _;have c:=h.cell;clear h;go_enter func79,ntmps79;go_wp2;go_ret;exact ⟨rfl,rfl⟩
def P0 (h:aS w ar v p ps D L G t pg ob P xs A F) {k:Nat} (a:Mv v ps F k):k<w.heap.size:=by
 rcases a with q|q|q
 . exact h.vol.arr.RN q
 . rw [q];exact h.vol.vol.lt
 . exact ps.lt _ h.kit k q
variable {S:Nat} (h:aS w ar v p ps D L G t pg ob P xs A F) (hv:vt D L G Kind ps) (hnb:2<=A.nb) (hT:gu D L G S) (hlo:∀ i,i<A.n->A.lost i=ZT)
include h hv hnb hT hlo
theorem F2 (f:ZN w q 103 (Z6 (ZV ⟨ar,0,ZW⟩))) (m:¬ Mv v ps F q) :
 ZQ ZM 59 #[Z6 (ZV ⟨q,0,ZW⟩)] w (vR w ar v p D L G t Kind ps pg ob P xs A F S):=by
 have d:=DR h hv (hv.pk _ _ hv.kind h.kit) hnb Nx (λX _=>Nz X) (λx n=>n) hlo;unfold mO at d;have g:=f.cell;have a:=a6 h hv f hT hlo;clear h hv f hT hlo;go_enter func59,ntmps59;go_wp2_with fail;refine d.mono ?_;rintro e Y ⟨rfl,c,b⟩;have l:Y.cell? ⟨q,0,ZW⟩=ZV (Z6 (ZV ⟨ar,0,ZW⟩)):=(Uk (b.block _ a.o.2.2.1.lt m)).trans g;obtain ⟨ps',B,⟨k1,k2,k3⟩,⟨j,k,_⟩,ho⟩:=id c;have hl:=a.o.1.opn ho j k b k3;have c0:=hl.arc.cells.1;obtain ⟨s,r⟩:=AT hl.vol.vol;have H:=al c b;clear d k1 k2 k3 j k b ho hl g c;go_wp2;go_ret;exact H.o.1.TA a.o.1 H.o.2 a.o.2.1.re (VO _) a.o.2.2.2.1 a.o.2.2.2.2 λi _ _ q=>absurd (λ_ _ q=>q) q
theorem DS (d:Nat) (hd:d<D+L+G) (r:∀ i,i≠d->A.sv.testBit i=ZU->S.testBit i=ZU) :
 ZQ ZM 54 #[Z6 (ZV ⟨ar,0,ZW⟩),Z7 Z9 d] w (vR w ar v p D L G t Kind ps pg ob P xs A F S):=by
 have c0:=h.arc.cells.1;have W:=fI h.vol.vol;have hD:=h.vol.par.d;have hL:=h.vol.par.l4;have hG:=h.vol.par.g;have hN:=h.vol.n;have hs:=h.vol.par.s;have hk:=λw1:ZS=>qI (D:Int) (L:Int) (G:Int) w1 ⟨ec,ec⟩ ⟨ec,ec⟩ ⟨ec,ec⟩;have hq:=λw1:ZS=>eU 0 d ee ec w1;have k0:=hv.pk _ _ hv.kind h.kit;have H:=hide8 W hk hq h hv hT hlo r;have E:2^d<2^A.n:=VE ee ec;have h8:2^A.n<=65536:=jk ec;clear W hk hq h hv hT hlo r;have h0:¬ (d:Int)<0:=ec
 go_enter func54,ntmps54;go_wp2_with fail;refine H.o.1.mono ?_;rintro e w1 ⟨rfl,C,_⟩;go_wp2_with fail;refine (H.o.2.1 _).mono ?_;rintro e w2 ⟨rfl,hn⟩;have hc:bW w w2:=by rw [hn];exact C.alloc C.size _
 have u:=ak hc;clear hn C hc;go_wp2_with fail;refine (H.o.2.2.1 _).mono ?_;rintro e b ⟨rfl,rfl⟩;go_wp2_with fail;have f:ZN (b.alloc (Z4 #[Z7 Z8 ((2:Int)^d)] 133)) b.heap.size 133 (Z7 Z8 (2^d:Nat)):=by
  rw [Xu];exact Us b _ _
 have a:bW w (b.alloc (Z4 #[Z7 Z8 ((2:Int)^d)] 133)):=u.o.alloc u.o.size _;obtain ⟨w4,hp⟩:=nM (b.alloc (Z4 #[Z7 Z8 ((2:Int)^d)] 133));rw [hp] at f a ⊢;have j:=H.o.2.2.2.1.below a;have hy:w.heap.size<=b.heap.size:=u.o.size;have I:¬ Mv v ps F b.heap.size:=λq=>e9 (P0 H.o.2.2.2.1 q)
 have J:=DR j H.o.2.2.2.2.1 (T7 k0 a.size) hnb Ny (λX hX=>NA (y:=2^d) ((hX.block _ f.lt I).trans f)) (λ_ _=>E) H.o.2.2.2.2.2.2.1;unfold mO at J;refine J.mono ?_;rintro e Y ⟨rfl,m,l⟩;obtain ⟨ps',B,⟨k1,k2,k3⟩,⟨R,hr,_⟩,ho⟩:=id m;have hl:=j.opn ho R hr l k3;have Z:ZN Y b.heap.size 133 (Z7 Z8 (2^d:Nat)):=(l.block _ f.lt I).trans f;have cq:=Z.cell;have hb:=hl.arc.cells.1;obtain ⟨k5,f5⟩:=AT hl.vol.vol;obtain ⟨c,hz⟩:=nM (ps'.ho);have V:=hl.hl;rw [hz] at k5 V;rw [hN] at h8 E;have T:=Yb c (2^d) ec ec;have U:yG c (2^d)<2^(D+L+G):=WX (WL:yG c (2^d)<=c) V;have HY:=a5 m l j a;clear J m l hl Z f a j c0 hp I hy k1 k2 k3 R hr ho;have Q:bits .andNot .u64 (c:Int) ((2^d:Nat):Int)=((yG c (2^d):Nat):Int):=T;clear T;generalize yG c (2^d)=z at Q U;obtain ⟨O,hx⟩:∃ O:Nat,2^d=O:=⟨_,rfl⟩;rw [hx] at cq Q;clear E;go_wp2;go_region;go_wp2;go_ret;obtain ⟨m,l,j,a⟩:=HY.o;obtain ⟨_,_,_,_,hv,hT,hlo,r⟩:=H.o;obtain ⟨_,⟨K,B2,M,⟨N,q3⟩,q4⟩,q5⟩:=m.TA j l hv.re U hT hlo λi _ M N=>r i (λe=>N λx _ _=>by rw [e];exact aco) M;exact ⟨rfl,⟨K,B2,M.below (TW _ _).drew,⟨N,λk q=>(q3 k q).imp id λq=>TU a.size q⟩,q4⟩,((aa.RL a _).trans q5).trans (aa.drew _)⟩
theorem AY (d:Nat) (hd:d<D+L+G) (j:∀ i,i≠d->A.sv.testBit i=ZU->S.testBit i=ZU) {q1 g:Nat} (a:ZN w q1 103 (Z6 (ZV ⟨ar,0,ZW⟩))) (b:ZN w g 3 (Z7 Z9 d)) :
 ZQ ZM 53 #[Z6 (ZV ⟨q1,0,ZW⟩),Z6 (ZV ⟨g,0,ZW⟩)] w (vR w ar v p D L G t Kind ps pg ob P xs A F S):=by
 have f:=DS h hv hnb hT hlo d hd j;have c1:=a.cell;have k:=b.cell;clear h hv a b hT hlo;go_enter func53,ntmps53;go_wp2_with fail;refine f.mono ?_;rintro e Y ⟨rfl,c⟩;have H:=ak c;clear c f;go_wp2;go_ret;exact ⟨rfl,H.o⟩
omit hv hnb hT hlo
def ir (w:ZS) (ar v p D L G t:Nat) (Kind:aR->Prop) (ps:aR) (xs:aL) (A:az) (F:aK) (S:Nat) (e:ZP) (w':ZS):Prop:=e=Z3 .nilIface/\(∃ pg ob P ps' B,aS w' ar v p ps' D L G t pg ob P xs B F/\(Kind ps'/\∀ k,ps'.bl k->ps.bl k\/w.heap.size<=k)/\Alv A S B)/\aa (λj=>j=ar\/F.S j\/j=v\/ps.bl j) w w'
def G6 (k:FuncId) (cap:Array ZR) (i:∀ (args:Array ZR) (w:ZS),(callFunc k args).run ZM w=.ok (.enter k args) w) (l:∀ w1,bW w w1->ZQ ZM k cap w1 (vR w1 ar v p D L G t Kind ps pg ob P xs A F S)) :
 ZQ ZM 52 #[Z6 (ZV ⟨ar,0,ZW⟩),.func (.func k) #[] cap] w (ir w ar v p D L G t Kind ps xs A F S):=by
 refine (AO (R:=Alv A S) h k #[] cap i (λr g xs' B ps' w2=>r=.nilIface/\g=t/\xs'=xs/\(Kind ps'/\∀ k,ps'.bl k->ps.bl k\/w.heap.size<=k)) (λj=>j=v\/ps.bl j) (λj e=>by
  rcases e with e|e
  . have:=h.vol.vol.lt;omega
  . have:=ps.lt _ h.kit _ e;omega) (λ_ _ _ _ _ _ _ _ q=>q)
  (λw1 f o=>by
   rw [(ek:(#[]:Array ZR)++cap=cap)];refine (l w1 f).mono ?_;rintro e w2 ⟨rfl,⟨ps',B,hl,⟨k1,k4⟩,b⟩,a⟩;exact ⟨.nilIface,t,pg,ob,P,xs,B,ps',rfl,.inl rfl,hl,b,a.mono λj _ n=>.inr n,rfl,rfl,rfl,k1,λk q=>(k4 k q).imp id λq=>TU f.size q⟩)).mono ?_
 rintro e w' ⟨r,g,d,c,P',xs',B,ps',rfl,s,hl,b,a,rfl,rfl,rfl,m⟩;exact ⟨rfl,⟨d,c,P',ps',B,hl,m,b⟩,a⟩
omit h in
def ir.before (a:bW w0 w) (q:ir w ar v p D L G t Kind ps xs A F S e w'):ir w0 ar v p D L G t Kind ps xs A F S e w':=by
 obtain ⟨rfl,⟨pg,ob,P,ps',B,hl,⟨k1,k4⟩,c⟩,b⟩:=q;exact ⟨rfl,⟨pg,ob,P,ps',B,hl,⟨k1,λk q=>(k4 k q).imp id λq=>TU a.size q⟩,c⟩,(aa.RL a _).trans b⟩
include hv hnb hT hlo
theorem aaf:ZQ ZM 41 #[Z6 (ZV ⟨ar,0,ZW⟩)] w (ir w ar v p D L G t Kind ps xs A F S):=by
 have j:∀ (args:Array ZR) (w:ZS),(callFunc 59 args).run ZM w=.ok (.enter 59 args) w:=U5 func59 ei rfl;have b:bW w (w.alloc (Z4 #[Z6 (ZV ⟨ar,0,ZW⟩)] 103)):=bA w _;have a:ZN (w.alloc (Z4 #[Z6 (ZV ⟨ar,0,ZW⟩)] 103)) w.heap.size 103 (Z6 (ZV ⟨ar,0,ZW⟩)):=Us w _ _;obtain ⟨w1,l⟩:=nM (w.alloc (Z4 #[Z6 (ZV ⟨ar,0,ZW⟩)] 103));rw [l] at b a;have c:=h.below b;have k:¬ Mv v ps F w.heap.size:=λq=>e9 (P0 h q)
 have g:=G6 c 59 #[Z6 (ZV ⟨w.heap.size,0,ZW⟩)] j λw2 f=>F2 (c.below f) hv hnb hT hlo ((f.block _ a.lt).trans a) k;have m:=a.cell;have H:=al g b;clear g b a c h hv;go_enter func41,ntmps41;go_wp2_with fail;refine H.o.1.mono ?_;rintro e w' d;obtain rfl:=d.1;have i:=ak (d.before H.o.2);clear d;go_wp2;go_ret;exact i.o
theorem NC (d:Nat) (hd:d<D+L+G) (m:∀ i,i≠d->A.sv.testBit i=ZU->S.testBit i=ZU):ZQ ZM 39 #[Z6 (ZV ⟨ar,0,ZW⟩),Z7 Z9 d] w (ir w ar v p D L G t Kind ps xs A F S):=by
 have n:∀ (args:Array ZR) (w:ZS),(callFunc 53 args).run ZM w=.ok (.enter 53 args) w:=U5 func53 ei rfl;have b:bW w ((w.alloc (Z4 #[Z6 (ZV ⟨ar,0,ZW⟩)] 103)).alloc (Z4 #[Z7 Z9 d] 3)):=(bA w _).alloc ek _;have a:ZN ((w.alloc (Z4 #[Z6 (ZV ⟨ar,0,ZW⟩)] 103)).alloc (Z4 #[Z7 Z9 d] 3)) w.heap.size 103 (Z6 (ZV ⟨ar,0,ZW⟩)):=(Us w _ _).alloc _;have c:ZN ((w.alloc (Z4 #[Z6 (ZV ⟨ar,0,ZW⟩)] 103)).alloc (Z4 #[Z7 Z9 d] 3)) (w.heap.size+1) 3 (Z7 Z9 d):=by
  have:=Us (w.alloc (Z4 #[Z6 (ZV ⟨ar,0,ZW⟩)] 103)) 3 (Z7 Z9 d);rwa [Ul] at this
 obtain ⟨w1,q⟩:=nM ((w.alloc (Z4 #[Z6 (ZV ⟨ar,0,ZW⟩)] 103)).alloc (Z4 #[Z7 Z9 d] 3));rw [q] at b a c;have g:=h.below b;have k:=G6 g 53 #[Z6 (ZV ⟨w.heap.size,0,ZW⟩),Z6 (ZV ⟨w.heap.size+1,0,ZW⟩)] n λw2 f=>AY (g.below f) hv hnb hT hlo d hd m ((f.block _ a.lt).trans a) ((f.block _ c.lt).trans c);have r:=a.cell;have H:=al k b;clear k b a c g h hv;go_enter func39,ntmps39;go_wp2_with fail;refine H.o.1.mono ?_;rintro e w' j;obtain rfl:=j.1;have l:=ak (j.before H.o.2);clear j;go_wp2;go_ret;exact l.o
theorem aag (hs:ZN w sa 105 (Z6 (ZV ⟨ar,0,ZW⟩))):ZQ ZM 21 #[Z6 (ZV ⟨sa,0,ZW⟩)] w (ir w ar v p D L G t Kind ps xs A F S):=by
 have cs:=hs.cell;have hc:=aaf h hv hnb hT hlo;clear h hv hs;go_enter func21,ntmps21;go_wp2_with fail;refine hc.mono ?_;rintro e w' ⟨rfl,a⟩;have b:=ak a;clear a;go_wp2;go_ret;exact ⟨rfl,b.o⟩
theorem ND (hs:ZN w sa 105 (Z6 (ZV ⟨ar,0,ZW⟩))) (d:Nat) (hd:d<D+L+G) (c:∀ i,i≠d->A.sv.testBit i=ZU->S.testBit i=ZU):ZQ ZM 19 #[Z6 (ZV ⟨sa,0,ZW⟩),Z7 Z9 d] w (ir w ar v p D L G t Kind ps xs A F S):=by
 have cs:=hs.cell;have hc:=NC h hv hnb hT hlo d hd c;clear h hv hs;go_enter func19,ntmps19;go_wp2_with fail;refine hc.mono ?_;rintro e w' ⟨rfl,a⟩;have b:=ak a;clear a;go_wp2;go_ret;exact ⟨rfl,b.o⟩
end
end
section
def Pz (l:List qP) (k:Nat) (a:k<l.length):l[k].d.length<=gy l:=by
 have:=rN l k a;have:=DL l (k+1);omega
def Tnd (M:List (Nat×Nat)) (A:az):Prop:=∀ i b,A.tn i b=ZU->(i,b)∈M
def DT (lo:Nat->Prop) (S:Nat) (M:List (Nat×Nat)) (A:az):Prop:=A.sv=S/\Tnd M A/\∀ i,i<A.n->A.lost i=ZU->lo i
def HlR (k S:Nat) (M:List (Nat×Nat)) (A:az):Prop:=(∀ i,A.sv.testBit i=ZU->k<=i/\S.testBit i=ZU)/\Tnd M A/\∀ i,i<A.n->A.lost i=ZT
def G7 (M:List (Nat×Nat)) (A:az):Prop:=(∀ i,i<A.n->A.sv.testBit i=ZT)/\Tnd M A
section
variable {M:List (Nat×Nat)} {A B:az} {S:Nat}
def Tnd.Tp (h:Tnd M A) (k:dJ A B):Tnd M B:=λi b q=>h i b (by rw [<- k.tn];exact q)
def DT.Tp (h:DT lo S M A) (k:dJ A B):DT lo S M B:=⟨k.sv.trans h.1,h.2.1.Tp k,λi a q=>h.2.2 i (k.n▸a) (by rw [<- k.lost];exact q)⟩
def G7.Tp (h:G7 M A) (k:dJ A B):G7 M B:=⟨λi a=>by rw [k.sv];exact h.1 i (k.n▸a),h.2.Tp k⟩
end
section
variable {KW w w0 wr:ZS} {C:az->Prop} {wb D L G nb T:Nat}
def MS.turns (h:MS KW C w0 w wb D L G nb T) {k:Nat} {cs:Array ZR} (a:KW.heap[k]?=ZV (Z4 cs 58 (0,0))):w.heap[k]?=ZV (Z4 cs 58 (0,0)):=by
 obtain ⟨t,xs,Q,p,r,sa,ar,v,Kind,ps,pg,ob,P,A,F,out,want,cache,_,b,_⟩:=h;exact (b.mks k cs _ (.inr rfl) a).trans a
def MS.below (h:MS KW C w0 w wb D L G nb T) (a:bW w w'):MS KW C w0 w' wb D L G nb T:=by
 obtain ⟨t,xs,Q,p,r,sa,ar,v,Kind,ps,pg,ob,P,A,F,out,want,cache,c,b,d⟩:=h;exact ⟨t,xs,Q,p,r,sa,ar,v,Kind,ps,pg,ob,P,A,F,out,want,cache,c.below a,b.keep (iZ.below a _) lR,d⟩
def Trn (w w':ZS):Prop:=∀ (k:Nat) (cs:Array ZR),w.heap[k]?=ZV (Z4 cs 58 (0,0))->w'.heap[k]?=ZV (Z4 cs 58 (0,0))
def NF {A:az} (e:aA w p A F) (f:aa (λj=>F.S j\/mkK w0 w j) w w'):Trn w w':=λk cs a=>(f.block k (TX.1 a).1 λq=>q.elim (λq=>by
 obtain ⟨cs',T',b,d⟩:=e.kind q;rw [a] at b;simp only [UB,UQ] at b;have c:=b.2.1;rcases d with k|k|k|k<;>exact absurd (c.trans k) ee) (mkK.no a ee)).trans a
def MS.Sf (h:MS KW (G7 M) w0 w wb D L G nb T) (hT:gu D L G S) (lo:Nat->Prop):MS KW (DT lo S M) w0 w wb D L G nb T:=by
 obtain ⟨t,xs,Q,p,r,sa,ar,v,Kind,ps,pg,ob,P,A,F,out,want,cache,b,f,g,c⟩:=h;have d:∀ i,i<A.n->A.sv.testBit i=ZU->∀ {q:Prop},q:=λi a e=>by rw [c.1 i a] at e;cases e
 have hl:∀ i,i<A.n->A.lost i=ZU->∀ {q:Prop},q:=λi a e=>d i a (b.live.fine.2 i a e);exact ⟨t,xs,Q,p,r,sa,ar,v,Kind,ps,pg,ob,P,A.Sf S,F,out,want,cache,{ b with live:=b.live.Sf hT (λi a e=>hl i a e) λ_ _ i a _ e=>d i a e,nb:=b.nb },f,g,rfl,c.2,λi a e=>hl i a e⟩
def MS.here {d:Nat} (h:MS KW (DT lo S M) w0 w wb D L G nb T) (hd:S.testBit d=ZT):MS KW (DT (λi=>lo i/\i≠d) S M) w0 w wb D L G nb T:=by
 obtain ⟨t,xs,Q,p,r,sa,ar,v,Kind,ps,pg,ob,P,A,F,out,want,cache,b,j,k,a,f,g⟩:=h;exact ⟨t,xs,Q,p,r,sa,ar,v,Kind,ps,pg,ob,P,A,F,out,want,cache,b,j,k,a,f,λi c e=>⟨g i c e,λq=>by
  have:=b.live.fine.2 i c e;rw [a,q,hd] at this;cases this⟩⟩
def MS.all (h:MS KW (DT (λi=>D+L+G<=i) S M) w0 w wb D L G nb T):MS KW (HlR 0 S M) w0 w wb D L G nb T:=by
 obtain ⟨t,xs,Q,p,r,sa,ar,v,Kind,ps,pg,ob,P,A,F,out,want,cache,a,f,j,b,c,d⟩:=h;exact ⟨t,xs,Q,p,r,sa,ar,v,Kind,ps,pg,ob,P,A,F,out,want,cache,a,f,j,λi e=>⟨T8 _,b▸e⟩,c,λi g=>VT.2 λe=>by
  have:=d i g e;have:=a.live.vol.n;omega⟩
def MS.done (h:MS KW (HlR (D+L+G) S M) w0 w wb D L G nb T):MS KW (G7 M) w0 w wb D L G nb T:=by
 obtain ⟨t,xs,Q,p,r,sa,ar,v,Kind,ps,pg,ob,P,A,F,out,want,cache,a,d,f,b,c,g⟩:=h;exact ⟨t,xs,Q,p,r,sa,ar,v,Kind,ps,pg,ob,P,A,F,out,want,cache,a,d,f,λi j=>VT.2 λe=>by
  have:=(b i e).1;have:=a.live.vol.n;omega,c⟩
def NG {tv:ZR} (h:MS KW (DT (λ_=>lk) S M) w0 wr wb D L G nb T) (R:Mk w0 wr tv M) (K:M.length<=m) (O:S<18446744073709551616) (f:Nr) (w:ai wr q 60 f.cs) (V:m+1<=1000000) (z:0<nb) (C:nb<=1000) (at_:Int) (U:f.kind=0->lk) :
 ZQ ZM 10 #[Z6 (ZV ⟨wb,0,ZW⟩),Z7 Z8 (S:Nat),Z5 (ZV ⟨q,0,ZW⟩) 1 1,Z7 Z9 at_,tv] wr λe w'=>∃ b d,e=Z3 b/\MS w' (DT (λ_=>lk) S d) w0 w' wb D L G nb T/\Mk w0 w' b d/\d.length<=m+1/\Trn wr w':=by
 obtain ⟨t,xs,Q,p,r,sa,ar,v,Kind,ps,pg,ob,P,A,F,out,want,cache,a,J,X,l⟩:=h;have I:FW w0 wr wb D L G nb p A F M tv:=⟨⟨_,_,_,_,_,a.wbA⟩,⟨a.live.vol.arr,l.2.1⟩,R,a.live.vol.n,a.nb,a.base.size⟩;have x:wr.heap[q]?=ZV (Z4 _ 60 (0,0)):=w;refine (JR (fl:=[f]) I a.live.vol.par z C O (λwx N=>?_) K V at_ λg W=>by rw [U6.1 W];exact U).mono ?_
 . have c:ai wx q 60 f.cs:=w.keep (N.block _ w.lt λe=>e.elim (λe=>by
    obtain ⟨cs',T',o,hc⟩:=a.live.vol.arr.kind e;rw [x] at o;simp only [UB,UQ] at o;have y:=o.2.1;rcases hc with k|k|k|k<;>exact absurd (y.trans k) ee) (mkK.no x ee))
   refine ⟨_,_,rfl,λ_=>⟨q,0,rfl,c.lt,λi u=>?_⟩⟩;obtain rfl:i=0:=(by simp at u;omega);exact ⟨c.cell rfl,c.cell rfl,c.cell rfl,c.cell rfl,c.cell rfl⟩
 rintro e w' ⟨b,B,F',d,rfl,s,j,hl⟩;obtain ⟨E,H⟩:=a.fault J s.ru.1 j l.1;exact ⟨b,d,rfl,⟨_,_,_,_,_,_,_,_,_,_,_,_,_,_,_,_,_,_,E,H,X,j.rus.sv.trans l.1,s.ru.2,λi u e=>(j.rus.lost i e).elim (l.2.2 i (j.rus.n▸u)) And.left⟩,s.mrk,hl,NF a.live.vol.arr j.out⟩
def PA (y:∀ A B,dJ A B->C A->C B) (h:MS KW C w0 w wb D L G nb T) (o:qP) (b:ZR) (hd:Bs w0 b o.d) (H:o.d.length<=100000) (hT:T<1000000) (z:D<=6) (x:8<=nb) (J:o.kind<=5) :
 ZQ ZM 13 #[Z6 (ZV ⟨wb,0,ZW⟩),.agg #[Z7 Z9 o.kind,Z7 Z9 o.a,ZZ o.s,b]] w λe w'=>e=Z3 (Z1 ZU)/\MS KW C w0 w' wb D L G nb (T+1):=by
 obtain ⟨t,xs,Q,p,r,sa,ar,v,Kind,ps,pg,ob,P,A,F,out,want,cache,c,f,K,n⟩:=h;have g:∃ j m l,b=.slice j m l:=by obtain ⟨j,l,e,_⟩:=hd;exact ⟨j,_,l,e⟩
 have i:∀ (e:ZP) (w':ZS),e=Z3 (Z1 ZU)/\MS KW (dJ A) w0 w' wb D L G nb (t+1)->e=Z3 (Z1 ZU)/\MS KW C w0 w' wb D L G nb (T+1):=λe w' q=>⟨q.1,q.2.mono ec λB k=>y A B k n⟩;by_cases I:o.kind<1\/6<o.kind
 . exact (JP c f o b g I (dJ.refl A)).mono i
 by_cases k1:o.kind=1
 . exact (No c f o b hd H ec z k1).mono i
 by_cases k2:o.kind=2
 . refine (DN c f o b g k2).mono ?_;rintro e w' ⟨rfl,_,_,_,_,_,_,u,E⟩;exact ⟨rfl,_,_,_,_,_,_,_,_,_,_,_,_,_,_,_,_,_,_,u,E,ec,n⟩
 by_cases k3:o.kind=3
 . exact (Nk c f o b g ec k3).mono i
 by_cases k4:o.kind=4
 . exact (zg c f o b g k4 (dJ.refl A)).mono i
 . exact (JQ c f (by rw [c.nb];exact x) o b g ec).mono i
end
section
variable {KW w0 w:ZS} {wb D L G nb t:Nat} {xs:aL} {Q:List (ByteArray×ZR)} {p r sa ar v:Nat} {Kind:aR->Prop} {ps:aR} {pg ob:ZR} {P:a8} {A:az} {F:aK} {out want:ZR} {cache:Int} {M:List (Nat×Nat)} {S:Nat} (h:MB w0 w wb D L G nb t xs p r sa ar v Kind ps pg ob P A F out want cache) (hc:Dc KW w r Q xs out want)
include h hc
def F3 (a:8<=nb) :
 ZQ ZM 11 #[Z6 (ZV ⟨wb,0,ZW⟩)] w λe w'=>e=Z3 (Z1 ZU)/\MS KW (dJ A) w0 w' wb D L G nb t:=
 vM ⟨h.wbA,⟨_,rfl⟩,⟨h.live.vol.arr,h.live.vol.n,h.live.vol.par,h.cb.1,h.cb.2,by rw [h.nb];exact a,h.live.nb,h.live.vol.laid,h.live.vol.tab,h.live.vol.room,h.live.vol.g,h.live.vol.t,.inr ⟨h.live.turn,P,h.live.disk⟩,h.live.fine⟩,h.nb,h.base,h.glob,h.hK,h.wbB,h.fB⟩ hc
def zj (q:ir w ar v p D L G t Kind ps xs A F S e w'):e=Z3 .nilIface/\MS KW (Alv A S) w0 w' wb D L G nb t:=by
 obtain ⟨rfl,⟨g,f,P',ps',B,hl,⟨k1,k2⟩,a⟩,d⟩:=q;obtain ⟨c,b⟩:=h.Tt d hl a.2.nb k1 k2;exact ⟨rfl,_,_,_,_,_,_,_,_,_,_,_,_,_,_,_,_,_,_,c,hc.keep b lR,TV _,a⟩
def NH (a:DT (λ_=>False) S M A) :
 ZQ ZM 21 #[Z6 (ZV ⟨sa,0,ZW⟩)] w λe w'=>e=Z3 .nilIface/\MS KW (G7 M) w0 w' wb D L G nb t:=
 (aag h.live h.shv (e9 h.live.disk.room) (lQ h.live.fine.1 λi q=>ZI) (λi c=>VT.2 (a.2.2 i c)) h.box).mono λe w' q=>by
  obtain ⟨rfl,d⟩:=zj h hc q;exact ⟨rfl,d.mono lR λB k=>⟨λi _=>by rw [k.1];exact V7 i,λi b e=>a.2.1 i b (by rw [<- k.2.tn];exact e)⟩⟩
def F4 {d:Nat} (a:HlR d S M A) (hd:d<D+L+G) :
 ZQ ZM 19 #[Z6 (ZV ⟨sa,0,ZW⟩),Z7 Z9 d] w λe w'=>e=Z3 .nilIface/\MS KW (HlR (d+1) S M) w0 w' wb D L G nb t:=
 (ND (S:=bB A.sv d) h.live h.shv (e9 h.live.disk.room) (lQ h.live.fine.1 λi q=>(by rw [fu,VJ] at q;exact q.2)) a.2.2 h.box d hd λi c q=>by
  rw [fu,q,Bool.and_true,V4];have:=(a.1 i q).1;omega).mono λe w' q=>by
  obtain ⟨rfl,f⟩:=zj h hc q;refine ⟨rfl,f.mono lR λB k=>⟨λi e=>?_,λi b e=>a.2.1 i b (by rw [<- k.2.tn];exact e),λi c=>?_⟩⟩
  . rw [k.1,fu,VJ,V4] at e;exact ⟨e.1,(a.1 i e.2).2⟩
  . have e:B.lost=A.lost:=k.2.lost;rw [e];exact a.2.2 i (k.2.n▸c)
def NI {d:Nat} (a:DT (λi=>d<=i) S M A) (hd:d<D+L+G) (m:S.testBit d=ZU) :
 ZQ ZM 18 #[Z6 (ZV ⟨p,0,ZW⟩),Z7 Z9 d] w λe w'=>e=Z3 (ZY #[])/\MS w' (DT (λi=>d+1<=i) S M) w0 w' wb D L G nb t/\Trn w w'/\(∀ {tv},Mk w0 w tv M->Mk w0 w' tv M):=by
 refine (yS ⟨h.live.vol.arr,a.2.1⟩ d (by rw [h.live.vol.n];exact hd)).mono ?_;rintro e w' ⟨rfl,b,F',c,l⟩;have f:Fq False w0 w S A F (A.renew d) F' w':=⟨b.mono λ_ _=>.inl,nG.renew A m,l⟩;obtain ⟨j,k⟩:=h.fault hc c.1 f a.1;refine ⟨rfl,⟨_,_,_,_,_,_,_,_,_,_,_,_,_,_,_,_,_,_,j,k,TV _,a.1,c.2,λi o e=>?_⟩,NF h.live.vol.arr f.out,λq=>q.arr h.live.vol.arr b⟩;by_cases q:i=d
 . simp [az.renew,q] at e
 . have g:A.lost i=ZU:=(by simpa [az.renew,q] using e);have:=a.2.2 i o g;omega
end
end
def abj (w5:ZS) (N:Nat) (sv iv:ZR) (wr:ZS):Prop:=∃ S k:Nat,sv=Z7 Z8 (S:Nat)/\S<18446744073709551616/\k<=N/\iv=Z7 Z9 (k:Nat)/\bW w5 wr
def PC (D L G:Nat) (w:ZS) (e:ZP) (w':ZS):Prop:=∃ S:Nat,e=Z3 (Z7 Z8 (S:Nat))/\S<18446744073709551616/\gu D L G S/\bW w w'
theorem F6 (a:wt D L G) (f:Nat) (R:f<18446744073709551616) (w:ZS) :
 ZQ ZM 7 #[.agg #[Z7 Z9 (D:Nat),Z7 Z9 (L:Nat),Z7 Z9 (G:Nat)],Z7 Z8 (f:Nat)] w (PC D L G w):=by
 have F:bW w (w.alloc (Z4 #[Z7 Z9 (D:Nat),Z7 Z9 (L:Nat),Z7 Z9 (G:Nat)] 27)):=bA w _;have b:ai (w.alloc (Z4 #[Z7 Z9 (D:Nat),Z7 Z9 (L:Nat),Z7 Z9 (G:Nat)] 27)) w.heap.size 27 [Z7 Z9 (D:Nat),Z7 Z9 (L:Nat),Z7 Z9 (G:Nat)]:=UC w _;obtain ⟨w1,k5⟩:=nM (w.alloc (Z4 #[Z7 Z9 (D:Nat),Z7 Z9 (L:Nat),Z7 Z9 (G:Nat)] 27));rw [k5] at F b;obtain ⟨q,hq⟩:=nM (w.heap.size);have K:=ak F;rw [hq] at b;have p0:=b.cell (j:=0) (u:=Z7 Z9 (D:Nat)) rfl;have p1:=b.cell (j:=1) (u:=Z7 Z9 (L:Nat)) rfl;have p2:=b.cell (j:=2) (u:=Z7 Z9 (G:Nat)) rfl;have k0:=Ee (D:Int) (L:Int) (G:Int) w1;have M:=ak b;clear b F;go_enter func7,ntmps7;go_wp2_with fail;clear p0 p1 p2;refine k0.mono ?_;rintro e w2 ⟨rfl,p⟩;clear k0 k5;have H:=M.o.keep (p.block _ M.o.lt);have t:bW w2 (w2.alloc (Z4 #[Z7 Z9 (D:Int),Z7 Z9 (L:Int),Z7 Z9 (G:Int)] 70)):=bA w2 _;have x:ai (w2.alloc (Z4 #[Z7 Z9 (D:Int),Z7 Z9 (L:Int),Z7 Z9 (G:Int)] 70)) w2.heap.size 70 [Z7 Z9 (D:Int),Z7 Z9 (L:Int),Z7 Z9 (G:Int)]:=UC w2 _;obtain ⟨J,k6⟩:=nM (w2.alloc (Z4 #[Z7 Z9 (D:Int),Z7 Z9 (L:Int),Z7 Z9 (G:Int)] 70));rw [k6] at t x;obtain ⟨q2,ke⟩:=nM (w2.heap.size);rw [ke] at x;have v:=H.keep (t.block _ H.lt);have c0:=v.cell (j:=0) (u:=Z7 Z9 (D:Nat)) rfl;have c1:=v.cell (j:=1) (u:=Z7 Z9 (L:Nat)) rfl;have c2:=v.cell (j:=2) (u:=Z7 Z9 (G:Nat)) rfl;have Q:=ak (K.o.trans ((p.trans (t.mono p.size)).mono K.o.size));have HT:=ak x;obtain ⟨N,hN⟩:=nM (D+L+G);have O:N<=16:=e9 a.s
 have hz:ZQ ZM 9 #[.agg #[Z7 Z9 (D:Nat),Z7 Z9 (L:Nat),Z7 Z9 (G:Nat)]] J λe w'=>e=Z3 (Z7 Z9 (N:Nat))/\bW J w':=by
  rw [<- hN,(ec:((D+L+G:Nat):Int)=(D:Int)+L+G)];have:=a.d;have:=a.l4;have:=a.g;exact du (D:Int) (L:Int) (G:Int) J ⟨ec,ec⟩ ⟨ec,ec⟩ ⟨ec,ec⟩
 clear H v p t x;go_wp2_with fail;clear k6 c0 c1 c2;refine hz.mono ?_;rintro e w4 ⟨rfl,V⟩;have l:=ak V;clear hz V;have hy:2^N<=2^16:=UY ee O;obtain ⟨X,E⟩:=nM (2^N);rw [E] at hy;have k7:(2:Int)^N=(X:Nat):=by rw [<- E,Xu];rfl
 have ka:0<X:=by rw [<- E];exact VO N
 have k8:IntKind.u64.wrap ((X:Int)-1)=((X-1:Nat):Int):=K1
 have k9:IntKind.u64.wrap (X:Int)=(X:Int):=K1
 have U:=fH f (X-1) R ec;have C:f &&& (X-1)<18446744073709551616:=WX WL R;obtain ⟨S1,T⟩:=nM (f &&& (X-1));rw [T] at U C;clear T;go_wp2_with fail;go_loopw [1,7] (λsv I wr=>abj w4 N sv I wr) (λ_ I _=>N-(intOf I).toNat)
 case atStart=>exact ⟨S1,0,rfl,C,T8 _,rfl,TW _ _⟩
 case round=>
  clear U k7 k8 k9 hy ka C;obtain ⟨S,k,rfl,A,hk,rfl,h⟩:=hrel;have m:bW w wr:=Q.out.trans ((l.out.trans (h.mono l.out.size)).mono Q.out.size);by_cases kc:k<N
  . have y:=HT.o.keep ((h.block _ (T7 HT.o.lt l.out.size)).trans (l.out.block _ HT.o.lt));have t0:=y.cell (j:=0) (u:=Z7 Z9 (D:Int)) rfl;have t1:=y.cell (j:=1) (u:=Z7 Z9 (L:Int)) rfl;have t2:=y.cell (j:=2) (u:=Z7 Z9 (G:Int)) rfl;have hs:=pW D L G S a.r a.d a.l1 a.l4 a.g a.div A wr;have c:=al h m;have he:(k:Int)<(N:Int):=ec;clear h m y;go_wp2_with fail;clear t0 t1 t2;refine hs.mono ?_;rintro e w5 ⟨bb,rfl,Z,W⟩;have B:=al Z W;clear Z W hs;cases bb
    . have kb:2^k<65536:=T7 (VE ee kc) (UY (n:=2) (i:=N) (j:=16) ee O);obtain ⟨Y,P⟩:=nM (2^k);rw [P] at kb;have kf:(2:Int)^k=(Y:Nat):=(by rw [<- P,Xu];rfl);have kg:IntKind.u64.wrap (Y:Int)=(Y:Int):=K1;have hv:=Yb S Y A ec;have hx:yG S Y<18446744073709551616:=WX (WL:yG S Y<=S) A;have hc:bits .andNot .u64 (S:Int) (Y:Int)=((yG S Y:Nat):Int):=hv;clear hv;generalize yG S Y=z at hc hx;go_wp2;go_roundw
      case rel=>exact ⟨z,k+1,rfl,hx,ec,eT,c.o.1.trans (B.o.2.mono c.o.1.size)⟩
      case measure=>simp [intOf];omega
    . go_wp2;go_ret;exact ⟨S,rfl,A,B.o.1.1 (by trivial),c.o.2.trans (B.o.2.mono c.o.2.size)⟩
  . have he:¬ (k:Int)<(N:Int):=ec;have c:=ak m;clear h m;go_wp2;go_ret;exact ⟨0,rfl,ee,zf a.d a.g λi _=>by rw [Nat.zero_div],c.o⟩
theorem JU (f:wt D L G) (k6:8<=nb) (Y:nb<=1000) (c:Int) (X:bK w) (hv:bV w) (O:aG w) (hK:3<=w.heap.size) :
 ZQ ZM 16 #[.agg #[Z7 Z9 (D:Nat),Z7 Z9 (L:Nat),Z7 Z9 (G:Nat)],Z7 Z9 (nb:Nat),Z7 Z9 c] w λe w'=>∃ wb,e=Z3 (ZY #[Z6 (ZV ⟨wb,0,ZW⟩),Z1 ZU])/\MS w (dJ (pO (D+L+G) nb 0)) w w' wb D L G nb 1:=by
 obtain ⟨t,k7,x⟩:=jn c 65 ee ee;have I:wrap64 ((IntKind.u64.wrap c).tmod 65)=(t:Int):=oD x
 clear x;obtain ⟨w1,H⟩:=nM (w.alloc (Z4 #[Z7 Z9 (D:Nat),Z7 Z9 (L:Nat),Z7 Z9 (G:Nat)] 27));have y:ai w1 w.heap.size 27 [Z7 Z9 (D:Nat),Z7 Z9 (L:Nat),Z7 Z9 (G:Nat)]:=by rw [<- H];exact UC w _
 have x0:=y.cell (j:=0) (u:=Z7 Z9 (D:Nat)) rfl;have x1:=y.cell (j:=1) (u:=Z7 Z9 (L:Nat)) rfl;have x2:=y.cell (j:=2) (u:=Z7 Z9 (G:Nat)) rfl;have hs:bW w w1:=by rw [<- H];exact bA w _
 have S:=qI (D:Int) (L:Int) (G:Int) w1 ⟨ec,e9 f.d⟩ ⟨ec,e9 f.l4⟩ ⟨ec,e9 f.g⟩;have v:=al y hs;clear y hs;go_enter func16,ntmps16;go_wp2_with fail;refine S.mono ?_;rintro e w2 ⟨rfl,T⟩;have hc:bW w1 w2:=by rw [T];exact bA w1 _
 clear T H x0 x1 x2 S;have E:=Af (D+L+G) nb 0 w2 (e9 f.d1) (e9 f.s) ec;rw [(ec:((D+L+G:Nat):Int)=(D:Int)+(L:Int)+(G:Int))] at E;go_wp2_with fail;refine E.mono ?_;rintro e a ⟨rfl,r,F,n,b⟩;have h:bW w w2:=v.o.2.trans (hc.mono v.o.2.size);have l:bW w a:=h.trans (r.mono h.size);have B:ai a w.heap.size 27 _:=v.o.1.keep ((r.block _ (T7 v.o.1.lt hc.size)).trans (hc.block _ v.o.1.lt));have y0:=B.cell (j:=0) (u:=Z7 Z9 (D:Nat)) rfl;have y1:=B.cell (j:=1) (u:=Z7 Z9 (L:Nat)) rfl;have y2:=B.cell (j:=2) (u:=Z7 Z9 (G:Nat)) rfl;obtain ⟨p,A⟩:=nM (w2.heap.size);rw [A] at n b ⊢;have U:=a7 n b l r A h;clear n b l r A h B E hc;dsimp only;go_wp2_with fail;obtain ⟨w5,z⟩:=nM ((a.alloc (Z4 #[Z5 ZW 0 0] 38)).alloc (Z4 #[Z7 Z9 (D:Nat),Z7 Z9 (L:Nat),Z7 Z9 (G:Nat),Z6 (ZV ⟨p,0,ZW⟩),.pointer ZW,Z6 (ZV ⟨a.heap.size,0,ZW⟩),Z7 Z9 (nb:Nat),Z5 ZW 0 0,Z5 ZW 0 0,Z7 Z9 (t:Nat)] 42));have R:w5.heap[a.heap.size]?=ZV (Z4 #[Z5 ZW 0 0] 38 (0,0)):=by rw [<- z];exact (UF _ _ _ ek).trans (UC a _)
 have M:iq w5 (a.heap.size+1) D L G (Z6 (ZV ⟨p,0,ZW⟩)) (.pointer ZW) (Z6 (ZV ⟨a.heap.size,0,ZW⟩)) nb (Z5 ZW 0 0) (Z5 ZW 0 0) (t:Int):=by
  rw [<- z];have:=UC (a.alloc (Z4 #[Z5 ZW 0 0] 38)) (Z4 #[Z7 Z9 (D:Nat),Z7 Z9 (L:Nat),Z7 Z9 (G:Nat),Z6 (ZV ⟨p,0,ZW⟩),.pointer ZW,Z6 (ZV ⟨a.heap.size,0,ZW⟩),Z7 Z9 (nb:Nat),Z5 ZW 0 0,Z5 ZW 0 0,Z7 Z9 (t:Nat)] 42);rw [Ul] at this;exact this
 have C:bW a w5:=by rw [<- z];exact (bA a _).alloc ek _
 obtain ⟨n,b,l,r,A,h⟩:=U.o;have m:bW w w5:=l.trans (C.mono l.size);have W:bW w5 w5.drew:=(TW _ w5).drew;have Z:=h.size;have hm:=l.size;have J:aA w5 p (pO (D+L+G) nb 0) F:=n.below C lR;have N:AB w w5 (a.heap.size+1) D L G nb 1 p a.heap.size (.pointer ZW) [] (pO (D+L+G) nb 0) F (Z5 ZW 0 0) (Z5 ZW 0 0) (t:Int) (t:Int):=⟨M,⟨_,rfl⟩,⟨J,rfl,f,ec,ec,k6,Y,hv.below m hv.lt,O.keep (m.block _ O.lt),TU hK m.size,λq=>e9 (b _ q),λq=>e9 (b _ q),.inl ⟨rfl,rfl,λi _=>⟨rfl,λq=>acy⟩⟩,zf f.d f.g λi _=>by simp [pO],λi _ q=>acy⟩,rfl,m,X,hK,ec,λk hk=>e9 (b k hk)⟩;have P:Dc w w5 a.heap.size [] [] (Z5 ZW 0 0) (Z5 ZW 0 0):=⟨⟨a.heap.size+1,Z5 ZW 0 0,R,UK _ _ _ _⟩,trivial,⟨⟨_,_,_,rfl,ee⟩,⟨_,_,_,rfl,ee⟩⟩,λk _ _ _ q=>m.block k (TX.1 q).1⟩;have Q:=vM N P;clear R M C n b l r A h m W Z hm J N P;rw [z];refine Q.mono ?_;rintro e w6 ⟨rfl,K⟩;have V:=ak K;clear K Q z;dsimp only;go_wp2;go_ret2;exact ⟨_,rfl,V.o⟩
section
open Go.ChangeShapes Go.WideShapes Go.Joins
structure Tn where
 set:Nat
 fl:List Nr
 sc:List qP
 rep:Bool
def Tn.at (w:ZS) (t:Tn) (cs:List ZR):Prop:=∃ fv sv,cs=[Z7 Z8 (t.set:Nat),fv,sv,Z1 t.rep]/\t.set<18446744073709551616/\Fts w fv t.fl/\Scr w sv t.sc/\∀ x∈t.sc,x.s.size<=140737488355328/\x.d.length<=140737488355328
def Tns (w:ZS) (v:ZR) (l:List Tn):Prop:=
 ∃ ao c,v=.slice ao l.length c/\(l≠[]->∃ b off,ao=ZV ⟨b,off,ZW⟩/\b<w.heap.size/\∀ i (hi:i<l.length),∃ cs,l[i].at w cs/\∀ j,j<4->w.cell? ⟨b,off+i*4+j,ZW⟩=cs[j]?)
def Tryz.Ss:ZM.cellsOf 58=4:=ei
def Tryz.Te:ZM.cellsOf 23=1:=ei
def Tryz.SW:ZM.cellsOf 4=1:=ei
def Tryz.Ta:ZM.cellsOf 22=1:=ei
def Tryz.SD:ZM.cellsOf 24=1:=ei
instance:Inhabited Tn:=⟨⟨0,[],[],ZT⟩⟩
def vS {enc:ZO×ZR->H} {t e:ZO} {v:ZR} {x:DataW H×List MemPlace} (d:ZM.underlying t=ZV (.slice e)) (h:DataW.trod enc ZM W 0 (λ_=>ZU) ZU n t [v]=ZV x):∃ ao m c,v=.slice ao m c:=by
 rcases open_slice d h with ⟨b,_⟩|⟨a,len,cap,m,g,D,f,b,_⟩
 . exact ⟨_,_,_,oD b⟩
 . exact ⟨_,_,_,oD b⟩
def AZ {enc:ZO×ZR->H} {cs:List ZR} {x:DataW H×List MemPlace} (h:DataW.trod enc ZM W 0 (λ_=>ZU) ZU n 58 cs=ZV x) (s:∀ k∈x.1.weights ZM 58,k<=reachBytes):∃ o:Tn×List ZR,cs=o.2/\o.1.at W cs:=by
 obtain ⟨B,e,f,C,m,rfl,hl,t,l,p,u⟩:=trod_struct4 underlying58 h;rw [Tryz.Ss] at hl;obtain ⟨a,b,c,d,rfl⟩:=Nq hl;obtain ⟨g,i,_,w0⟩:=W9 underlying23 t;obtain ⟨D,j,_⟩:=DataW.trod_bool underlying4 u;rw [show ZM.cellsOf 23=1 from Tryz.Te] at i;rw [show ZM.cellsOf 4=1 from Tryz.SW] at j;rw [show ZM.cellsOf 24=1 from Tryz.SD] at l;rw [show ZM.cellsOf 22=1 from Tryz.Ta] at p;simp at i j;subst i j;have q:DataW.trod enc ZM W 0 (λ_=>ZU) ZU m 24 [b]=ZV e:=oD l
 have r:DataW.trod enc ZM W 0 (λ_=>ZU) ZU m 22 [c]=ZV f:=oD p
 obtain ⟨ao,G,cl,rfl⟩:=vS underlying24 q;obtain ⟨E,mk,ck,rfl⟩:=vS underlying22 r;simp only [DataW.weights,underlying58] at s;obtain ⟨fl,v⟩:=vP (d:=e.1) (ps:=e.2) ⟨m,q⟩;obtain ⟨sc,w,y⟩:=vN (d:=f.1) (ps:=f.2) ⟨m,r⟩ (λk A=>s k (by
  show k∈B.1.weights ZM _++(e.1.weights ZM _++(f.1.weights ZM 22++(C.1.weights ZM _++[])));simp only [Ui];exact .inr (.inr (.inl A))))
 have:(0:Int)<=g/\g<=18446744073709551615:=by simpa [Lit.wf,IntKind.min,IntKind.max,IntKind.bits,IntKind.signed] using w0
 obtain ⟨S,z,rfl⟩:∃ S:Nat,S<18446744073709551616/\g=(S:Int):=⟨g.toNat,ec,ec⟩;exact ⟨(⟨S,fl,sc,D⟩,_),rfl,_,_,rfl,z,v,w,y⟩
def wP {enc:ZO×ZR->H} {d:DataW H} {ps:List MemPlace} (h:DataW.Trod enc ZM W 0 (λ_=>ZU) ZU 54 (.slice ao len0 cap0) d ps) (w:∀ n∈d.weights ZM 54,n<=reachBytes) :
 ∃ l:List Tn,Tns W (.slice ao len0 cap0) l:=by
 obtain ⟨fuel,q⟩:=h;rcases open_slice underlying54 q with ⟨c,_⟩|⟨a,len,cap,m,N,D,L,c,_,hl,M,u,x,t⟩
 . simp [Value.cells] at c;obtain ⟨rfl,rfl,rfl⟩:=c;exact ⟨[],ZW,0,rfl,λh=>absurd rfl h⟩
 . simp [Value.cells] at c;obtain ⟨rfl,rfl,rfl⟩:=c;simp only [WW] at x;obtain ⟨rfl,_⟩:=x;simp only [DataW.weights,underlying54] at w;simp only [if_true] at u;have A:=u.symm;subst A;rw [Tryz.Ss] at t;obtain ⟨f,q⟩:=choose_lt (α:=Tn×List ZR) (n:=len0) (p:=λi s=>s.1.at W s.2/\∀ j,j<4->W.cell? ((a.add (i*4)).add j)=s.2[j]?) (λi r=>by
    obtain ⟨cs',y,z⟩:=t i ec;obtain ⟨s,v,G⟩:=AZ z (λk J=>w k (UJ _ (UG _ (gT (d:=D i) (T9.2 ⟨i,Ur.2 r,rfl⟩) k J))));obtain ⟨_,_,hc⟩:=ach y;exact ⟨s,v▸G,v▸hc⟩)
   obtain ⟨b,o,sp⟩:=a;refine ⟨(YE len0).map λi=>(f i).1,ZV ⟨b,o,sp⟩,cap0,ek,λF=>?_⟩;have B:0<len0:=by
    rcases WG len0 with e|e
    . subst e;exact absurd rfl F
    . exact e
   obtain ⟨⟨_,_,c,_⟩,g⟩:=q 0 B;have g:=g 0 ee;rw [c] at g;have K:sp=ZW:=by
    have:W.cell? (((⟨b,o,sp⟩:Addr).add (0*4)).add 0)=ZV (Z7 Z8 ((f 0).1.set:Nat)):=g;simpa [Addr.add] using abG this
   subst K;rw [V8,V8] at g;refine ⟨b,o,rfl,Uf (show W.cell? _=ZV _ from g),λi r=>?_⟩;have E:i<len0:=(oD r);obtain ⟨C,hc⟩:=q i E;simp only [UN,YG];refine ⟨(f i).2,C,λj I=>?_⟩;have:=hc j I;rwa [V8,V8] at this
end
def NJ (w:ZS) (e:ZP) (w':ZS):Prop:=e=Z3 (Z1 ZU)/\bW w w'
def Scr.below {v:ZR} {l:List qP} (h:Scr w v l) (a:bW w w'):Scr w' v l:=by
 obtain ⟨ao,c,e,hc⟩:=h;refine ⟨ao,c,e,λhl=>?_⟩;obtain ⟨b,off,g,d,j⟩:=hc hl;refine ⟨b,off,g,T7 d a.size,λi k=>?_⟩;obtain ⟨f,m,n,o,p,q⟩:=j i k;exact ⟨f,(a.cell d).trans m,(a.cell d).trans n,(a.cell d).trans o,(a.cell d).trans p,q.mono a⟩
def HT (w0:ZS) (wb D L G n:Nat) (ok steps tv i:ZR) (wr:ZS):Prop:=∃ (k s:Nat) (M:List (Nat×Nat)),k<=n/\i=Z7 Z9 (k:Nat)/\ok=Z1 ZU/\s<=200/\steps=Z7 Z9 (s:Nat)/\Mk w0 wr tv M/\M.length<=40200*k/\MS wr (G7 M) w0 wr wb D L G 300 (1+1300*k)
def HK (w0:ZS) (wb D L G S T m n tb:Nat) (lk:Prop) (cs:List ZR) (ok tv i:ZR) (wr:ZS):Prop:=∃ (j:Nat) (M:List (Nat×Nat)),j<=n+1/\i=Z7 Z9 ((j:Int)-1)/\ok=Z1 ZU/\Mk w0 wr tv M/\M.length<=m+200*j/\MS wr (DT (λ_=>lk) S M) w0 wr wb D L G 300 (T+j)/\ai wr tb 58 cs
def HF (w0:ZS) (wb D L G S T m n tb:Nat) (lk:Prop) (cs:List ZR) (tv i:ZR) (wr:ZS):Prop:=∃ (j:Nat) (M:List (Nat×Nat)),j<=n/\i=Z7 Z9 (j:Nat)/\Mk w0 wr tv M/\M.length<=m+j/\MS wr (DT (λ_=>lk) S M) w0 wr wb D L G 300 T/\ai wr tb 58 cs
def HN (w0:ZS) (wb D L G S T n:Nat) (M:List (Nat×Nat)) (tv:ZR) (i:ZR) (wr:ZS):Prop:=∃ j:Nat,j<=n/\i=Z7 Z9 (j:Nat)/\Mk w0 wr tv M/\MS wr (DT (λi=>j<=i) S M) w0 wr wb D L G 300 T
def HP (w0:ZS) (wb D L G S T n:Nat) (M:List (Nat×Nat)) (tv:ZR) (ok i:ZR) (wr:ZS):Prop:=∃ j:Nat,j<=n/\i=Z7 Z9 (j:Nat)/\ok=Z1 ZU/\Mk w0 wr tv M/\MS wr (HlR j S M) w0 wr wb D L G 300 T
def MS.mk {C:az->Prop} {tv:ZR} (h:MS KW C w0 w wb D L G nb T) (a:Mk w0 KW tv M):Mk w0 w tv M:=yD a λk b=>by
 obtain ⟨cur,hc⟩:=bw a b;exact h.marks hc
def ai.turns {C:az->Prop} {tb:Nat} {cs:List ZR} (h:ai KW tb 58 cs) (a:MS KW C w0 w wb D L G nb T):ai w tb 58 cs:=a.turns h
theorem JV {tv0:ZR} {l:List Tn} (h:Tns w tv0 l) (a b c:Int) (hg:bK w) (hv:bV w) (ht:aG w) (hK:3<=w.heap.size) :
 ZQ ZM 4 #[tv0,Z7 Z9 a,Z7 Z9 b,Z7 Z9 c] w (NJ w):=by
 obtain ⟨ao,cp,rfl,k6⟩:=h;have H:=a5 k6 hg hv ht;clear k6 hg hv ht;go_enter func4,ntmps4;by_cases yz:l.length<=20;rotate_left
 . have hx:(20:Int)<(l.length:Int):=ec;go_wp2;go_ret;exact ⟨rfl,TW _ _⟩
 have hx:¬ (20:Int)<(l.length:Int):=ec
 go_wp2_with fail;refine (Pt a b c w).mono ?_;rintro e w2 ⟨D,L,G,rfl,hP,ye,xx⟩;have H2:=al hP xx;clear hP xx hx;obtain ⟨y,xk⟩:=nM (w2.alloc (Z4 #[Z7 Z9 (D:Nat),Z7 Z9 (L:Nat),Z7 Z9 (G:Nat)] 27));have ki:bW w y:=by rw [<- xk];exact H2.o.2.alloc H2.o.2.size _
 have kj:ai y w2.heap.size 27 [Z7 Z9 (D:Nat),Z7 Z9 (L:Nat),Z7 Z9 (G:Nat)]:=by rw [<- xk];exact UC w2 _
 have p0:=kj.cell (j:=0) (u:=Z7 Z9 (D:Nat)) rfl;have p1:=kj.cell (j:=1) (u:=Z7 Z9 (L:Nat)) rfl;have p2:=kj.cell (j:=2) (u:=Z7 Z9 (G:Nat)) rfl;go_wp2_with fail;clear p0 p1 p2;obtain ⟨pb,y5⟩:=nM (w2.heap.size);rw [y5] at kj ⊢;have xy:=JU (w:=y) (nb:=300) H2.o.1 ec ec 4 (H.o.2.1.below ki) (H.o.2.2.1.below ki H.o.2.2.1.lt) (H.o.2.2.2.keep (ki.block _ H.o.2.2.2.lt)) (TU hK ki.size);have Y:=al ki kj;clear ki xk kj y5;refine xy.mono ?_;rintro e w4 ⟨wb,rfl,x⟩;clear xy;have HM:=ak (show MS w4 (G7 []) y w4 wb D L G 300 1 from (x.mono lR λB hB=>⟨λi _=>by rw [hB.sv];exact V7 i,λi m q=>by rw [hB.tn] at q;cases q⟩).RS);clear x;go_wp2_with fail;go_loopw [11,12,13,14] (λok steps tv i wr=>HT y wb D L G l.length ok steps tv i wr) (λ_ _ _ i _=>l.length-(intOf i).toNat)
 case atStart=>exact ⟨0,200,[],T8 _,rfl,rfl,TV _,rfl,UK _ _ _ _,TV _,HM.o⟩
 case round=>
  clear HM;obtain ⟨k,s,M,hk,rfl,rfl,hs,rfl,I,yf,x⟩:=hrel;by_cases xd:k<l.length
  . obtain ⟨z6,off,rfl,qs,xv⟩:=H.o.1 (λe=>by rw [e] at xd;simp at xd);obtain ⟨cs,⟨fv,sv,rfl,x8,hf,kk,km⟩,ke⟩:=xv k xd;obtain ⟨⟨S0,fl,sc,C⟩,yb⟩:∃ tn,l[k]=tn:=⟨_,rfl⟩;rw [yb] at x8 hf kk km ke;dsimp only at x8 hf kk km ke;have O:bW w wr:=Y.o.1.trans (x.base.mono Y.o.1.size);have q0:=(O.cell (p:=⟨z6,off+k*4,ZW⟩) qs).trans (ke 0 ee);have q1:=(O.cell (p:=⟨z6,off+k*4+1,ZW⟩) qs).trans (ke 1 ee);have q2:=(O.cell (p:=⟨z6,off+k*4+2,ZW⟩) qs).trans (ke 2 ee);have q3:=(O.cell (p:=⟨z6,off+k*4+3,ZW⟩) qs).trans (ke 3 ee);obtain ⟨fo,fc,y1,xz⟩:=id hf;obtain ⟨so,sp,ya,qh⟩:=id kk;obtain ⟨J,qd⟩:=nM (fl.length);obtain ⟨n,qe⟩:=nM (sc.length);rw [qd] at y1;rw [qe] at ya;subst y1 ya;simp only [List.getElem?_cons_zero,List.getElem?_cons_succ] at q0 q1 q2 q3;obtain ⟨w5,qx⟩:=nM (wr.alloc (Z4 #[Z7 Z8 (S0:Nat),.slice fo J fc,.slice so n sp,Z1 C] 58));have qn:bW wr w5:=(by rw [<- qx];exact bA wr _);have xi:ai w5 wr.heap.size 58 [Z7 Z8 (S0:Nat),.slice fo J fc,.slice so n sp,Z1 C]:=(by rw [<- qx];exact UC wr _);have qa:=(x.below qn).RS;have kr:=I.below qn;have kc:bW w w5:=O.trans (qn.mono O.size);have y9:=JM (kk.below kc) km;obtain ⟨tb,R⟩:=nM (wr.heap.size);rw [R] at xi;have k5:=hide8 xi qa kr kc hf kk xz qh;have xp:=al qx R;have xe:(k:Int)<(l.length:Int):=ec;clear x I qn xi qa kr O kc hf kk km xz qh xv ke qx R yb;go_wp2_with fail;rw [xp.out.1,xp.out.2];refine y9.mono ?_;rintro e w6 ⟨bb,rfl,kz,ky⟩;have qi:=k5.out.1.keep (ky.block _ k5.out.1.lt);have kf:=(k5.out.2.1.below ky).RS;have ks:=k5.out.2.2.1.below ky;have q4:bW w w6:=k5.out.2.2.2.1.trans (ky.mono k5.out.2.2.2.1.size);have qf:ai w6 pb 27 _:=Y.o.2.keep (kf.base.block _ Y.o.2.lt);have x0:=qi.cell (j:=0) (u:=Z7 Z8 (S0:Nat)) rfl;have x1:=qi.cell (j:=1) (u:=.slice fo J fc) rfl;have x2:=qi.cell (j:=2) (u:=.slice so n sp) rfl;have H6:=a6 qi kf ks q4 qf;have p0:=qf.cell (j:=0) (u:=Z7 Z9 (D:Nat)) rfl;have p1:=qf.cell (j:=1) (u:=Z7 Z9 (L:Nat)) rfl;have p2:=qf.cell (j:=2) (u:=Z7 Z9 (G:Nat)) rfl;clear y9 ky qi kf ks q4 qf q0 q1 q2 q3;by_cases k0:bb=ZU/\n<=s/\J<=200;rotate_left
    . have HQ:=ak (show NJ w (Z3 (Z1 ZU)) w6 from ⟨rfl,H6.o.2.2.2.1⟩);clear p0 p1 p2 x0;cases bb with
      | false=>
       go_wp2;go_ret;exact HQ.o
      | true=>
       obtain ⟨he,_⟩:=kz rfl;rw [qe] at he;have yc:IntKind.i64.wrap ((s:Int)-(n:Int))=(s:Int)-(n:Int):=l3;by_cases km:n<=s
       . have h1:¬ (s:Int)-(n:Int)<0:=ec;have h2:(200:Int)<(J:Int):=by
          have:¬ J<=200:=λq=>k0 ⟨rfl,km,q⟩;omega
         clear k0 kz;go_wp2;go_ret;exact HQ.o
       . have h1:(s:Int)-(n:Int)<0:=ec;clear k0 kz;go_wp2;go_ret;exact HQ.o
    obtain ⟨rfl,yr,yq⟩:=k0;obtain ⟨he,xh⟩:=kz rfl;rw [qe] at he;have yc:IntKind.i64.wrap ((s:Int)-(n:Int))=((s-n:Nat):Int):=l3;have h1:¬ ((s-n:Nat):Int)<0:=ec;have h2:¬ (200:Int)<(J:Int):=ec;clear kz;go_wp2_with fail;refine (F6 H2.o.1 S0 x8 _).mono ?_;rintro e w7 ⟨S,rfl,hS,xq,qo⟩;have HH:=ak (show HK y wb D L G S (1+1300*k) (40200*k) n tb (C=ZU) [Z7 Z8 (S0:Nat),.slice fo J fc,.slice so n sp,Z1 C] (Z1 ZU) _ (Z7 Z9 (-1)) w7 from ⟨0,M,T8 _,rfl,rfl,H6.o.2.2.1.below qo,ec,((H6.o.2.1.below qo).Sf xq _).RS,H6.o.1.keep (qo.block _ H6.o.1.lt)⟩);clear p0 p1 p2 x0 x1 x2 qo xq yc h1 h2;go_wp2_with fail;go_loopw [11,13,18] (λok tv i wr=>HK y wb D L G S (1+1300*k) (40200*k) n tb (C=ZU) [Z7 Z8 (S0:Nat),.slice fo J fc,.slice so n sp,Z1 C] ok tv i wr) (λ_ _ i _=>n+1-(intOf i+1).toNat)
    case atStart=>exact HH.o
    case round=>
     rename ZS=>wx;clear HH;obtain ⟨j,z,hj,rfl,rfl,I,k8,x,R⟩:=hrel;by_cases yy:j<=n
     . have ym:(j:Int)-1<(n:Int):=ec;have x2:=R.cell (j:=2) (u:=.slice so n sp) rfl;have H7:=ak (show HF y wb D L G S (1+1300*k+j) (40200*k+200*j) J tb (C=ZU) [Z7 Z8 (S0:Nat),.slice fo J fc,.slice so n sp,Z1 C] _ (Z7 Z9 0) wx from ⟨0,z,T8 _,rfl,I,k8,x,R⟩);clear I k8 x R;go_wp2_with fail;go_loopw [13,19] (λtv i wr=>HF y wb D L G S (1+1300*k+j) (40200*k+200*j) J tb (C=ZU) [Z7 Z8 (S0:Nat),.slice fo J fc,.slice so n sp,Z1 C] tv i wr) (λ_ i _=>J-(intOf i).toNat)
       case atStart=>exact H7.o
       case round=>
        rename ZS=>U;clear H7 x2;obtain ⟨m,M3,hm,rfl,I,k9,x,R⟩:=hrel;have x1:=R.cell (j:=1) (u:=.slice fo J fc) rfl;by_cases y4:m<J
        . obtain ⟨fb,K,rfl,q7,q5⟩:=k5.out.2.2.2.2.2.2.1 (λe=>by rw [e] at qd;simp at qd;omega);obtain ⟨r0,r1,r2,r3,r4⟩:=q5 m (by rw [qd];exact y4);obtain ⟨f,y0⟩:∃ f,fl[m]'(by rw [qd];exact y4)=f:=⟨_,rfl⟩;rw [y0] at r0 r1 r2 r3 r4;have O:bW w U:=Y.o.1.trans (x.base.mono Y.o.1.size);have g0:=(O.cell (p:=⟨fb,K+m*5,ZW⟩) q7).trans r0;have g1:=(O.cell (p:=⟨fb,K+m*5+1,ZW⟩) q7).trans r1;have g2:=(O.cell (p:=⟨fb,K+m*5+2,ZW⟩) q7).trans r2;have g3:=(O.cell (p:=⟨fb,K+m*5+3,ZW⟩) q7).trans r3;have g4:=(O.cell (p:=⟨fb,K+m*5+4,ZW⟩) q7).trans r4;obtain ⟨kind,drive,block,bit,qr⟩:=f;dsimp only at g0 g1 g2 g3 g4;obtain ⟨w8,qy⟩:=nM (U.alloc (Z4 #[Z7 Z9 kind,Z7 Z9 drive,Z7 Z9 block,Z7 Z9 bit,Z7 Z9 qr] 60));have qp:bW U w8:=(by rw [<- qy];exact bA U _);have xf:ai w8 U.heap.size 60 [Z7 Z9 kind,Z7 Z9 drive,Z7 Z9 block,Z7 Z9 bit,Z7 Z9 qr]:=(by rw [<- qy];exact UC U _);obtain ⟨q,xg⟩:=nM (U.heap.size);rw [xg] at xf;have xj:=R.keep (qp.block _ R.lt);have hc:=(x.below qp).RS;have k7:=I.below qp;have yp:(m:Int)<(J:Int):=ec;have x6:=ak (show HF y wb D L G S (1+1300*k+j) (40200*k+200*j) J tb (C=ZU) [Z7 Z8 (S0:Nat),Z5 (ZV ⟨fb,K,ZW⟩) J fc,.slice so n sp,Z1 C] _ (Z7 Z9 ((m:Int)+1)) w8 from ⟨m+1,M3,ec,ek,k7,ec,hc,xj⟩);have Z:=hide7 xf xj hc k7 k9 qy xg;clear xf xj hc k7 k9 qy xg x I R qp O r0 r1 r2 r3 r4 q5 y0;go_upto_region 23 with fail;clear g0 g1 g2 g3 g4 x1;rw [Z.o.2.2.2.2.2.1,Z.o.2.2.2.2.2.2];have y3:=Z.o.2.1.cell (j:=3) (u:=Z1 C) rfl;have z0:=Z.o.1.cell (j:=0) (u:=Z7 Z9 kind) rfl;have z4:=Z.o.1.cell (j:=4) (u:=Z7 Z9 qr) rfl;by_cases hy:qr=(j:Int)-1/\(C=ZU\/1<kind);rotate_left
          . by_cases yj:qr=(j:Int)-1
            . subst yj;have yn:¬ (1:Int)<kind:=λq=>hy ⟨rfl,.inr q⟩;obtain rfl:C=ZT:=VT.2 λq=>hy ⟨rfl,.inl q⟩;clear hy;go_wp2;go_roundw
              case rel=>exact x6.out
              case measure=>simp only [intOf];omega
            . clear hy y3;go_wp2;go_roundw
              case rel=>exact x6.out
              case measure=>simp only [intOf];omega
          obtain ⟨rfl,hy⟩:=hy;have yd:=ak (show kind=0->C=ZU from λe=>hy.elim id λq=>ec);have z1:=Z.o.1.cell (j:=1) (u:=Z7 Z9 drive) rfl;have z2:=Z.o.1.cell (j:=2) (u:=Z7 Z9 block) rfl;have z3:=Z.o.1.cell (j:=3) (u:=Z7 Z9 bit) rfl;obtain ⟨w9,qz⟩:=nM (w8.alloc (Z4 #[Z7 Z9 kind,Z7 Z9 drive,Z7 Z9 block,Z7 Z9 bit,Z7 Z9 ((j:Int)-1)] 60));have qq:bW w8 w9:=(by rw [<- qz];exact bA w8 _);have y7:ai w9 w8.heap.size 60 (Nr.cs ⟨kind,drive,block,bit,(j:Int)-1⟩):=(by rw [<- qz];exact UC w8 _);have kx:=NG (Z.o.2.2.1.below qq).RS (Z.o.2.2.2.1.below qq) Z.o.2.2.2.2.1 hS _ y7 ec ec ec ((j:Int)-1) yd.out;have H9:=aE kx qz (Z.o.2.1.keep (qq.block _ Z.o.2.1.lt));clear kx qz qq y7;have ys:C=ZU\/C=ZT/\1<kind:=by
           cases C
           . exact .inr ⟨rfl,hy.elim (λq=>acy) id⟩
           . exact .inl rfl
          clear hy;rcases ys with rfl|⟨rfl,yn⟩;all_goals
           clear x6;go_wp2_with fail;rw [H9.o.2.1];refine H9.o.1.mono ?_;rintro e E ⟨z7,M4,rfl,hh,kp,kv,qm⟩;have qk:=a5 hh kp kv (qm _ _ H9.o.2.2);clear hh kp kv qm;go_wp2;go_roundw
           case rel=>exact ⟨m+1,M4,ec,ek,qk.out.2.1,e9 qk.out.2.2.1,qk.out.1,qk.out.2.2.2⟩
           case measure=>simp only [intOf];omega
        . have yp:¬ (m:Int)<(J:Int):=ec;have hq:∀ E,MS U (DT (λ_=>C=ZU) S M3) y E wb D L G 300 (1+1300*k+j+1)->HK y wb D L G S (1+1300*k) (40200*k) n tb (C=ZU) [Z7 Z8 (S0:Nat),.slice fo J fc,.slice so n sp,Z1 C] (Z1 ZU) _ (Z7 Z9 ((j:Int)-1+1)) E:=λE hz=>⟨j+1,M3,ec,ek,rfl,hz.mk I,ec,hz.RS.mono ec λ_ q=>q,R.turns hz⟩;have x2:=R.cell (j:=2) (u:=.slice so n sp) rfl;have x4:=a5 x I R hq;have x7:=ak (hq U (x.mono ec λ_ q=>q));clear x I R hq k9;by_cases yk:j=0
          . subst yk;clear x2;go_wp2;go_roundw
            case rel=>exact x7.out
            case measure=>simp only [intOf];omega
          obtain ⟨j',rfl⟩:∃ j',j=j'+1:=⟨j-1,ec⟩;have ej:((j'+1:Nat):Int)-1=(j':Int):=ec;obtain ⟨sb,W,rfl,qv,qg⟩:=k5.out.2.2.2.2.2.2.2 (λe=>by rw [e] at qe;simp at qe;omega);obtain ⟨dv,r1,r2,r3,r4,r5⟩:=qg j' ec;have xa:(sc[j']' ec).d.length<=100000:=TU (Pz sc j' ec) xh;obtain ⟨o,ho⟩:=nM (sc[j']' ec);rw [ho] at r1 r2 r3 r5 xa;have O:bW w U:=Y.o.1.trans (x4.out.1.base.mono Y.o.1.size);have g0:=(O.cell (p:=⟨sb,W+j'*4,ZW⟩) qv).trans r1;have g1:=(O.cell (p:=⟨sb,W+j'*4+1,ZW⟩) qv).trans r2;have g2:=(O.cell (p:=⟨sb,W+j'*4+2,ZW⟩) qv).trans r3;have g3:=(O.cell (p:=⟨sb,W+j'*4+3,ZW⟩) qv).trans r4;rw [ej] at x7 ⊢;have xo:=ak (λh5=>PA (λA B k q=>DT.Tp q k) x4.out.1 o dv (r5.mono Y.o.1) xa ec ye ec h5);clear r1 r2 r3 r4 r5 xa O qg ho;obtain ⟨z5,oa,os,od⟩:=o;dsimp only at g0 g1 g2 xo;by_cases xc:z5<=5;rotate_left
          . have yo:¬ z5<=5:=xc;clear xc g1 g2 g3;go_wp2;go_roundw
            case rel=>exact x7.out
            case measure=>simp only [intOf];omega
          go_wp2_with fail;refine (xo.out xc).mono ?_;rintro e E ⟨rfl,hh⟩;have HX:=ak (x4.out.2.2.2 E hh);rw [ej] at HX;clear hh g0 g1 g2 g3 x2;go_wp2;go_roundw
          case rel=>exact HX.o
          case measure=>simp only [intOf];omega
     . have ym:¬ (j:Int)-1<(n:Int):=ec;have x2:=R.cell (j:=2) (u:=.slice so n sp) rfl;have x3:=R.cell (j:=3) (u:=Z1 C) rfl;obtain ⟨ta,tc,yv⟩:=bm I;subst yv;have q6:∀ E U,MS E (G7 z) y E wb D L G 300 (1+1300*k+j)->Mk y E (.slice ta z.length tc) z->MS E (G7 z) y U wb D L G 300 (1+1300*k+j+1002)->HT y wb D L G l.length (Z1 ZU) (Z7 Z9 ((s-n:Nat):Int)) (.slice ta z.length tc) (Z7 Z9 ((k:Int)+1)) U:=λE U _ h2 h3=>⟨k+1,s-n,z,ec,ek,rfl,ec,rfl,h3.mk h2,ec,h3.RS.mono ec λ_ q=>q⟩;have ko:=ak q6;have kg:=al x I;clear x I R q6 k8;cases C with
       | false=>
        obtain ⟨t,xs,Q,p,r,sa,ar,v,Kind,ps,pg,ob,P,A,F,out,want,cache,V,hC,ht,hA⟩:=id kg.out.1;have s1:=V.wbA.cells.2.2.2.2.1;have HS:=al (NH V hC (S:=S) (M:=z) ⟨hA.1,hA.2.1,λi hi e=>by have:=hA.2.2 i hi e;cases this⟩) ht;clear V hC ht hA;go_wp2_with fail;refine HS.o.1.mono ?_;rintro e U ⟨rfl,q9⟩;have hr:=ak (q9.mono HS.o.2 λ_ q=>q);clear q9 HS s1 x2 x3;go_wp2_with fail;refine (lA _).mono ?_;rintro e E ⟨rfl,hb⟩;have ha:=hr.out.below hb;have T:=al ha.RS (ha.mk kg.out.2);have kh:=ak (FX ha.RS λA B k q=>G7.Tp q k);clear hb ha hr kg;go_wp2_with fail;refine kh.out.mono ?_;rintro e wu ⟨rfl,qc⟩;have HQ:=ak qc;clear qc kh;go_wp2;go_roundw
        case rel=>exact ko.out E wu T.out.1 T.out.2 HQ.o
        case measure=>simp only [intOf];omega
       | true=>
        obtain ⟨N,hN⟩:=nM (D+L+G);have yg:N<=16:=(by rw [<- hN];exact H2.o.1.s);have y8:∀ X,ZQ ZM 9 #[.agg #[Z7 Z9 (D:Nat),Z7 Z9 (L:Nat),Z7 Z9 (G:Nat)]] X λe w'=>e=Z3 (Z7 Z9 (N:Nat))/\bW X w':=λX=>by
         rw [<- hN,(ec:((D+L+G:Nat):Int)=(D:Int)+L+G)];have:=H2.o.1.d;have:=H2.o.1.l4;have:=H2.o.1.g;exact du (D:Int) (L:Int) (G:Int) X ⟨ec,ec⟩ ⟨ec,ec⟩ ⟨ec,ec⟩
        have q8:∀ (X:ZS) (d:Nat),d<=16->ZQ ZM 17 #[Z7 Z8 (S:Nat),Z7 Z9 (d:Nat)] X λe w'=>e=Z3 (Z1 (S.testBit d))/\w'=X:=λX d hd=>(sB S d hS ec X).mono λe w' h=>⟨by rw [h.1,Wy];rcases VN (S/2^d) with e|e<;>rw [e]<;>rfl,h.2⟩;have y6:∀ E,bW y E->E.cell? ⟨pb,0,ZW⟩=ZV (Z7 Z9 (D:Nat))/\E.cell? ⟨pb,1,ZW⟩=ZV (Z7 Z9 (L:Nat))/\E.cell? ⟨pb,2,ZW⟩=ZV (Z7 Z9 (G:Nat)):=λE hb=>by
         have hp:ai E pb 27 _:=Y.o.2.keep (hb.block _ Y.o.2.lt);exact ⟨hp.cell (j:=0) rfl,hp.cell (j:=1) rfl,hp.cell (j:=2) rfl⟩
        have HU:=a5 y8 q8 y6 hN;have xm:=ak (show HN y wb D L G S (1+1300*k+j) N z (.slice ta z.length tc) (Z7 Z9 0) wx from ⟨0,T8 _,rfl,kg.out.2,kg.out.1.mono lR λA q=>⟨q.1,q.2.1,λi _ _=>T8 i⟩⟩);clear y8 q8 y6 hN kg;go_wp2_with fail;go_loopw [21] (λi wr=>HN y wb D L G S (1+1300*k+j) N z (.slice ta z.length tc) i wr) (λi _=>N-(intOf i).toNat)
        case atStart=>exact xm.out
        case round=>
         rename ZS=>U;clear xm x2 x3;obtain ⟨d,hd,rfl,I,x⟩:=hrel;obtain ⟨p0,p1,p2⟩:=HU.o.2.2.1 U x.base;have hr:=al I x;clear I x;go_wp2_with fail;refine (HU.o.1 _).mono ?_;rintro e w1 ⟨rfl,ka⟩;have T:=al (hr.out.1.below ka) (hr.out.2.below ka).RS;clear p0 p1 p2 ka hr;by_cases yi:d<N
         . have yh:(d:Int)<(N:Int):=ec;go_wp2_with fail;refine (HU.o.2.1 _ d ec).mono ?_;rintro e w2 ⟨rfl,qj⟩;obtain rfl:w1=w2:=qj.symm;clear qj;by_cases h6:S.testBit d=ZU
           . rw [h6];obtain ⟨t,xs,Q,p,r,sa,ar,v,Kind,ps,pg,ob,P,A,F,out,want,cache,V,hC,ht,hA⟩:=id T.out.2;have c3:=V.wbA.cells.2.2.2.1;have HR:=al (NI V hC hA (by rw [HU.o.2.2.2];exact yi) h6) ht;clear V hC ht hA h6;go_wp2_with fail;refine HR.o.1.mono ?_;rintro e E ⟨rfl,hn,qm,y2⟩;have HX:=ak (show HN y wb D L G S (1+1300*k+j) N z (.slice ta z.length tc) (Z7 Z9 ((d:Int)+1)) E from ⟨d+1,ec,ek,y2 T.out.1,hn.mono HR.o.2 λ_ q=>q⟩);clear hn qm y2 HR c3;go_wp2;go_roundw
             case rel=>exact HX.o
             case measure=>simp only [intOf];omega
           . have kb:S.testBit d=ZT:=VT.2 h6;rw [kb];have HX:=ak (show HN y wb D L G S (1+1300*k+j) N z (.slice ta z.length tc) (Z7 Z9 ((d:Int)+1)) w1 from ⟨d+1,ec,ek,T.out.1,(T.out.2.here kb).mono lR λA q=>⟨q.1,q.2.1,λi hi e=>e9 (q.2.2 i hi e)⟩⟩);clear h6 kb;go_wp2;go_roundw
             case rel=>exact HX.o
             case measure=>simp only [intOf];omega
         . have yh:¬ (d:Int)<(N:Int):=ec;have xn:=ak (show HP y wb D L G S (1+1300*k+j) N z (.slice ta z.length tc) (Z1 ZU) (Z7 Z9 0) w1 from ⟨0,T8 _,rfl,rfl,T.out.1,by
            have h:=T.out.2;obtain rfl:d=N:=ec;rw [<- HU.o.2.2.2] at h;exact h.all⟩)
           clear T;go_wp2_with fail;go_loopw [11,23] (λok i wr=>HP y wb D L G S (1+1300*k+j) N z (.slice ta z.length tc) ok i wr) (λ_ i _=>N-(intOf i).toNat)
           case atStart=>exact xn.out
           case round=>
            rename ZS=>wv;clear xn;obtain ⟨d2,yx,rfl,rfl,I,x⟩:=hrel;obtain ⟨p0,p1,p2⟩:=HU.o.2.2.1 wv x.base;have hr:=al I x;clear I x;go_wp2_with fail;refine (HU.o.1 _).mono ?_;rintro e w1 ⟨rfl,ka⟩;have T:=al (hr.out.1.below ka) (hr.out.2.below ka).RS;clear p0 p1 p2 ka hr;by_cases xb:d2<N
            . have x9:(d2:Int)<(N:Int):=ec;go_wp2_with fail;refine (HU.o.2.1 _ d2 ec).mono ?_;rintro e w2 ⟨rfl,qj⟩;obtain rfl:w1=w2:=qj.symm;clear qj;by_cases h6:S.testBit d2=ZU
              . rw [h6];obtain ⟨t,xs,Q,p,r,sa,ar,v,Kind,ps,pg,ob,P,A,F,out,want,cache,V,hC,ht,hA⟩:=id T.out.2;have c4:=V.wbA.cells.2.2.2.2.1;have HR:=al (F4 V hC hA (by rw [HU.o.2.2.2];exact xb)) ht;clear V hC ht hA h6;go_wp2_with fail;refine HR.o.1.mono ?_;rintro e E ⟨rfl,hn⟩;have x5:=ak (hn.mono HR.o.2 λ_ q=>q);clear hn HR c4;go_wp2_with fail;refine (lA _).mono ?_;rintro e wu ⟨rfl,hb⟩;have HX:=ak (show HP y wb D L G S (1+1300*k+j) N z (.slice ta z.length tc) (Z1 ZU) (Z7 Z9 ((d2:Int)+1)) wu from ⟨d2+1,ec,ek,rfl,(x5.out.below hb).mk T.out.1,(x5.out.below hb).RS⟩);clear hb x5;go_wp2;go_roundw
                case rel=>exact HX.o
                case measure=>simp only [intOf];omega
              . have kb:S.testBit d2=ZT:=VT.2 h6;rw [kb];have HX:=ak (show HP y wb D L G S (1+1300*k+j) N z (.slice ta z.length tc) (Z1 ZU) (Z7 Z9 ((d2:Int)+1)) w1 from ⟨d2+1,ec,ek,rfl,T.out.1,T.out.2.mono lR λA q=>⟨λi e=>⟨(by
                 have q1:=q.1 i e;rcases X3 d2 i with c|c
                 . exact c
                 . obtain rfl:i=d2:=ec;rw [kb] at q1;cases q1.2),(q.1 i e).2⟩,q.2⟩⟩)
                clear h6 kb;go_wp2;go_roundw
                case rel=>exact HX.o
                case measure=>simp only [intOf];omega
            . have x9:¬ (d2:Int)<(N:Int):=ec;have ha:MS w1 (G7 z) y w1 wb D L G 300 (1+1300*k+j):=by
               have h:=T.out.2;obtain rfl:d2=N:=ec;rw [<- HU.o.2.2.2] at h;exact h.done
              have kh:=al (FX ha λA B k q=>G7.Tp q k) ha;clear ha;go_wp2_with fail;refine kh.out.1.mono ?_;rintro e wu ⟨rfl,qc⟩;have HQ:=ak (ko.out w1 wu kh.out.2 T.out.1 qc);clear qc kh;go_wp2;go_roundw
              case rel=>exact HQ.o
              case measure=>simp only [intOf];omega
  . have xe:¬ (k:Int)<(l.length:Int):=ec;obtain ⟨t,xs,Q,p,r,sa,ar,v,Kind,ps,pg,ob,P,A,F,out,want,cache,V,hC,ht,hA⟩:=x;have HO:=al (F3 V hC ec) hA;clear V hC ht hA I yf;go_wp2_with fail;refine HO.o.1.mono ?_;rintro e w7 ⟨rfl,qb⟩;have HB:=ak (FX (qb.mono lR λB hB=>HO.o.2.Tp hB) λA B k q=>G7.Tp q k);clear HO qb;go_wp2_with fail;refine HB.o.mono ?_;rintro e w8 ⟨rfl,hc⟩;have HF:=ak hc.base;clear HB hc;go_wp2;go_ret;exact ⟨rfl,Y.o.1.trans (HF.o.mono Y.o.1.size)⟩
