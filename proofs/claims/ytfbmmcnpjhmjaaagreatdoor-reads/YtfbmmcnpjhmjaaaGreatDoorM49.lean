import Derived.Test.YtfbmmcnpjhmjaaaGreatDoorM43
import Derived.Test.YtfbmmcnpjhmjaaaGreatDoorM48
set_option maxRecDepth 100000
set_option maxHeartbeats 8000000
open Go.IntKind renaming i64 -> Z9
open Go.Value renaming int -> Z8, pointer -> Z7
open Go.Obj renaming cells -> Z6
open Option renaming none -> Z5, some -> Z4
open Bool renaming true -> Z3, false -> Z2
open Go renaming World -> Z1
open Nat renaming le_trans -> Tm, lt_of_lt_of_le -> To, le_refl -> Tp, testBit_or -> Ts, pow_le_pow_right -> Tu
open List renaming range -> Tn, mem_range -> Tq, mem_append_left -> Tv, nodup_append -> Tw
open Array renaming getElem?_eq_some_iff -> Tr
open Bool renaming or_eq_false_iff -> Tt
namespace Go.Proofs.YtfbmmcnpjhmjaaaGreatDoor
open Go.RowKit Go.Deep Gf
variable {A:aB} {C:Ck} {F:bx} {ps ps':dD} {Kind:dD->Prop} {dl:List (List Nat)} {D L G s v b lost m c B r g N p gone sp ho l1:Nat} {ok:Nat->Prop} {ao:Option Addr} {w wx w' w1 w3:Z1}
section
open Go.Shelf
structure OI (w:Z1) (r v b g N p D L G:Nat) (Kind:dD->Prop) (ps:dD) (A:aB) (F:bx) (R:Nat->List Nat) (M:List Nat) (w':Z1):Prop where
 rd:∃ gone sp,ef w' r v b g N gone sp
 row:∃ f,w'.rowIs g 34 N f/\∀ i∈M,∃ bl c,f i=.slice (Z4 ⟨bl,0,Z5⟩) 44 c/\w.heap.size<=bl/\bl<w'.heap.size/\w'.rangeAt bl 0 (aH (R i))
 kit:∃ ps':dD,Kind ps'/\ps'.ps=ps.ps/\ps'.S w'/\bq w' v p D L G ps.ps ps'.ho/\(∀ i,ps'.ho.testBit i=Z3->i<N/\A.lost i=Z3)/\ps'.ho<65536/\∀ k,ps'.bl k->ps.bl k\/w.heap.size<=k
 arr:∃ ds,ds.Nodup/\ds.length<=D/\aq w' p (A.readAt ds) F
 out:aa (λk=>k=g\/k=r\/k=v\/F.has p A.n k\/ps.bl k) w w'
structure GY (w:Z1) (r v b g N p D L G:Nat) (Kind:dD->Prop) (ok:Nat->Prop) (ps:dD) (A:aB) (F:bx) (dl:List (List Nat)):Prop where
 vol:m6 w v p D L G ps.ps ps.ho A F
 free:jI F p A.n v
 fit:A.fit
 n:A.n=D+L+G
 nN:N=D+L+G
 blt:b<A.nb
 wait:A.wait≠0
 par:yT D L G
 ho:∀ i,ps.ho.testBit i=Z3->i<N/\A.lost i=Z3
 hol:ps.ho<65536
 bad:∀ i,i<N->A.bad i b=Z2
 len:dl.length=D
 byt:∀ l∈dl,∀ x∈l,x<256
 recs:∀ i,i<N->(aW.shard ((dB (aL D L G) dl 44).getD i [])).ok/\A.blk i b=(aW.shard ((dB (aL D L G) dl 44).getD i [])).blk
 kit:ps.S w
 kind:Kind ps
 apt:∀ k,ps.bl k->3<=k/\k≠v/\¬ F.has p A.n k
 one:∀ l,l≠0->(∀ i,l.testBit i=Z3->i<N/\A.lost i=Z3)->ok l/\∀ i,i<N->A.lost i=Z3->l.testBit i=Z3
 vr:v≠r
 vg:v≠g
 rg:r≠g
 gF:¬ F.has p A.n g
 rF:¬ F.has p A.n r
 rK:3<=r
 vK:3<=v
 gK:3<=g
theorem eG (a:ps.S w) {k:Nat} {cs:Array Value} {T:TypeId} {z:Nat×Nat} (h:w.heap[k]?=Z4 (Z6 cs T z)) (b:¬ BM T):¬ ps.bl k:=λc=>b (ps.kd w a k c cs T z h)
theorem wI:¬ BM 196:=by unfold BM;decide
theorem tX:¬ BM 34:=by unfold BM;decide
theorem EG {v:Value} (h:w.ownsRow 0 284 4 v (cK D L G s C).length (eH .u8 (cK D L G s C))) (a:(cK D L G s C).length<=4398046511104):Ps .u8 w v (cK D L G s C):=LN h a
theorem QP (a b:Nat) (c:a<65536) (d:b<65536):bits .or .u64 (a:Int) (b:Int)=((a|||b:Nat):Int):=bits_or_u64_nat a b (by omega) (by omega)
theorem QQ {a:Nat} (c:a<65536) (d:b<65536):a|||b<65536:=Nat.or_lt_two_pow (n:=16) c d
theorem GZ {S l:Nat} (h:S &&& l=0) {i:Nat} (a:S.testBit i=Z3):l.testBit i=Z2:=by
 have:=congrArg (λx=>x.testBit i) h;simp only [Nat.testBit_and,a,Bool.true_and,Nat.zero_testBit] at this;exact this
structure EH (D L G:Nat) (Kind:dD->Prop) (ps ps':dD) (lost s:Nat) (C:Ck) (ao:Option Addr) (m c B:Nat) (wx:Z1):Prop where
 kind:Kind ps'
 psE:ps'.ps=ps.ps
 hoE:ps'.ho=ps.ho
 kit:ps'.S wx
 bl:∀ k,ps'.bl k->ps.bl k\/B<=k
 ob:∀ k,(Value.slice ao m c).ownBlock=Z4 k->ps.bl k\/B<=k
 own:wx.ownsRow 0 284 4 (.slice ao m c) (cK D L G s C).length (eH .u8 (cK D L G s C))
 rds:OY D L G lost s
 told:tells (fE D L G) (ae (av (D+L+G) s))=Z4 C
theorem EH.keep {wy:Z1} (h:EH D L G Kind ps ps' lost s C ao m c B wx) {T:Nat->Prop} (d:aa T wx wy) (f:∀ k,T k->k<B/\¬ ps.bl k):EH D L G Kind ps ps' lost s C ao m c B wy:=
 ⟨h.kind,h.psE,h.hoE,ps'.keep _ _ h.kit λk a=>d.block k (ps'.lt _ h.kit k a) (λq=>by
  have b:=f k q;rcases h.bl k a with e|e
  . exact b.2 e
  . omega),h.bl,h.ob,fj h.own d (λk a q=>by
  have b:=f k q;rcases h.ob k a with e|e
  . exact b.2 e
  . omega),h.rds,h.told⟩
theorem EH.mono {B':Nat} (h:EH D L G Kind ps ps' lost s C ao m c B wx) (b:B'<=B):EH D L G Kind ps ps' lost s C ao m c B' wx:=
 ⟨h.kind,h.psE,h.hoE,h.kit,λk a=>(h.bl k a).imp id λq=>Tm b q,λk a=>(h.ob k a).imp id λq=>Tm b q,h.own,h.rds,h.told⟩
structure P7 (w0:Z1) (r v b g N p D L G:Nat) (A:aB) (F:bx) (R:Nat->List Nat) (ps:dD) (gone sp ho:Nat) (ds:List Nat) (f:Nat->Value) (w:Z1):Prop where
 rd:ef w r v b g N gone sp
 vol:m6 w v p D L G ps.ps ho (A.readAt ds) F
 row:w.rowIs g 34 N f
 kn:Kn w w0.heap.size AP f R ds
 out:aa (λk=>k=g\/k=r\/k=v\/F.has p A.n k\/ps.bl k) w0 w
theorem P7.keep {w0:Z1} {R:Nat->List Nat} {ds:List Nat} {f:Nat->Value} (h:P7 w0 r v b g N p D L G A F R ps gone sp ho ds f w) (c:∀ k,ps.bl k->k<w0.heap.size/\3<=k/\k≠v/\k≠r/\k≠g/\¬ F.has p A.n k) (a:aa ps.bl w w'):P7 w0 r v b g N p D L G A F R ps gone sp ho ds f w':=by
 have e:2<3:=by decide
 have i:1<3:=by decide
 exact ⟨h.rd.keep (a.block _ h.rd.lt λq=>(c _ q).2.2.2.1 rfl),⟨h.vol.vol.keep (a.block _ h.vol.vol.lt λq=>(c _ q).2.2.1 rfl),h.vol.arr.keep (λk d=>a.block k (h.vol.arr.has_lt d) λq=>(c k q).2.2.2.2.2 d),h.vol.laid.keep (a.block _ h.vol.laid.lt λq=>by have:=(c _ q).2.1;omega),h.vol.tab.keep (a.block _ h.vol.tab.lt λq=>by have:=(c _ q).2.1;omega),Tm h.vol.room a.size⟩,h.row.of_block (a.block _ h.row.lt λq=>(c _ q).2.2.2.2.1 rfl),h.kn.keep a.size (λk o d ho _=>(a.block k (Tr.1 ho).1 λq=>by have:=(c k q).1;omega).trans ho),h.out.trans (a.mono λk _ q=>.inr (.inr (.inr (.inr q))))⟩
def C5 (r v ps D L G:Nat) (w:Z1):Prop:=w.cell? ⟨r,0,Z5⟩=Z4 (Z7 (Z4 ⟨v,0,Z5⟩))/\w.cell? ⟨v,1,Z5⟩=Z4 (Z8 Z9 (D:Int))/\w.cell? ⟨v,2,Z5⟩=Z4 (Z8 Z9 (L:Int))/\w.cell? ⟨v,3,Z5⟩=Z4 (Z8 Z9 (G:Int))/\w.cell? ⟨v,4,Z5⟩=Z4 (Z7 (Z4 ⟨ps,0,Z5⟩))
theorem KM {ps:Nat} (a:ef w r v b g N gone sp) (c:bq w v p D L G ps ho):C5 r v ps D L G w:=by
 obtain ⟨_,d,e,f,h,_⟩:=c.cells;exact ⟨a.cells.1,d,e,f,h⟩
def OJ (D L G:Nat) (Kind:dD->Prop) (ps:dD) (l1:Nat) (w1:Z1) (v6 v7:Value) (wx:Z1):Prop:=v7=.nilIface/\∃ gb ps' s C ao m c,v6=Z7 (Z4 ⟨gb,0,Z5⟩)/\w1.heap.size<=gb/\wx.heap[gb]?=Z4 (Z6 #[Z8 Z9 (1+((ae (av (D+L+G) s)).length:Int)),.slice ao m c] 210 (0,0))/\EH D L G Kind ps ps' l1 s C ao m c w1.heap.size wx/\aa ps.bl w1 wx
theorem G0 (e:EH D L G Kind ps ps' l1 s C ao m c w1.heap.size w3) (d:Below w1.heap.size w1 w') (b:aa ps.bl w' w3) :
 OJ D L G Kind ps l1 w1 (Z7 (Z4 ⟨w3.heap.size,0,Z5⟩)) .nilIface (w3.alloc (Z6 #[Z8 Z9 (1+((ae (av (D+L+G) s)).length:Int)),.slice ao m c] 210)):=by
 have a:Below w3.heap.size w3 (w3.alloc (Z6 #[Z8 Z9 (1+((ae (av (D+L+G) s)).length:Int)),.slice ao m c] 210)):=bA _ _;exact ⟨rfl,_,ps',s,C,ao,m,c,rfl,Tm d.size b.size,blk_alloc_new _ _,e.keep (T:=λ_=>False) (aa.of_all a _) (λ_ q=>q.elim),(aa.after d b).trans (aa.of_all a _)⟩
theorem DS {w2:Z1} (o:EH D L G Kind ps ps' l1 s C ao m c (w1.heap.size+1) w3) (i:∀ k,ps.bl k->k<w1.heap.size) (t:w2.heap.size=w1.heap.size) (p:Below w1.heap.size w1 w2) (g:aa ps.bl (w2.alloc (Z6 #[Z8 Z9 0,.slice Z5 0 0] 210)) w3) :
 OJ D L G Kind ps l1 w1 (Z7 (Z4 ⟨w1.heap.size,0,Z5⟩)) .nilIface ((w3.setCell ⟨w1.heap.size,0,Z5⟩ (Z8 Z9 (1+((ae (av (D+L+G) s)).length:Int)))).setCell ⟨w1.heap.size,1,Z5⟩ (.slice ao m c)):=by
 have r:w3.heap[w1.heap.size]?=Z4 (Z6 #[Z8 Z9 0,.slice Z5 0 0] 210 (0,0)):=(g.block w1.heap.size (by rw [World.size_alloc];omega) (λq=>by have:=i _ q;omega)).trans (by rw [<- t];exact blk_alloc_new _ _);have b:=eO w3 w1.heap.size 0 1 (Z8 Z9 (1+((ae (av (D+L+G) s)).length:Int))) (.slice ao m c);have l:EH D L G Kind ps ps' l1 s C ao m c w1.heap.size ((w3.setCell ⟨w1.heap.size,0,Z5⟩ (Z8 Z9 (1+((ae (av (D+L+G) s)).length:Int)))).setCell ⟨w1.heap.size,1,Z5⟩ (.slice ao m c)):=by
  have h:=o.keep b (λk (q:k=w1.heap.size)=>⟨by omega,λe=>by have:=i k e;omega⟩);exact ⟨h.kind,h.psE,h.hoE,h.kit,λk d=>(h.bl k d).imp id (by omega),λk d=>(h.ob k d).imp id (by omega),h.own,h.rds,h.told⟩
 have n:Below w1.heap.size w1 (w2.alloc (Z6 #[Z8 Z9 0,.slice Z5 0 0] 210)):=p.alloc (by omega) _;have a:=aa.after n g;exact ⟨rfl,_,ps',s,C,ao,m,c,rfl,Tp _,kU (kT r),l,b.os.trans a.os,b.tape.trans a.tape,b.output.trans a.output,Tm a.size b.size,λk f j=>(b.block k (To f a.size) (by omega)).trans (a.block k f j)⟩
section
variable {w:Z1} {r v b g N p D L G:Nat} {Kind:dD->Prop} {ok:Nat->Prop} {ps:dD} {A:aB} {F:bx} {dl:List (List Nat)} (hs:GY w r v b g N p D L G Kind ok ps A F dl) (hSh:yU D L G Kind ok)
include hs hSh
theorem KN (hr:ef w r v b g N 0 ps.ho) (kx:w.rowIs g 34 N AP) (S:Nat) (hS:S<65536) (qa:∀ i,i∈ae S->i<D) :
 Calls Tryz.prog 112 #[Z7 (Z4 ⟨r,0,Z5⟩),Z8 .u64 S] w λe w'=>e=.returned .nilIface/\OI w r v b g N p D L G Kind ps A F (λi=>(dB (aL D L G) dl 44).getD i []) (ae S) w':=by
 obtain ⟨R,xf⟩:∃ R:Nat->List Nat,(λi=>(dB (aL D L G) dl 44).getD i [])=R:=⟨_,rfl⟩;have ks:∀ i,(dB (aL D L G) dl 44).getD i []=R i:=λi=>by rw [<- xf]
 rw [xf];have yd:N<=16:=by rw [hs.nN];exact hs.par.s
 have I:∀ i,i<N->(aW.shard (R i)).ok/\A.blk i b=(aW.shard (R i)).blk:=λi a=>by rw [<- ks];exact hs.recs i a
 have yr:D<=N:=by rw [hs.nN];omega
 have Q:∀ k,F.has p A.n k->k<w.heap.size:=λk f=>hs.vol.arr.has_lt f;have xi:=vZ (ds:=[]) hs.vol hs.free hs.fit hr kx R (Kn.nil w w.heap.size AP R) S hS (by decide) hs.hol (λi a=>by have:=qa i a;have:=hs.n;have:=hs.nN;omega) hs.blt hs.wait hs.hol hs.vr hs.rK hs.vK (λi a=>hs.bad i (by have:=qa i a;omega)) (λi a=>(I i (by have:=qa i a;omega)).1) (λi a=>(I i (by have:=qa i a;omega)).2) hs.gF hs.rF hs.rg hs.vg hs.gK lR kx.lt hr.lt hs.vol.vol.lt Q;obtain ⟨u,xc⟩:=nM (ny [] (ae (Er (Er S 0) ps.ho)));rw [xc] at xi;have P:∀ i,i∈u↔i∈ae S/\ps.ho.testBit i=Z2:=λi=>by
  rw [<- xc,EE (by decide) hs.hol];simp
 have kr:u.Nodup:=by rw [<- xc];exact wG _ _
 have x5:∀ d∈u,d<16:=λd hd=>(bM.1 ((P d).1 hd).1).1;have qz:bS A u<65536:=oE A u x5;obtain ⟨gone,H⟩:∃ x,bS A u=x:=⟨_,rfl⟩;have V:∀ i,gone.testBit i=Z3↔i∈u/\A.lost i=Z3:=λi=>by rw [<- H];exact Bv A u i
 rw [H] at qz;have yk:=QP gone ps.ho qz hs.hol;obtain ⟨l1,qp⟩:∃ x,gone|||ps.ho=x:=⟨_,rfl⟩;rw [qp] at yk;have qm:l1<65536:=by rw [<- qp];exact QQ qz hs.hol
 have kp:∀ i,l1.testBit i=Z3->i<N/\A.lost i=Z3:=λi a=>by
  rw [<- qp,Ts,Bool.or_eq_true] at a;rcases a with a|a
  . obtain ⟨q1,q2⟩:=(V i).1 a;exact ⟨by have:=qa i ((P i).1 q1).1;omega,q2⟩
  . exact hs.ho i a
 have xg:=fW S l1 (by omega) (by omega);have Z:ps.ho|||gone=l1:=by rw [Nat.or_comm];exact qp
 have hn:∀ i,i∈ae S->l1.testBit i=Z2->i∈lL A u:=λi a hb=>by
  rw [<- qp,Ts,Tt] at hb;have xb:=(P i).2 ⟨a,hb.2⟩;refine rm.2 ⟨xb,?_⟩;cases hq:A.lost i
  . rfl
  . rw [(V i).2 ⟨xb,hq⟩] at hb;cases hb.1
 have B:=hide14 hs hSh I P kr V kp hn Z H ks Q hr.lt kx.lt;have x9:=eG hs.kit hr wI;have x8:¬ ps.bl g:=by obtain ⟨cs,O,_⟩:=kx;exact eG hs.kit O tX
 clear hs hSh I P kr V kp hn xc H ks xf Q hr kx qp Z;go_enter Tryz.func112,Tryz.ntmps112;go_wp2_with fail;go_loopw [5] (λ_ wr=>wr=w) (λ_ _=>0)
 case atStart=>exact rfl
 case round=>
  obtain rfl:w=wr:=(show wr=w from hrel).symm;go_wp2_with fail;refine xi.mono ?_;rintro e w1 ⟨rfl,xd,xp,⟨f1,qe,qk⟩,qb,qo⟩;obtain ⟨hs,_,_,_,_,_,_,_,Z,H,_,Q,qd,k0⟩:=B.out;rw [H,Nat.zero_or] at xd;rw [H,Z] at xp;rw [List.nil_append] at qk;obtain ⟨d0,_,_,d3,d4⟩:=xd.cells;have hm:ps.S w1:=ps.keep _ _ hs.kit λk f=>qo.block k (ps.lt _ hs.kit k f) (λq=>by
   rcases q with rfl|rfl|q|q
   . exact x8 f
   . exact x9 f
   . exact (hs.apt k f).2.1 q
   . exact (hs.apt k f).2.2 q)
  have yp:2<3:=by decide
  have yq:1<3:=by decide
  have q9:P7 w r v b g N p D L G A F R ps gone ps.ho l1 (lL A u) f1 w1:=⟨xd,⟨xp,qb,hs.vol.laid.keep (qo.block _ hs.vol.laid.lt λq=>by
   rcases q with q|q|q|q
   . have:=hs.gK;omega
   . have:=hs.rK;omega
   . have:=hs.vK;omega
   . exact hs.free.g q),hs.vol.tab.keep (qo.block _ hs.vol.tab.lt λq=>by
   rcases q with q|q|q|q
   . have:=hs.gK;omega
   . have:=hs.rK;omega
   . have:=hs.vK;omega
   . exact hs.free.t q),Tm hs.vol.room qo.size⟩,qe,qk,qo.mono λk _ q=>by
   rcases q with q|q|q|q
   . exact .inl q
   . exact .inr (.inl q)
   . exact .inr (.inr (.inl q))
   . exact .inr (.inr (.inr (.inl q)))⟩
  have H1:=hide2 q9 hm;clear xd xp qe qk qb qo hm hs Z H Q xi qd k0 q9;by_cases h:S &&& l1=0
  . have y5:bits .and .u64 (S:Int) (l1:Int)=0:=(by rw [xg,h];rfl);go_wp2_with fail;go_region;go_wp2;go_ret;obtain ⟨q4,hm⟩:=H1.out;obtain ⟨hs,hSh,I,P,kr,V,kp,hn,Z,H,ks,_⟩:=B.out;have xb:∀ i,i∈ae S->i∈lL A u:=λi a=>hn i a (GZ h (bM.1 a).2);refine ⟨rfl,⟨_,_,q4.rd⟩,⟨f1,q4.row,λi a=>?_⟩,⟨{ ps with ho:=l1 },hSh.ho ps l1 hs.kind,rfl,ps.keep _ _ hm (λ_ _=>rfl),q4.vol.vol,kp,qm,λk f=>.inl f⟩,⟨lL A u,oR kr,?_,q4.vol.arr.keep λ_ _=>rfl⟩,q4.out.trans (aa.drew _)⟩
    . obtain ⟨bl,e1,e2,e3,e4⟩:=q4.kn.2 i (xb i a);exact ⟨bl,44,e1,e2,e3,qH e4⟩
    . have O:=mq (oR (A:=A) kr) (L:=Tn D) (λx hx=>Tq.2 (qa x ((P x).1 (rm.1 hx).1).1));rwa [List.length_range] at O
  . have y5:(bits .and .u64 (S:Int) (l1:Int)==0)=Z2:=by
     rw [xg];generalize S &&& l1=q at h;simp;omega
    have y1:l1≠0:=λe=>h (by rw [e,Nat.and_zero]);obtain ⟨y2,kv⟩:=B.out.1.one l1 y1 B.out.2.2.2.2.2.2.1;have W:∀ k,ps.bl k->k<w.heap.size/\3<=k/\k≠v/\k≠r/\k≠g/\¬ F.has p A.n k:=λk f=>⟨ps.lt _ B.out.1.kit k f,(B.out.1.apt k f).1,(B.out.1.apt k f).2.1,λe=>x9 (e▸f),λe=>x8 (e▸f),(B.out.1.apt k f).2.2⟩;have kk:=H1.out.1.out.size;have y3:∀ w',Below w1.heap.size w1 w'->Calls Tryz.prog 144 #[Z7 (Z4 ⟨ps.ps,0,Z5⟩),.agg #[Z8 Z9 D,Z8 Z9 L,Z8 Z9 G],Z8 .u64 l1] w' λe z0=>∃ ps' s C ao m c,jx D L G s ao m c e/\EH D L G Kind { ps with ho:=l1 } ps' l1 s C ao m c w'.heap.size z0/\aa ps.bl w' z0:=λw' hb=>by
     obtain ⟨q4,hm⟩:=H1.out;have hs:=B.out.1;refine (B.out.2.1.rd { ps with ho:=l1 } (B.out.2.1.ho ps l1 hs.kind) w' (ps.keep _ _ hm λk f=>hb.block k (ps.lt _ hm k f)) (q4.vol.tab.keep (hb.block _ q4.vol.tab.lt)) (Tm q4.vol.room hb.size) (λk f=>(hs.apt k f).1) l1 y2).mono ?_;rintro e z0 ⟨ps',s,C,ao,m,c,O,Y,h3,h4,h5,h6,h7,h8,h9,y9,ya⟩;exact ⟨ps',s,C,ao,m,c,O,⟨Y,h3,h4,h5,h6,h7,h8,h9,y9⟩,ya⟩
    have X:=hide4 kv W y3 kk;have v2:=H1.out.1.vol.vol.cells;obtain ⟨_,e1,e2,e3,e4,_⟩:=v2;have xh:Below w1.heap.size w1 (w1.alloc (Z6 #[Z8 Z9 0,.slice Z5 0 0] 210)):=bA w1 _;obtain ⟨_,x1,x2,x3,x4,_⟩:=(H1.out.1.vol.vol.keep (xh.block _ H1.out.1.vol.vol.lt)).cells;obtain ⟨x0,_,_,_,_⟩:=(H1.out.1.rd.keep (xh.block _ H1.out.1.rd.lt)).cells;clear xh;have HY:Hid (∀ (w' w3:Z1),Below w1.heap.size w1 w'->aa ps.bl w' w3->C5 r v ps.ps D L G w3/\(∀ o:Obj,C5 r v ps.ps D L G (w3.alloc o))/\(∀ k x y,w1.heap.size<=k->C5 r v ps.ps D L G ((w3.setCell ⟨k,0,Z5⟩ x).setCell ⟨k,1,Z5⟩ y))):=hide λw' w3 hb hO=>by
     have xx:=aa.after hb hO;have hM:=H1.out.1;have x6:=hM.rd.keep (xx.block _ hM.rd.lt λq=>x9 q);have hv3:=hM.vol.vol.keep (xx.block _ hM.vol.vol.lt λq=>(B.out.1.apt _ q).2.1 rfl);have qd:=hM.rd.lt;have yv:=hM.vol.vol.lt;exact ⟨KM x6 hv3,λo=>KM (x6.keep (blk_alloc_lt _ _ _ x6.lt)) (hv3.keep (blk_alloc_lt _ _ _ hv3.lt)),λk x y f=>KM (x6.keep ((eO w3 k 0 1 x y).block _ x6.lt (by omega))) (hv3.keep ((eO w3 k 0 1 x y).block _ hv3.lt (by omega)))⟩
    clear kv W y3 kk y2;go_wp2_with fail;go_region;go_upto_region 5 with fail;have y7:(((S &&& l1:Nat):Int)==0)=Z2:=by
     rw [<- xg];exact y5
    simp only [y7];clear y7;go_cut [6,7] from 24 to 42 (λv6 v7 wx=>OJ D L G Kind { ps with ho:=l1 } l1 w1 v6 v7 wx)
    case first=>
     go_region_held3 (λw'=>w'.cell? ⟨r,0,Z5⟩=Z4 (Z7 (Z4 ⟨v,0,Z5⟩))/\w'.cell? ⟨v,1,Z5⟩=Z4 (Z8 Z9 (D:Int))/\w'.cell? ⟨v,2,Z5⟩=Z4 (Z8 Z9 (L:Int))/\w'.cell? ⟨v,3,Z5⟩=Z4 (Z8 Z9 (G:Int))/\w'.cell? ⟨v,4,Z5⟩=Z4 (Z7 (Z4 ⟨ps.ps,0,Z5⟩))) (first|exact ⟨d0,e1,e2,e3,e4⟩|exact ⟨x0,x1,x2,x3,x4⟩|exact Y0.out|exact Y1.out _|exact Y2.out _ _ _ lR|go_keep)
      (first|(go_at_call 144;refine (X.out.2.2.1 _ ?_).mono ?_;(first|exact ((Below.refl _ _).drew).drew|exact (((Below.refl _ _).drew).drew).alloc lR _);rintro e w3 ⟨ps',s,C,ao,m,c,he,K,J⟩;(unfold jx at he;obtain ⟨z,h⟩:∃ z:Int,1+((ae (av (D+L+G) s)).length:Int)=z:=⟨_,rfl⟩;rw [h] at he;subst he;have HZ:=hide h;clear h);(try (have q3:w3.heap[w1.heap.size]?=Z4 (Z6 #[Z8 Z9 0,.slice Z5 0 0] 210 (0,0)):=(J.block w1.heap.size (by simp) (λq=>by have:=(X.out.2.1 _ q).1;have:=X.out.2.2.2;omega)).trans (blk_alloc_new w1.drew.drew _);obtain ⟨r0,r1,g1,g0⟩:=aG q3;clear q3));have H3:=hide2 K J;obtain ⟨Y0,Y1,Y2⟩:Hid (C5 r v ps.ps D L G w3)/\Hid (∀ o:Obj,C5 r v ps.ps D L G (w3.alloc o))/\Hid (∀ k x y,w1.heap.size<=k->C5 r v ps.ps D L G ((w3.setCell ⟨k,0,Z5⟩ x).setCell ⟨k,1,Z5⟩ y)):=HY.out _ w3 (by first|exact ((Below.refl _ w1).drew).drew|exact (((Below.refl _ w1).drew).drew).alloc lR _) J;clear K J))
     all_goals (go_wp2_with fail;go_meet;case rel=>have h:=HZ.out;subst h;first
      | (refine G0 (w':=w1.drew.drew) (EH.mono H3.out.1 ?_) ?_ ?_;exact Tp _;exact ((Below.refl _ _).drew).drew;exact H3.out.2)
      | (refine DS (w2:=w1.drew.drew) (EH.mono H3.out.1 ?_) ?_ rfl ?_ ?_;exact Nat.le_of_eq (World.size_alloc _ _).symm;exact λk q=>To (X.out.2.1 _ q).1 X.out.2.2.2;exact ((Below.refl _ _).drew).drew;exact H3.out.2))
    case rest=>
     clear d0 d3 d4 e1 e2 e3 e4 x0 x1 x2 x3 x4;rename Z1=>w3;obtain ⟨rfl,gb,ps',s,C,ao,m,c,rfl,V,kz,K,J⟩:=hcut;have W:=X.out.2.1;have qf:=H1.out.1.keep W J;have yo:=J.size;have hs:=B.out.1;have q0:=hs.par;have hp:=N3 q0.d q0.l4 q0.g q0.s K.told;have k5:=JG q0.d q0.g q0.s K.told;have hv:(cK D L G s C).length<=2000:=hp.1.2.2;have qc:∀ t∈cK D L G s C,t.k=0->0<=t.b/\t.b<16:=λt ht h0=>by
      obtain ⟨i,e1,e2,_⟩:=lF q0.s ht h0;have:=q0.s;omega
     have xm:=GR (1+((ae (av (D+L+G) s)).length:Int)) (EG K.own (by omega)) qc (by omega);obtain ⟨z,h⟩:∃ z:Int,1+((ae (av (D+L+G) s)).length:Int)=z:=⟨_,rfl⟩;rw [h] at kz hp xm;obtain ⟨g0,g1,_,_⟩:=aG kz;have H3:=hide11 qf K kz hp k5 hv qc xm h J V;clear qf K kz hp k5 hv qc xm h J W hs q0 yo V;go_wp2_with fail;refine H3.out.2.2.2.2.2.2.2.1.mono ?_;rintro e w4 ⟨rfl,q5⟩;clear g0 g1;obtain ⟨qf,K,kz,hp,k5,hv,qc,_,h,J,V⟩:=H3.out;obtain ⟨hs,hSh,I,P,kr,q7,kp,hn,Z,H,ks,Q,qd,k0⟩:=B.out;have W:=X.out.2.1;have kv:=X.out.1;have km:=qf.keep W (aa.of_all q5 _);obtain ⟨T,hT⟩:=nM (zk (cK D L G s C));have qy:T<65536:=by rw [<- hT];exact KE λt ht h0=>by have:=qc t ht h0;omega
     have xy:∀ i,T.testBit i=Z3->i<N/\s.testBit i=Z2:=λi a=>by
      rw [<- hT] at a;obtain ⟨t,ht,h0,yn⟩:=(ry _ _).1 a;obtain ⟨j,e1,e2,e3⟩:=lF hs.par.s ht h0;have:j=i:=by rw [<- yn,e1];rfl
      subst this;exact ⟨by rw [hs.nN];exact e2,e3⟩
     have U:∀ i,i∈ae T->i<N/\s.testBit i=Z2:=λi a=>xy i (bM.1 a).2;have ki:∀ i,i<N->A.lost i=Z3->s.testBit i=Z3:=λi a hq=>K.rds.sub i (kv i a hq);have qi:=vZ (ds:=lL A u) km.vol (show jI F p (A.readAt (lL A u)).n v from hs.free) (hs.fit.readAt _) km.rd km.row R km.kn T qy qz hs.hol (λi a=>⟨(U i a).1,by show i<A.n;rw [hs.n,<- hs.nN];exact (U i a).1⟩) hs.blt hs.wait qm hs.vr hs.rK hs.vK (λi a=>hs.bad i (U i a).1) (λi a=>(I i (U i a).1).1) (λi a=>(I i (U i a).1).2) hs.gF hs.rF hs.rg hs.vg hs.gK km.out.size k0 qd hs.vol.vol.lt Q;obtain ⟨E,q8⟩:=nM (ny (lL A u) (ae (Er (Er T gone) ps.ho)));rw [q8] at qi;have hc:∀ i,i∈E↔i∈ae T/\gone.testBit i=Z2/\ps.ho.testBit i=Z2/\i∉lL A u:=λi=>by rw [<- q8,EE qz hs.hol]
     have qn:∀ i∈E,A.lost i=Z2:=λi a=>by
      obtain ⟨O,_⟩:=(hc i).1 a;obtain ⟨Y,h3⟩:=U i O;cases hq:A.lost i
      . rfl
      . rw [ki i Y hq] at h3;cases h3
     have k7:E.Nodup:=(by rw [<- q8];exact wG _ _);have kj:bS A E=0:=pC qn;have kg:lL A E=E:=List.filter_eq_self.2 λi a=>by rw [qn i a];rfl
     have qs:=(q5.block gb (Tr.1 kz).1).trans kz;have H4:=hide11 qi hc kj kg U ki km hT qs q5 k7;clear k7 qi hc kj kg U ki km qs q5 qf K kz hp k5 hv qc h J V hs hSh I P kr q7 kp hn Z H ks Q qd k0 W kv xy q8 qn;rw [hT];clear hT;go_wp2_with fail;refine H4.out.1.mono ?_;rintro e w5 ⟨rfl,xe,qq,⟨f5,ky,k6⟩,hh,qg⟩;obtain ⟨_,hc,kj,kg,U,ki,km,hT,qs,q5,k7⟩:=H4.out;obtain ⟨qf,K,kz,hp,k5,hv,qc,_,h,J,V⟩:=H3.out;obtain ⟨hs,hSh,I,P,kr,q7,kp,hn,Z,H,ks,Q,qd,k0⟩:=B.out;have W:=X.out.2.1;have kk:=X.out.2.2.2;rw [Bz,kj,Nat.or_zero] at xe qq;rw [DO,kg] at k6 hh;rw [By _ _ _ (λi a=>((hc i).1 a).2.2.2)] at hh;obtain ⟨ds,q6⟩:=nM (lL A u++E);rw [q6] at k6 hh;have xq:=J.size;have y6:=q5.size;have yi:w1.heap.size<=gb:=V;have y4:=(qg.block gb (To (Tr.1 kz).1 y6) (λq=>by
      rcases q with q|q|q|q
      . omega
      . omega
      . have:=hs.vol.vol.lt;omega
      . have:=Q gb q;omega)).trans qs
     have ko:EH D L G Kind { ps with ho:=l1 } ps' l1 s C ao m c w1.heap.size w5:=(K.keep (T:=λ_=>False) (aa.of_all q5 _) (λ_ q=>q.elim)).keep qg (λk q=>by
      rcases q with q|q|q|q
      . subst q;exact ⟨by omega,x8⟩
      . subst q;exact ⟨by omega,x9⟩
      . subst q;exact ⟨by have:=hs.vol.vol.lt;omega,λe=>(W _ e).2.2.1 rfl⟩
      . exact ⟨by have:=Q k q;omega,λe=>(W _ e).2.2.2.2.2 q⟩)
     obtain ⟨i0,xa⟩:∃ i,l1.testBit i=Z3:=Nat.exists_testBit_of_ne_zero y1;have qj:=(kp i0 xa).1;have ke:∀ i∈ds,i<N/\s.testBit i=Z2:=λi a=>by
      rw [<- q6] at a;rcases List.mem_append.1 a with a|a
      . obtain ⟨O,Y⟩:=rm.1 a;have h3:=qa i ((P i).1 O).1;refine ⟨by omega,zd λq=>?_⟩;rw [(kp i (ko.rds.dat i h3 q)).2] at Y;cases Y
      . exact U i ((hc i).1 a).1
     have qx:∀ i∈ds,(R i).length=44/\∀ x∈R i,x<256:=λi a=>(I i (ke i a).1).1;have xj:=Mp (x:=Mq N ds) (Dl:=zc N ds R) hs.par.d1 hs.par.d hs.par.g hs.par.div hs.par.s ko.told (by rw [<- hs.nN];exact qj) (ko.rds.sub i0 xa) hs.len hs.byt (λi a=>by
      rw [hT] at a;have xk:i<16:=by
       by_cases q:i<16
       . exact q
       . rw [Nat.testBit_lt_two_pow (To qy (Tu (n:=2) (i:=16) (by decide) (by omega)))] at a;cases a
      have y0:i∈ae T:=bM.2 ⟨xk,a⟩;obtain ⟨O,Y⟩:=U i y0;have qr:i∈ds:=by
       rw [<- q6];by_cases q:i∈lL A u
       . exact Tv _ q
       . have xn:l1.testBit i=Z2:=zd λe=>by rw [ko.rds.sub i e] at Y;cases Y
         rw [<- Z,Ts,Tt] at xn;exact List.mem_append_right _ ((hc i).2 ⟨y0,xn.2,xn.1,q⟩)
      rw [BB O,if_pos qr,ks];exact ⟨rfl,zd λe=>((tU N ds i).1 e).2 qr⟩)
     have xv:(ae (av (D+L+G) s)).length<=16:=(by have:=vQ (D+L+G) s hs.par.s;have:=hs.par.s;omega);have qv:ae (av (D+L+G) s)≠[]:=λq=>by
      have:i0∈ae (av (D+L+G) s):=(cH hs.par.s).2 ⟨by rw [<- hs.nN];exact qj,ko.rds.sub i0 xa⟩;rw [q] at this;cases this
     have y8:z.toNat=1+(ae (av (D+L+G) s)).length:=(by rw [<- h];omega);have xz:=KL (w:=w5.drew) (M:=ae (av (D+L+G) s)) (R:=R) (show ef w5.drew r v b g N gone ps.ho from xe) (show w5.drew.rowIs g 34 N f5 from ky) hs.rg ((EG ko.own (by omega)).mono (Below.refl _ w5).drew) k5 ((PU ky qx k6).mono (Below.refl _ w5).drew) (BA N ds R) (GS qx) (by omega) (by rw [<- hs.nN] at hp;exact hp) xj.1 (by rw [y8,xj.2];exact List.map_congr_left λd _=>by rw [ks]) qv (λd hd=>by rw [hs.nN];exact ((cH hs.par.s).1 hd).1) xv;obtain ⟨_,_,_,d3,d4⟩:=xe.cells;obtain ⟨g0,g1,_,_⟩:=aG y4;have H5:=hide9 xz qq k6 hh qg ko ke q6 qx;clear k7 xz xe qq ky k6 hh qg ko ke q6 qx xj xv qv y8 hc kj kg U ki km hT qs q5 qf K kz hp k5 hv qc h J V hs hSh I P kr q7 kp hn Z H ks Q qd k0 W kk xq y6 yi y4 xa qj;go_wp2_with fail;go_region;go_wp2_with fail;refine H5.out.1.mono ?_;rintro e w6 ⟨rfl,hF⟩;clear d3 d4 g0 g1;have H6:=hide hF;clear hF;go_wp2;go_ret;obtain ⟨ym,⟨f6,x7,yg,yh⟩,ye⟩:=H6.out;obtain ⟨_,qq,k6,hh,qg,ko,ke,q6,qx⟩:=H5.out;obtain ⟨_,hc,kj,kg,U,ki,km,hT,qs,q5,k7⟩:=H4.out;obtain ⟨hs,hSh,I,P,kr,q7,kp,hn,Z,H,ks,Q,qd,k0⟩:=B.out;have W:=X.out.2.1;have kk:=X.out.2.2.2;have kb:aa (λk=>k=g) w5 w6:=(aa.drew w5).trans ye;have yc:=km.out.size;have yx:=qg.size;have qh:=ko.keep kb (λk q=>by subst q;exact ⟨by omega,x8⟩);refine ⟨rfl,⟨_,_,ym⟩,⟨f6,x7,λi a=>?_⟩,⟨ps',qh.kind,qh.psE,qh.kit,?_,?_,?_,λk f=>(qh.bl k f).imp id λq=>Tm kk q⟩,⟨ds,?_,?_,?_⟩,?_⟩
     . have ys:=qa i a;by_cases xo:s.testBit i=Z3
       . obtain ⟨bl,mm,l,e1,e2,e3,e4,e5,e6⟩:=yh i ((cH hs.par.s).2 ⟨by have:=hs.nN;omega,xo⟩);obtain ⟨O,Y⟩:=GT e4 e3 e5;have yb:=(I i (by omega)).1.1;rw [yb] at Y;subst Y;have yy:w5.drew.heap.size=w5.heap.size:=rfl;exact ⟨bl,l.length,e1,by omega,aM.lt e4,O⟩
       . have yj:i∉ae (av (D+L+G) s):=λq=>xo ((cH hs.par.s).1 q).2;have qr:i∈ds:=by
          rw [<- q6];exact Tv _ (hn i a (zd λe=>xo (ko.rds.sub i e)))
         obtain ⟨bl,e1,e2,e3,e4⟩:=k6.2 i qr;have yf:bl≠g:=(by omega);refine ⟨bl,44,by rw [yg i yj];exact e1,e2,To e3 kb.size,qH ((kb.block bl e3 yf).trans e4)⟩
     . rw [qh.hoE];exact qq.keep (kb.block _ qq.lt hs.vg)
     . rw [qh.hoE];exact kp
     . rw [qh.hoE];exact qm
     . rw [<- q6,Tw];refine ⟨oR kr,?_,λx hx y hy e=>((hc y).1 hy).2.2.2 (e▸hx)⟩;exact k7
     . rw [<- ko.rds.kept];refine mq ?_ (λx hx=>(lB hs.par.s).2 ⟨by rw [<- hs.nN];exact (ke x hx).1,(ke x hx).2⟩);rw [<- q6,Tw];exact ⟨oR kr,k7,λx hx y hy e=>((hc y).1 hy).2.2.2 (e▸hx)⟩
     . exact hh.keep λk f=>kb.block k (hh.has_lt f) λq=>hs.gF (q▸f)
     . exact km.out.trans ((qg.mono λk _ q=>by
        rcases q with q|q|q|q
        . exact .inl q
        . exact .inr (.inl q)
        . exact .inr (.inr (.inl q))
        . exact .inr (.inr (.inr (.inl q)))).trans (kb.mono λk _ q=>.inl q))
end
end
section
open Go.Shelf
theorem DT {k:Nat} (h:k<=16):ae (2^k-1)=Tn k:=nY h
theorem BC (R:Nat->List Nat):∀ m,(∀ i,i<m->(R i).length=44)->((Tn m).map R).flatten.length=44*m
 | 0,_=>rfl
 | m+1,h=>by
  rw [List.range_succ,List.map_append,List.flatten_append,List.length_append,BC R m λi a=>h i (by omega)];simp [h m (by omega)];omega
theorem OK {base M size:Nat} {u:Value} {fl:List Nat} (h:w.ownsRow base 5 1 u M (aH fl)) (z:fl.length=M) (y:∀ x∈fl,x<256) (hs:size<=M) (A:M<=1000000):∃ ao cp,u=.slice ao M cp/\M<=cp/\cp<=9223372036854775807/\(ao=Z5->M=0/\cp=0)/\(∀ a,ao=Z4 a->base<=a.block)/\Bs w (.slice ao size size) (fl.take size):=by
 have b:(fl.take size).length=size:=by rw [List.length_take];omega
 rcases h.2 with ⟨e,f⟩|⟨c,cp,cur,e,n,o,p,r,B,s⟩
 . have t:size=0:=(by omega);subst t;exact ⟨Z5,0,by rw [e,f],by omega,by omega,λ_=>⟨f,rfl⟩,λa h=>(by cases h),by rw [List.take_zero];exact ⟨Z5,0,rfl,Tp _,by decide,λ_ h=>(by cases h),λh=>absurd rfl h⟩⟩
 . have m:cp<=9223372036854775807:=(by unfold maxLen at r;omega);refine ⟨Z4 ⟨c,0,Z5⟩,cp,e,p,m,λh=>(by cases h),λa h=>(by cases h;exact n),Z4 ⟨c,0,Z5⟩,size,by rw [b],by rw [b];exact Tp _,?_,λx v=>y x (List.mem_of_mem_take v),λ_=>⟨c,0,rfl,λk i=>?_⟩⟩
   . rw [b];omega
   . rw [b] at i;have g:k<fl.length:=(by omega);have q:cur[k]?=Z4 (Z8 .u8 ((fl[k]:Nat):Int)):=by
      have d:=congrArg (λl=>l[k]?) s;simp only [Nat.mul_one,aH] at d;rw [List.getElem?_take_of_lt (by omega),Array.getElem?_toList,List.getElem?_map,List.getElem?_eq_getElem g] at d;exact d
     have j:(fl.take size).getD k 0=fl[k]:=(by simp [List.getD_eq_getElem?_getD,i,g]);rw [j];simp [World.cell?,o,q]
structure DU (w:Z1) (r v b g N p D L G:Nat) (Kind:dD->Prop) (ps:dD) (A:aB) (F:bx) (l:List Nat) (u:Value) (w':Z1):Prop where
 rd:∃ gone sp,ef w' r v b g N gone sp
 row:∃ f,w'.rowIs g 34 N f
 kit:∃ ps':dD,Kind ps'/\ps'.ps=ps.ps/\ps'.S w'/\bq w' v p D L G ps.ps ps'.ho/\(∀ i,ps'.ho.testBit i=Z3->i<N/\A.lost i=Z3)/\ps'.ho<65536/\∀ k,ps'.bl k->ps.bl k\/w.heap.size<=k
 arr:∃ ds,ds.Nodup/\ds.length<=D/\aq w' p (A.readAt ds) F
 out:aa (λk=>k=g\/k=r\/k=v\/F.has p A.n k\/ps.bl k) w w'
 bytes:Bs w' u l
 fresh:∀ k,u.ownBlock=Z4 k->w.heap.size<=k
 cap:∃ ao n,u=.slice ao n n
theorem GY.turn (h:GY w r v b g N p D L G Kind ok ps A F dl) (f:¬ ps.bl r) (d:¬ ps.bl g) (c:aa (λk=>k=r\/k=g) w w'):GY w' r v b g N p D L G Kind ok ps A F dl:=by
 have i:2<3:=by decide
 have j:1<3:=by decide
 have m:=h.rK;have l:=h.gK;exact { h with
  vol:=⟨h.vol.vol.keep (c.block _ h.vol.vol.lt (λq=>q.elim h.vr h.vg)),h.vol.arr.keep (λk a=>c.block k (h.vol.arr.has_lt a) (λq=>q.elim (λe=>h.rF (e▸a)) (λe=>h.gF (e▸a)))),h.vol.laid.keep (c.block _ h.vol.laid.lt (λq=>by omega)),h.vol.tab.keep (c.block _ h.vol.tab.lt (λq=>by omega)),Tm h.vol.room c.size⟩
  kit:=ps.keep _ _ h.kit λk a=>c.block k (ps.lt _ h.kit k a) (λq=>q.elim (λe=>f (e▸a)) (λe=>d (e▸a))) }
theorem KO {b0:Nat} {f0:Nat->Value} (hs:GY w r v b g N p D L G Kind ok ps A F dl) (ke:yU D L G Kind ok) (V:ef w r v b0 g N gone sp) (T:w.rowIs g 34 N f0) (size:Nat) (m:Nat) (hm:m=(size+43)/44) (kv:m<=D) :
 Calls Tryz.prog 76 #[Z7 (Z4 ⟨r,0,Z5⟩),Z8 Z9 b,Z8 Z9 size] w λe w'=>∃ u,e=.returned (.tuple #[u,.nilIface])/\DU w r v b g N p D L G Kind ps A F (((Tn m).map λi=>(dB (aL D L G) dl 44).getD i []).flatten.take size) u w':=by
 obtain ⟨R,W⟩:∃ R:Nat->List Nat,(λi=>(dB (aL D L G) dl 44).getD i [])=R:=⟨_,rfl⟩;rw [W];have kk:N<=16:=by rw [hs.nN];exact hs.par.s
 have ky:D<=N:=by rw [hs.nN];omega
 have Q:m<=16:=by omega
 have q2:size<=704:=by omega
 have I:ae (2^m-1)=Tn m:=DT Q;have P:2^m-1<65536:=by
  have:2^m<=2^16:=Tu (by decide) Q;omega
 obtain ⟨S,X⟩:=nM (2^m-1);rw [X] at I P;have kj:=LA V hs.vol.vol T (by have:=hs.par.d1;omega) (λe=>hs.rg e.symm) hs.vg b;have kb:=eG hs.kit V wI;have ka:¬ ps.bl g:=by obtain ⟨cs,h1,_⟩:=T;exact eG hs.kit h1 tX
 have j:∀ i,i<m->(R i).length=44/\∀ x∈R i,x<256:=λi d=>by rw [<- W];exact (hs.recs i (by omega)).1
 have t:=hide5 hs ke kb ka j;have e1:((size:Nat):Int)+44-1=((size+43:Nat):Int):=by omega
 have e2:((size+43:Nat):Int)/44=(m:Int):=by omega
 have q0:=hs.rg;clear V T hs ke kb ka j;go_enter Tryz.func76,Tryz.ntmps76;go_wp2_with fail;refine kj.mono ?_;rintro e w1 ⟨rfl,kh,ha,U⟩;have ki:=t.out.1.turn t.out.2.2.1 t.out.2.2.2.1 U;have k8:=KN ki t.out.2.1 kh ha S P (λi d=>by rw [I,Tq] at d;omega);rw [W] at k8;have E:=hide2 k8 U;clear kj kh ha U ki k8;go_wp2_with fail;rw [show ((size:Int)+43)/44=(m:Int) by omega];refine (l9 m Q w1).mono ?_;rw [X];rintro e w2 ⟨rfl,rfl⟩;clear e1 e2;go_wp2_with fail;refine E.out.1.mono ?_;rintro e w3 ⟨rfl,⟨O,hb,y⟩,⟨f,o,Z⟩,h9,h8,kc⟩;rw [I] at Z;obtain ⟨_,_,d2,_,_⟩:=y.cells;have j:=t.out.2.2.2.2;have B:((Tn m).map R).length=m:=by simp
 have hj:K7 w3 0 g ((Tn m).map R):=by
  refine ⟨Nat.zero_le _,o.lt,λi d=>?_⟩;rw [B] at d;obtain ⟨bl,c,q1,_,q3,q4⟩:=Z i (Tq.2 d);have cg:=o.cell (i:=i) (by omega);rw [q1] at cg;have e:((Tn m).map R)[i]'(by rw [B];exact d)=R i:=by simp
  rw [e];exact ⟨bl,0,c,cg,Nat.zero_le _,q3,q4,(j i d).1,(j i d).2⟩
 have Y:=FE (c:=N) hj (by rw [B];omega);rw [B] at Y;have K:=E.out.2.size;have C:aa (λk=>k=g\/k=r\/k=v\/F.has p A.n k\/ps.bl k) w w3:=(E.out.2.mono λ_ _ q=>q.elim (λe=>.inr (.inl e)) .inl).trans kc;have H3:=hide7 y o h9 h8 C Y K;clear y o Z h9 h8 kc Y C hj B K;go_wp2_with fail;rw [show (size+43)/44=m from hm.symm];refine H3.out.2.2.2.2.2.1.mono ?_;rintro e w4 ⟨u,rfl,hh,h⟩;have kf:((Tn m).map R).flatten.length=44*m:=BC R m (λi d=>(j i d).1);have kg:∀ x∈((Tn m).map R).flatten,x<256:=λx hx=>by
  obtain ⟨l,kr,ks⟩:=List.mem_flatten.1 hx;obtain ⟨i,kp,rfl⟩:=List.mem_map.1 kr;exact (j i (Tq.1 kp)).2 x ks
 have k9:size<=44*m:=by omega
 obtain ⟨ao,cp,rfl,hg,km,ko,H,J⟩:=OK hh kf kg k9 (by omega);have H4:=hide3 h J H;obtain ⟨M,hM⟩:=nM (44*m);rw [hM] at k9 hg ⊢;have kx:size<=cp:=Tm k9 hg;have kz:M<=704:=by omega
 clear h J H hh kf kg hM hm d2 t j I X P E kv;go_wp2;go_ret2;obtain ⟨y,o,⟨ps',k1,k2,k3,k4,k5,k6,k7⟩,⟨ds,a1,a2,a3⟩,C,_,K⟩:=H3.out;obtain ⟨h,J,H⟩:=H4.out;refine ⟨_,rfl,⟨_,_,y.keep (h.block _ y.lt)⟩,⟨_,o.of_block (h.block _ o.lt)⟩,⟨ps',k1,k2,ps'.keep _ _ k3 (λk z=>h.block k (ps'.lt _ k3 k z)),k4.keep (h.block _ k4.lt),k5,k6,λk z=>(k7 k z).imp id λq=>Tm K q⟩,⟨ds,a1,a2,a3.below h lR⟩,C.trans (aa.of_all h _),J,λk z=>?_,⟨_,_,rfl⟩⟩;cases ao with
 | none=>simp [Value.ownBlock] at z
 | some a=>
  simp [Value.ownBlock] at z;have h1:=H a rfl;have h2:=C.size;omega
end
theorem wJ (D L G:Int) (w:Z1) (a:0<=D/\D<=100) (b:0<=L/\L<=100) (c:0<=G/\G<=100):Calls Tryz.prog 9 #[.agg #[Z8 Z9 D,Z8 Z9 L,Z8 Z9 G]] w λe w'=>e=.returned (Z8 Z9 (D+L+G))/\w'=w.alloc (Z6 #[Z8 Z9 D,Z8 Z9 L,Z8 Z9 G] 25):=by
 obtain ⟨d,f⟩:=a;obtain ⟨b1,b2⟩:=b;obtain ⟨c1,g⟩:=c;go_enter Tryz.func9,Tryz.ntmps9;go_wp2;go_ret;exact ⟨rfl,rfl⟩
theorem G1 {ps:Nat} (h:bq w v p D L G ps ho) (r:D<=12) (t:L<=4) (s:G<=4) {N:Nat} (n:N=D+L+G):Calls Tryz.prog 75 #[Z7 (Z4 ⟨v,0,Z5⟩)] w λe w'=>e=.returned (Z7 (Z4 ⟨w.heap.size+2,0,Z5⟩))/\ef w' (w.heap.size+2) v 0 (w.heap.size+1) N 0 0/\w'.rowIs (w.heap.size+1) 34 N (λ_=>.slice Z5 0 0)/\Below w.heap.size w w':=by
 obtain ⟨_,c1,j,k,_⟩:=h.cells;go_enter Tryz.func75,Tryz.ntmps75;go_wp2_with fail;refine (wJ (D:Int) (L:Int) (G:Int) w ⟨by omega,by omega⟩ ⟨by omega,by omega⟩ ⟨by omega,by omega⟩).mono ?_;rintro e f ⟨rfl,c⟩;rw [show ((D:Int)+(L:Int)+(G:Int))=(N:Int) by omega];have o:N<=20:=by omega
 have a:Below w.heap.size w f:=by rw [c];exact bA w _
 have b:f.heap.size=w.heap.size+1:=by rw [c];simp
 have i:=hide2 a b;clear a c1 j k h n c b;go_wp2_with (at_make;refine uD _ rfl (.tmp 8) (.tmp 8) rfl _ N rfl rfl rfl (by omega) ?_;intro g d m q);go_ret;obtain ⟨a,b⟩:=i.out;have l:g.heap.size=w.heap.size+2:=by omega
 rw [b] at d ⊢;refine ⟨rfl,?_,?_,?_⟩
 . have:=blk_alloc_new g (Z6 (Po v 0 (w.heap.size+1) N 0 0) 196);rw [l] at this;exact this
 . exact d.of_block (blk_alloc_lt _ _ _ (by omega))
 . exact (a.trans (m.mono a.size)).alloc (by omega) _
end Go.Proofs.YtfbmmcnpjhmjaaaGreatDoor
