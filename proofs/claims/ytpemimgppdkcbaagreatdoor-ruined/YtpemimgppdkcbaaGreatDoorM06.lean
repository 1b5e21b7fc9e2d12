import Derived.Test.YtpemimgppdkcbaaGreatDoorM05
import Derived.OwnWalk
import Derived.Lib.BufferWrite
import Derived.Lib.AppendZerosOnto
import Derived.Lib.Overlaps
import Derived.Laws.Externs
import Derived.Shelf.RegionOpenPlain
import Derived.Laws.Cover1
import Derived.Deep.RegionHeld3
import Derived.Laws.BytesString
set_option maxRecDepth 100000
set_option linter.all false
set_option maxHeartbeats 8000000
open Go.IntKind renaming i64 -> Z9
open Go.Value renaming int -> Z8, pointer -> Z7, slice -> Z6, string -> Z2
open Go.Obj renaming cells -> Z5
open Go.Ending renaming returned -> Z4
open Go.Operand renaming tmp -> Z3
open Option renaming none -> Z1, some -> Z0
open Bool renaming true -> ZZ, false -> ZY
open Go renaming World -> ZX, Value -> ZW, Calls -> ZV, TypeId -> ZU
open List renaming replicate -> YD, range -> YE, takeWhile_cons -> YH, map_replicate -> YJ, drop_eq_nil_of_le -> YK, drop_sublist -> YM
open Nat renaming min -> YF, succ_lt_succ -> YL
open ByteArray renaming empty -> YG
open List.Pairwise renaming sublist -> YI
open Array renaming toList_append -> YN
open Go.Proofs.Tryz renaming prog -> ZT
open Go.Proofs.Tryz
namespace Go.Proofs.YtpemimgppdkcbaaGreatDoor
def XY:=@List.length_pos_iff
def Yz:=@Go.Addr.mk.injEq
def XZ:=@Go.ByteArray.toList_eq
def X0:=@List.mem_flatMap
def Xp:=@Go.Src.ofNil
def Vn:=@Go.Proofs.Tryz.underlying113
def X1:=@Bool.or_eq_false_iff
def Xq:=@Nat.eq_or_lt_of_le
def X2:=@List.getElem_drop
def YA:=@List.getElem_take
def YB:=@Go.Proofs.Tryz.underlying9
end Go.Proofs.YtpemimgppdkcbaaGreatDoor
namespace Go.Proofs.YtpemimgppdkcbaaGreatDoor
open Go.RowKit Go.Shelf Go.Deep Gf
variable {a:Act} {ops:Array Oper} {cs:Array ZW} {off:Bool} {s b:ByteArray} {Q:Exit->Act->ZX->Prop} {F:aR} {T:List (Nat×Nat×a8)} {ns:List ByteArray} {l ds:a8} {xs vs cur:List ZW} {D base n size ar p L G ps ho D' L' G' t f nn m cap q t' f' n' g c i N bl:Nat} {Dn:Nat->Bool} {R:Nat->a8} {S K K':Nat->Prop} {o:Oper} {P:Program} {E:Prop} {e:ZU} {v pg ob u:ZW} {w w' wr:ZX}
def bU (D:Nat) (P l:a8) (k:Nat):a8:=be (P.getD (k+1) 0) 4++(l.drop (k*(D*44-4))).take (D*44-4)
def aH.wrTo (A:aH) (D L G:Nat) (S:a8) (c:Nat->a8):Nat->aH
 | 0=>A
 | k+1=>(A.wrTo D L G S c k).TT D L G (S.getD k 0) (c k)
def gQ (A:aH) (D L G:Nat) (S:a8) (c:Nat->a8):∀ k,(A.wrTo D L G S c k).n=A.n/\(A.wrTo D L G S c k).nb=A.nb/\(A.wrTo D L G S c k).lost=A.lost/\(A.clean->(A.wrTo D L G S c k).clean)
 | 0=>⟨rfl,rfl,rfl,id⟩
 | k+1=>have h:=gQ A D L G S c k;⟨h.1,h.2.1,h.2.2.1,λq=>(h.2.2.2 q).putAt _ _ _⟩
def Eo (w:ZX) (p D L G:Nat) (S:a8) (c:Nat->a8) (A:aH) (F:aR) (e:Ending) (w':ZX):Prop:=∃ k er,e=Z4 er/\k<=S.length/\aB w' p (A.wrTo D L G S c k) F/\aa F.S w w'/\((er=.nilIface/\k=S.length)\/(er=fJ/\¬ A.clean))
def xB (a:1<=D) (P l:a8) (k:Nat):(bU D P l k).length<=D*44:=by
 unfold bU;rw [T8,aF,Ui];omega
def Cg (hl:∀ x∈l,x<256) (P:a8) (k:Nat):∀ x∈bU D P l k,x<256:=by
 intro x a;unfold bU at a;rw [Uf] at a;rcases a with a|a
 . exact qE _ _ x a
 . exact hl x (US (UN a))
def Ci (h:w.ownsRow base e size v n xs) (f:aa S w w') (i:∀ k,S k->k<base):w'.ownsRow base e size v n xs:=by
 refine ⟨h.1,?_⟩;rcases h.2 with d|⟨g,cap,cur,b,c,a,r⟩
 . exact .inl d
 . exact .inr ⟨g,cap,cur,b,c,(f.block g (TX.1 a).1 (λq=>by have:=i g q;omega)).trans a,r⟩
def eB.R9 (h:aa S w w'):eB (λk=>¬ S k) w w':=⟨h.size,λk a hn=>h.block k a hn⟩
def rY (h:br K w v l) (hl:l≠[]):∃ b off c,v=Z6 (Z0 ⟨b,off,Z1⟩) l.length c/\∀ i (e:i<l.length),w.cell? ⟨b,off+i,Z1⟩=Z0 (Z8 Z9 ((l[i]:Nat):Int)):=by
 obtain ⟨ao,c,rfl,_,a⟩:=h;obtain ⟨b,off,rfl,_,_,d⟩:=a hl;exact ⟨b,off,c,rfl,d⟩
def Tryz.Sx:(ZT.info? 5).map (λi=>(i.zero,i.size,i.bytes))=Z0 (Z0 (Z8 .u8 0),1,1):=by kernel_rfl
theorem tV {v:Nat} {A:aH} (C:bh w ar v D' L' G' t f nn pg ob off) (s:pH w v p D L G ps ho A F) (qb:¬ F.S ar)
 (g cap base:Nat) (l:a8) (O:w.ownsRow base 5 1 (Z6 (Z0 ⟨g,0,Z1⟩) l.length cap) l.length (aI l)) (qg:∀ x∈l,x<256) (hll:l.length<=1000000) (hq:∀ k,F.S k->k<base)
 (vp:ZW) (P:a8) (H:br (λk=>¬ F.S k) w vp P) (kj:∀ x∈P,x<A.nb) (qa:∀ k,k<P.length->k*(D*44-4)<=l.length) :
 ZV ZT 122 #[Z7 (Z0 ⟨ar,0,Z1⟩),Z6 (Z0 ⟨g,0,Z1⟩) l.length cap,vp] w (Eo w p D L G P (bU D P l) A F):=by
 have k7:=s.par.d1;have hD:=s.par.d;obtain ⟨i0,qd,qp,qq,qs⟩:=Us Tryz.Sx;obtain ⟨pa,pc,rfl,ki,_⟩:=id H;have kc:=kt C s.vol k7 (by omega);obtain ⟨m,ke⟩:=nM (D*44-4);have qo:40<=m/\m<=524:=by omega
 rw [ke] at kc;have qy:=s.arr.SC.2;have H0:=a5 C s O H;clear C s O H;go_enter func122,ntmps122;go_wp2_with fail;refine kc.mono ?_;rintro e w1 ⟨rfl,rfl⟩;clear kc;go_wp2;go_loopw [17] (λi wr=>∃ k:Nat,i=Z8 Z9 (k:Nat)/\k<=P.length/\aB wr p (A.wrTo D L G P (bU D P l) k) F/\aa (F.S) w1 wr) (λi _=>P.length-(intOf i).toNat)
 case atStart=>exact ⟨0,rfl,T9 _,H0.out.2.1.arr,aa.refl _ _⟩
 case round=>
  obtain ⟨k,rfl,hk,Q,B⟩:=hrel;by_cases J:k<P.length
  . obtain ⟨C,s,O,H⟩:=H0.out;have kk:=H.keep (eB.R9 B);obtain ⟨b,bo,c',e1,k8⟩:=rY kk (λe=>by rw [e] at J;simp at J);simp only [Vt] at e1;obtain ⟨rfl,_,rfl⟩:=e1;have c1:=k8 k J;obtain ⟨y,Y⟩:=nM (P[k]);rw [Y] at c1;have kg:y<A.nb:=(by rw [<- Y];exact kj _ (T4 J));obtain ⟨nx,K⟩:=nM (P.getD (k+1) 0);have hr:(k+1<P.length/\wr.cell? ⟨b,bo+(k+1),Z1⟩=Z0 (Z8 Z9 (nx:Nat)))\/(¬ k+1<P.length/\nx=0):=by
     by_cases o:k+1<P.length
     . have:=k8 (k+1) o;have e:P.getD (k+1) 0=P[k+1]:=(by simp [o]);rw [<- e,K] at this;exact .inl ⟨o,this⟩
     . exact .inr ⟨o,by rw [<- K];simp [show P.length<=k+1 by omega]⟩
    have qm:nx<1000001:=by
     rcases XE (k+1) P.length with o|o
     . have e:P.getD (k+1) 0=P[k+1]:=(by simp [o]);rw [<- K,e];have:=kj _ (T4 o);omega
     . rw [<- K];simp [o]
    have kb:=gQ A D L G P (bU D P l) k;have km:=s.turn B Q kb.1;have h7:=Ci O B hq;have k6:=C.keep (B.block _ C.lt qb);obtain ⟨ca,_⟩:=k6.cells;have q:=hide8 Q B km h7 kb k6 K Y;clear Q B km h7 kb k6 K Y k8 kk C s O H;have ka:=qa k J;rw [ke] at ka;have qc:l.length<=cap:=by
     rcases q.out.2.2.2.1.2 with ⟨e,_⟩|⟨g',hb,cur,e,_,_,hc,_⟩
     . cases e
     . simp only [Vt] at e;omega
    have T:(k+1)*m=k*m+m:=WH k m;have qh:(k:Int)*(m:Int)=((k*m:Nat):Int):=(by rw [XM]);have qi:((k:Int)+1)*(m:Int)=(((k+1)*m:Nat):Int):=(by rw [XM];rfl);obtain ⟨a,k5⟩:=nM (k*m);obtain ⟨r,ha⟩:=nM ((k+1)*m);rw [k5] at qh T ka;rw [ha] at qi T;obtain ⟨bb,ko⟩:=nM (min r l.length);have qv:a<=bb:=(by omega);have qx:bb<=cap:=(by omega);have Z:bb-a<=524:=(by omega);have h9:((l.drop a).take m).length=bb-a:=(by rw [Ui,Uj];omega);have qj:∀ M ty w,(Builtin.min_ M ty #[Z8 Z9 (r:Nat),Z8 Z9 (l.length:Nat)]).run ZT w=.ok (Z8 Z9 (bb:Nat)) w:=λM ty w=>by
     rw [gy];by_cases o:((l.length:Nat):Int)<((r:Nat):Int)
     . rw [if_pos o,show bb=l.length by omega]
     . rw [if_neg o,show bb=r by omega]
    have hs:∀ W:ZX,W.ownsRow base 5 1 (Z6 (Z0 ⟨g,0,Z1⟩) l.length cap) l.length (aI l)->Src ZT 1 31 (.slice (if cap=a then Z0 ⟨g,0,Z1⟩ else Z0 ⟨g,a,Z1⟩) (bb-a) (cap-a)) (bb-a) (aI ((l.drop a).take m)) W:=λW U=>by
     have qn:W.rangeAt g 0 (aI l):=λj u n=>by have:=U.cells (g:=g) rfl j u n;rw [jD] at this;rw [Ue];exact this
     by_cases k0:cap=a
     . have h0:(l.drop a).take m=[]:=UP (by omega);rw [if_pos k0,h0,show bb-a=0 by omega];exact U7 W Uh ⟨g,0,Z1⟩ 0 (cap-a) (aI []) rfl (λj u n=>by simp [aI] at n) (λu n=>by simp [aI] at n)
     . rw [if_neg k0];have ky:=np m (fU a qn);rw [Ue] at ky;exact U7 W Uh ⟨g,a,Z1⟩ (bb-a) (cap-a) _ (by rw [aW,h9,VW]) (λj u n=>by rw [U9];exact ky j u n) (λu n=>by unfold aI at n;rw [T6] at n;obtain ⟨x,_,rfl⟩:=n;rfl)
    have h8:∀ (W:ZX) (u:ZW),W.ownsRow wr.heap.size 5 1 u (0+4+(bb-a)) ([]++aI (be nx 4)++aI ((l.drop a).take m))->Bs W u (bU D P l k):=λW u n=>by
     have e:[]++aI (be nx 4)++aI ((l.drop a).take m)=aI (bU D P l k):=by
      unfold bU;rw [ke,k5,q.out.2.2.2.2.2.2.1,bL,Uk]
     rw [e] at n;exact Bs.Si n (Cg qg P k) (TW (xB k7 P l k) (by omega))
    have h2:∀ (W:ZX) (u:ZW),bW wr W->Bs W u (bU D P l k)->ZV ZT 144 #[Z7 (Z0 ⟨v,0,Z1⟩),Z8 Z9 (y:Nat),u] W λe w'=>(∃ N,e=Z4 N/\LsE A N)/\aB w' p (A.wrTo D L G P (bU D P l) (k+1)) F/\aa F.S w1 w':=λW u U n=>by
     obtain ⟨q1,q2,q3,q4,q5,q6,q7,q8⟩:=q.out;refine (ld (q3.below U lR) y (by rw [q5.2.1];exact kg) u (bU D P l k) n (xB k7 P l k)).mono ?_;rintro e w' ⟨⟨N,rfl,he⟩,q0,q9⟩;have ey:P.getD k 0=y:=(by rw [<- q8];simp [J]);refine ⟨⟨N,rfl,he.imp_right λh=>⟨h.1,λc=>h.2 (q5.2.2.2 c)⟩⟩,?_,q2.trans ((aa.RS U _).trans q9)⟩;show aB w' p ((A.wrTo D L G P (bU D P l) k).TT D L G (P.getD k 0) (bU D P l k)) F;rw [ey];exact q0
    have kh:=au h8 h2;clear h8 h2;have HK:=a7 k5 ha ko h9 ka T;have qz:IntKind.u64.wrap (nx:Int)=(nx:Int):=(by rw [U5];omega);have qf:a<=1000000/\r<=1000524/\bb<=1000000:=(by omega);clear k5 ha ko h9 T;go_upto_if 26 with fail;go_cut [10] from 27 to 31 (λu wc=>u=Z8 Z9 (nx:Nat)/\wc=wr)
    case first=>
     rcases hr with ⟨o,c2⟩|⟨o,qk⟩
     . have kz:(k:Int)+1<((P.length:Nat):Int):=(by omega);go_wp2;go_meet
       case rel=>exact ⟨rfl,rfl⟩
     . have kz:¬ (k:Int)+1<((P.length:Nat):Int):=(by omega);subst qk;go_wp2;go_meet
       case rel=>exact ⟨rfl,rfl⟩
    case rest=>
    obtain ⟨rfl,kf⟩:=hcut;have kf:=kf.symm;subst kf;clear hr c1;go_wp2_with fail;refine (fP wr.heap.size (Z6 Z1 0 0) 0 [] nx 4 wr (UK _ _ _ _) lR (by decide) (by decide)).mono ?_;rintro e w2 ⟨v2,rfl,kv,I,hp⟩;have R:bW wr w2:=⟨I.os,I.tape,I.output,I.size,λk hk=>I.block k hk (λe=>by simp [Value.ownBlock] at e)⟩;have h4:=ay q.out.2.2.2.1 R;have hi:=q.out.2.2.2.2.2.1.keep (R.block _ q.out.2.2.2.2.2.1.lt);obtain ⟨cb,_⟩:=hi.cells;have E:=a6 kv R (hs w2 h4) h4 hp;clear kv I R h4 hp hi;go_wp2_with (
     at_builtin;
     refine ae _ rfl (Z3 35) (Z3 47) 31 31 rfl wr.heap.size 5 i0 (Z8 .u8 0) 1 1 Uh qd qp qq qs rfl v2 (0+4) ([]++aI (be nx 4)) (by rfl) (by exact E.out.1) _ (by rfl) (bb-a) (aI ((l.drop a).take m)) (by exact E.out.2.2.1) (by unfold maxLen;omega) (by omega) (by exact E.out.2.1.size) ?_;
     intro v3 w3 kx kr k9;
     have Z:bW wr w3:=E.out.2.1.grown kr E.out.2.1.size (λk e=>(E.out.1.lt k e).1);
     have hj:=q.out.2.2.2.2.2.1.keep (Z.block _ q.out.2.2.2.2.2.1.lt);
     obtain ⟨cc,_⟩:=hj.cells;
     have H3:=au kx Z;
     clear kx Z kr k9 hj)
    all_goals
     refine (kh.out.2 w3 v3 H3.out.2 (kh.out.1 w3 v3 H3.out.1)).mono ?_;rintro e w4 ⟨⟨N,rfl,rfl|⟨rfl,kp⟩⟩,V,X⟩
     . have z:=au V X;clear V X;go_wp2;first
        | exact ⟨⟨k+1,by go_num,by omega,z.out.1,z.out.2⟩,by simp only [intOf];omega⟩
        | (have k0:cap=a:=by assumption
           subst k0;go_roundw
           case rel=>exact ⟨k+1,by go_num,by omega,z.out.1,z.out.2⟩
           case measure=>
            show P.length-((k:Int)+1).toNat<P.length-((k:Nat):Int).toNat;omega)
     . have z:=aE V X kp;clear V X kp;unfold fJ;go_wp2;go_ret;exact ⟨k+1,_,rfl,by omega,z.out.1,z.out.2.1,.inr ⟨rfl,z.out.2.2⟩⟩
  . have qe:k=P.length:=(by omega);subst qe;have q:=au Q B;clear Q B;go_wp2;go_ret;exact ⟨_,_,rfl,TV _,q.out.1,q.out.2,.inl ⟨rfl,rfl⟩⟩
def Ep {a':Act} {d lo:Nat} (f:a'.tmps.size=a.tmps.size) (c:a'.defers=a.defers) (m:lo+vs.length<=a.tmps.size) (n:d<lo) (j:a'.eval (.tmp d)=v) (g:∀ i,i<vs.length->a'.eval (.tmp (lo+i))=vs.getD i undef) (h:∀ s,s≠d->s<lo\/lo+vs.length<=s->a'.eval (.tmp s)=a.eval (.tmp s)):a'=Act.RR (a.put (Z0 d) v) lo vs:=by
 obtain ⟨k,l⟩:=ft vs (a.put (Z0 d) v) lo;refine yJ (f.trans ((k.trans (nR _ _ _)).symm)) (c.trans l.symm) λs _=>?_;rw [fu vs _ lo s (by rw [nR];omega)];by_cases e:lo<=s/\s<lo+vs.length
 . rw [if_pos e];have:=g (s-lo) (by omega);rwa [show lo+(s-lo)=s by omega] at this
 . rw [if_neg e];by_cases b:s=d
   . subst b;rw [yI _ _ _ (by omega),j]
   . rw [jE _ _ _ _ (λq=>b q.symm)];exact h s b (by omega)
def nx (t:Nat):Nat:=(t+1)%18446744073709551616
def RF (t:Nat):nx t<18446744073709551616:=VT _ (by decide)
noncomputable def RCm:Array Oper:=((Tryz.f86.body.bind (pe · 5))).getD #[]
def Qn:List (Op×Option Nat×a8):=[(Op.move (Z3 0),Z0 19,[]),
 (Op.nilCheck (Z3 19),Z0 20,[0]),
 (Op.fieldAddr 115 (Z3 20) 0,Z0 21,[1]),
 (Op.load 107 (Z3 21),Z0 22,[2]),
 (Op.call { callee:=Callee.value (Operand.func 67),args:=#[Z3 22],argTypes:=#[107] },Z0 23,[3]),
 (Op.move (Z3 0),Z0 24,[]),
 (Op.nilCheck (Z3 24),Z0 25,[5]),
 (Op.fieldAddr 115 (Z3 25) 1,Z0 26,[6]),
 (Op.fieldAddr 110 (Z3 26) 1,Z0 27,[7]),
 (Op.load 39 (Z3 27),Z0 28,[8]),
 (Op.binOp BinOp.add 39 (Z3 28) (Operand.const (Value.int IntKind.u64 1)) 39,Z0 29,[9]),
 (Op.move (Z3 2),Z0 30,[]),
 (Op.indexAddr 111 (Z3 30) (Operand.const (Value.int IntKind.i64 0)),Z0 31,[11]),
 (Op.load 3 (Z3 31),Z0 32,[12]),
 (Op.move (Z3 7),Z0 33,[]),
 (Op.call { callee:=Callee.builtin Builtin.len,args:=#[Z3 33],argTypes:=#[31] },Z0 34,[14]),
 (Op.build 110 #[(0,Z3 23),(1,Z3 29),(2,Z3 32),(3,Z3 34)],Z0 35,[4,10,13,15]),
 (Op.alloc 110,Z0 9,[]),
 (Op.store 110 (Z3 9) (Z3 35),Z1,[17,16,4,0,1,2,3,4,5,6,7,8,9,10,11,12,13,14,15,16,17])]
def Im:aL RCm 9 36 Qn:=bw (by kernel_rfl) (by kernel_rfl)
def zK {s:Operand} (ho:o.op=.call { callee:=.builtin .len,args:=#[s],argTypes:=#[31] }) {so:Option Addr} {n c:Nat} (hx:a.eval s=.slice so n c) (w:ZX):(execOp a.eval o).run ZT w=.ok (.value (Z8 Z9 n)) w:=by
 unfold execOp;simp only [ho,resolve,invoke,builtin,Uo,U2,UE,Vr,Uu,UY,hx];simp [Builtin.len_,UH Uh,goInt]
def kM (w:ZX) (b:Nat):Prop:=∃ cs:Array ZW,cs.size=6/\w.heap[b]?=Z0 (Z5 cs 110 (0,0))
def VCm (s ar v D L G t m pb po pn pc f:Nat) (so:Option Addr) (cap:Nat) (i:Nat) (u:ZW) (w:ZX):Prop:=match i with
 | 0|1|2|5|6=>u=Z7 (Z0 ⟨ar,0,Z1⟩)
 | 3=>u=Z7 (Z0 ⟨v,0,Z1⟩)
 | 4=>u=.agg #[Z8 Z9 D,Z8 Z9 L,Z8 Z9 G]
 | 7=>u=Z7 (Z0 ⟨ar,1,Z1⟩)
 | 8=>u=Z7 (Z0 ⟨ar,4,Z1⟩)
 | 9=>u=Z8 .u64 t
 | 10=>u=Z8 .u64 ((nx t:Nat):Int)
 | 11=>u=Z6 (Z0 ⟨pb,po,Z1⟩) pn pc
 | 12=>u=Z7 (Z0 ⟨pb,po,Z1⟩)
 | 13=>u=Z8 Z9 f
 | 14=>u=.slice so m cap
 | 15=>u=Z8 Z9 m
 | 16=>u=.agg (aq D L G (nx t) f m)
 | 17=>∃ b,u=Z7 (Z0 ⟨b,0,Z1⟩)/\s<=b/\kM w b
 | 18=>∃ b,s<=b/\w.heap[b]?=Z0 (Z5 (aq D L G (nx t) f m) 110 (0,0))
 | _=>True
def BCm (w0:ZX) (Dn:Nat->Bool) (w:ZX):Prop:=bW w0 w/\(∀ b b',w0.heap.size<=b->w0.heap.size<=b'->kM w b->kM w b'->b=b')/\(Dn 17=ZY->∀ b,w0.heap.size<=b->¬ kM w b)
def cE {w0:ZX} (h:BCm w0 Dn w) (i:Nat) (a:i≠17):BCm w0 (fI Dn i) w:=⟨h.1,h.2.1,λq=>h.2.2 (by unfold fI at q;rwa [if_neg (λe=>a e.symm)] at q)⟩
def xC (w:ZX):(zeroValue 110).run ZT w=.ok (.agg (aq 0 0 0 0 0 0)) w:=by
 obtain ⟨a,b,c⟩:∃ a,ZT.info? 110=Z0 a/\a.zero=Z0 (.agg (aq 0 0 0 0 0 0)):=by
  have:(ZT.info? 110).map (λi=>i.zero)=Z0 (Z0 (.agg (aq 0 0 0 0 0 0))):=by kernel_rfl
  rw [Wc] at this;exact this
 simp [zeroValue,typeInfo,Uo,b,c]
def kN (D L G t f n:Nat):(ZT.info? 110).map (λi=>i.size)=Z0 (aq D L G t f n).size:=by kernel_rfl
def pY (D L G t f n:Nat):(aq D L G t f n).all (λv=>v.oneCell')=ZZ:=by simp [aq,Value.oneCell']
def tW {b:Nat} (h:w.heap[b]?=Z0 (Z5 cs 110 (0,0))) (a:cs.size=6):(Instr.storeAt 110 (Z7 (Z0 ⟨b,0,Z1⟩)) (.agg (aq D L G t f n))).run ZT w=.ok () (w.setRow b (aq D L G t f n)):=by
 simp only [Instr.storeAt,Instr.sureAddr,Uo,U2,UE,XA w b 110 110 cs (aq D L G t f n) h (kN D L G t f n) (by rw [a];rfl) (pY D L G t f n)]
theorem vI {v pb po pn pc:Nat} {so:Option Addr} (hp:RCm=ops) (l:bk w v p D L G ps ho) (U:w.heap[ar]?=Z0 (Z5 cs 115 (0,0))) (h0:cs[0]?=Z0 (Z7 (Z0 ⟨v,0,Z1⟩))) (h4:cs[4]?=Z0 (Z8 .u64 t)) (k9:1<=pn) (hx:w.cell? ⟨pb,po,Z1⟩=Z0 (Z8 Z9 f))
 (ka:a.tmps.size=60) (X:a.eval (Z3 0)=Z7 (Z0 ⟨ar,0,Z1⟩)) (e2:a.eval (Z3 2)=Z6 (Z0 ⟨pb,po,Z1⟩) pn pc) (e7:a.eval (Z3 7)=.slice so m cap)
 (hQ:∀ (w':ZX) (vs:List ZW) (b:Nat),vs.length=17->w.heap.size<=b->w'.heap[b]?=Z0 (Z5 (aq D L G (nx t) f m) 110 (0,0))->bW w w'->Q .normal (Act.RR (a.put (Z0 9) (Z7 (Z0 ⟨b,0,Z1⟩))) 19 vs) w'):(Code.region 5 ops ZZ).wp ZT Q a w:=by
 subst hp;have Y:ar<w.heap.size:=(TX.1 U).1;have n1:IntKind.u64.wrap ((t:Int)+1)=((nx t:Nat):Int):=by rw [U5];unfold nx;omega
 refine dj (by kernel_rfl) Im a w (by omega) (VCm w.heap.size ar v D L G t m pb po pn pc f so cap) (BCm w) ⟨(TY _ w).drew,λb I H _ M _=>?_,λ_ b H M=>?_⟩ ?_ ?_
 . obtain ⟨c,_,M⟩:=M;have:=(TX.1 M).1;have k6:w.drew.heap.size=w.heap.size:=rfl;omega
 . obtain ⟨c,_,M⟩:=M;have:=(TX.1 M).1;have k6:w.drew.heap.size=w.heap.size:=rfl;omega
 . intro i P;match i,P with
   | 0,_=>exact λo g w' Dn C ho x z y B r d l=>af (ag ho ((z.slot 0 (by omega)).trans X) w') x ⟨cE d _ (by decide),rfl,kq⟩
   | 1,_=>
    intro o g w' Dn C ho x z y B r d l;have u0:g.eval (Z3 19)=Z7 (Z0 ⟨ar,0,Z1⟩):=l 0 (r 0 (by decide));exact af (fQ ho u0 w') x ⟨cE d _ (by decide),rfl,kq⟩
   | 2,_=>
    intro o g w' Dn C ho x z y B r d l;have u0:g.eval (Z3 20)=Z7 (Z0 ⟨ar,0,Z1⟩):=l 1 (r 1 (by decide));exact af (v:=Z7 (Z0 ⟨ar,0,Z1⟩)) (by (conv at ho=>rhs;whnf);simp only [execOp,ho,u0];go_simp) x ⟨cE d _ (by decide),rfl,kq⟩
   | 3,_=>
    intro o g w' Dn C ho x z y B r d l;have u0:g.eval (Z3 21)=Z7 (Z0 ⟨ar,0,Z1⟩):=l 2 (r 2 (by decide));have T:=(d.1.block ar Y).trans U;have c:w'.cell? ⟨ar,0,Z1⟩=Z0 (Z7 (Z0 ⟨v,0,Z1⟩)):=(by simp [World.cell?,T,h0]);exact af (v:=Z7 (Z0 ⟨v,0,Z1⟩)) (by (conv at ho=>rhs;whnf);simp only [execOp,ho,u0];go_simp) x ⟨cE d _ (by decide),rfl,kq⟩
   | 4,_=>
    intro o g w' Dn C ho x z y B r d k0;have u0:g.eval (Z3 22)=Z7 (Z0 ⟨v,0,Z1⟩):=k0 3 (r 3 (by decide));have S:Dn 18=ZY:=by
     cases q:Dn 18 with
     | false=>rfl
     | true=>have:=(B 18 q).2 4 (by decide);rw [y] at this;cases this
    refine gj (f:=67) (args:=#[Z7 (Z0 ⟨v,0,Z1⟩)]) (w1:=w') (by (conv at ho=>rhs;whnf);simp only [execOp,ho];go_simp;simpa [Act.eval] using u0) x (kl (l.keep (d.1.block _ l.lt))) ?_;rintro e W ⟨rfl,H,hz,hn⟩;have O:∀ b,kM W b->kM w' b:=λb ⟨c,F,A⟩=>by
     have:=(TX.1 A).1;by_cases e:b=w'.heap.size
     . subst e;rw [hn] at A;simp at A
     . exact ⟨c,F,(H.block b (by omega)).symm.trans A⟩
    refine ⟨_,rfl,⟨d.1.trans (H.mono d.1.size),λb I J K F A=>d.2.1 b I J K (O b F) (O I A),λq b J K=>d.2.2 (by unfold fI at q;rwa [if_neg (by decide)] at q) b J (O b K)⟩,rfl,λj u E q=>?_⟩;match j,E,q with
    | 0,_,q|1,_,q|2,_,q|3,_,q|4,_,q|5,_,q|6,_,q|7,_,q|8,_,q|9,_,q|10,_,q|11,_,q|12,_,q|13,_,q|14,_,q|15,_,q|16,_,q=>exact q
    | 17,_,⟨b,F,A,c,R,N⟩=>exact ⟨b,F,A,c,R,(H.block b (TX.1 N).1).trans N⟩
    | 18,E,_=>rw [S] at E;cases E
    | n+19,_,_=>trivial
   | 5,_=>exact λo g w' Dn C ho x z y B r d l=>af (ag ho ((z.slot 0 (by omega)).trans X) w') x ⟨cE d _ (by decide),rfl,kq⟩
   | 6,_=>
    intro o g w' Dn C ho x z y B r d l;have u0:g.eval (Z3 24)=Z7 (Z0 ⟨ar,0,Z1⟩):=l 5 (r 5 (by decide));exact af (fQ ho u0 w') x ⟨cE d _ (by decide),rfl,kq⟩
   | 7,_=>
    intro o g w' Dn C ho x z y B r d l;have u0:g.eval (Z3 25)=Z7 (Z0 ⟨ar,0,Z1⟩):=l 6 (r 6 (by decide));exact af (v:=Z7 (Z0 ⟨ar,1,Z1⟩)) (by (conv at ho=>rhs;whnf);simp only [execOp,ho,u0];go_simp) x ⟨cE d _ (by decide),rfl,kq⟩
   | 8,_=>
    intro o g w' Dn C ho x z y B r d l;have u0:g.eval (Z3 26)=Z7 (Z0 ⟨ar,1,Z1⟩):=l 7 (r 7 (by decide));exact af (v:=Z7 (Z0 ⟨ar,4,Z1⟩)) (by (conv at ho=>rhs;whnf);simp only [execOp,ho,u0];go_simp) x ⟨cE d _ (by decide),rfl,kq⟩
   | 9,_=>
    intro o g w' Dn C ho x z y B r d l;have u0:g.eval (Z3 27)=Z7 (Z0 ⟨ar,4,Z1⟩):=l 8 (r 8 (by decide));have T:=(d.1.block ar Y).trans U;have c:w'.cell? ⟨ar,4,Z1⟩=Z0 (Z8 .u64 t):=(by simp [World.cell?,T,h4]);exact af (v:=Z8 .u64 t) (by (conv at ho=>rhs;whnf);simp only [execOp,ho,u0];go_simp) x ⟨cE d _ (by decide),rfl,kq⟩
   | 10,_=>
    intro o g w' Dn C ho x z y B r d l;have u0:g.eval (Z3 28)=Z8 .u64 t:=l 9 (r 9 (by decide));exact af (v:=Z8 .u64 ((nx t:Nat):Int)) (by (conv at ho=>rhs;whnf);simp only [execOp,ho,u0,show g.eval (Operand.const (Value.int IntKind.u64 1))=Value.int IntKind.u64 1 from rfl];go_simp) x ⟨cE d _ (by decide),rfl,kq⟩
   | 11,_=>exact λo g w' Dn C ho x z y B r d l=>af (ag ho ((z.slot 2 (by omega)).trans e2) w') x ⟨cE d _ (by decide),rfl,kq⟩
   | 12,_=>
    intro o g w' Dn C ho x z y B r d l;have u0:g.eval (Z3 30)=Z6 (Z0 ⟨pb,po,Z1⟩) pn pc:=l 11 (r 11 (by decide));exact af (v:=Z7 (Z0 ⟨pb,po,Z1⟩)) (by (conv at ho=>rhs;whnf);simp only [execOp,ho,u0,show g.eval (Operand.const (Value.int IntKind.i64 0))=Value.int IntKind.i64 0 from rfl];go_simp;intro h;omega) x ⟨cE d _ (by decide),rfl,kq⟩
   | 13,_=>
    intro o g w' Dn C ho x z y B r d l;have u0:g.eval (Z3 31)=Z7 (Z0 ⟨pb,po,Z1⟩):=l 12 (r 12 (by decide));have c:w'.cell? ⟨pb,po,Z1⟩=Z0 (Z8 Z9 f):=(d.1.cell (p:=⟨pb,po,Z1⟩) (Ub hx)).trans hx;exact af (v:=Z8 Z9 f) (by (conv at ho=>rhs;whnf);simp only [execOp,ho,u0];go_simp) x ⟨cE d _ (by decide),rfl,kq⟩
   | 14,_=>exact λo g w' Dn C ho x z y B r d l=>af (ag ho ((z.slot 7 (by omega)).trans e7) w') x ⟨cE d _ (by decide),rfl,kq⟩
   | 15,_=>
    intro o g w' Dn C ho x z y B r d l;have u0:g.eval (Z3 33)=.slice so m cap:=l 14 (r 14 (by decide));exact af (v:=Z8 Z9 m) (zK ho u0 w') x ⟨cE d _ (by decide),rfl,kq⟩
   | 16,_=>
    intro o g w' Dn C ho x z y B r d l;have u0:g.eval (Z3 23)=.agg #[Z8 Z9 D,Z8 Z9 L,Z8 Z9 G]:=l 4 (r 4 (by decide));have u1:g.eval (Z3 29)=Z8 .u64 ((nx t:Nat):Int):=l 10 (r 10 (by decide));have u2:g.eval (Z3 34)=Z8 Z9 m:=l 15 (r 15 (by decide));have u3:g.eval (Z3 32)=Z8 Z9 f:=l 13 (r 13 (by decide));exact af (v:=.agg (aq D L G (nx t) f m)) (by (conv at ho=>rhs;whnf);simp only [execOp,ho,Vr,Uu,UY,u0,u1,u2,u3];go_simp;rfl) x ⟨cE d _ (by decide),rfl,kq⟩
   | 17,_=>
    intro o g w' Dn C ho x z y B r d l;have S:Dn 18=ZY:=by
     cases q:Dn 18 with
     | false=>rfl
     | true=>have:=(B 18 q).2 17 (by decide);rw [y] at this;cases this
    have O:∀ b,w.heap.size<=b->kM (w'.alloc (Z5 (aq 0 0 0 0 0 0) 110)) b->b=w'.heap.size:=λb H ⟨c,F,A⟩=>by
     have:=(TX.1 A).1;simp at this;by_cases e:b=w'.heap.size
     . exact e
     . exact absurd ⟨c,F,(Ux _ _ _ (by omega)).symm.trans A⟩ (d.2.2 y b H)
    refine af (v:=Z7 (Z0 ⟨w'.heap.size,0,Z1⟩)) (w':=w'.alloc (Z5 (aq 0 0 0 0 0 0) 110)) (by (conv at ho=>rhs;whnf);simp only [execOp,ho];go_simp;rfl) x ⟨⟨d.1.alloc d.1.size _,λb I J K F A=>(O b J F).trans (O I K A).symm,λq=>(by unfold fI at q;rw [if_pos rfl] at q;cases q)⟩,⟨_,rfl,d.1.size,_,rfl,Uc _ _⟩,λj u E q=>?_⟩;match j,E,q with
    | 0,_,q|1,_,q|2,_,q|3,_,q|4,_,q|5,_,q|6,_,q|7,_,q|8,_,q|9,_,q|10,_,q|11,_,q|12,_,q|13,_,q|14,_,q|15,_,q|16,_,q=>exact q
    | 17,E,_=>rw [y] at E;cases E
    | 18,E,_=>rw [S] at E;cases E
    | n+19,_,_=>trivial
   | 18,_=>
    intro o g w' Dn C ho x z y B r d l;obtain ⟨b,u0,H,c,R,N⟩:VCm w.heap.size ar v D L G t m pb po pn pc f so cap 17 (g.eval (Z3 9)) w':=l 17 (r 17 (by decide));have u1:g.eval (Z3 35)=.agg (aq D L G (nx t) f m):=l 16 (r 16 (by decide));have V:∀ I,kM (w'.setRow b (aq D L G (nx t) f m)) I->kM w' I:=λI ⟨c',F,A⟩=>by
     by_cases e:I=b
     . subst e;exact ⟨c,R,N⟩
     . exact ⟨c',F,((aK w' b _).block I (by have:=(TX.1 A).1;rwa [gw] at this) (λq=>e (by cases q;rfl))).symm.trans A⟩
    have hO:Below w.heap.size w' (w'.setRow b (aq D L G (nx t) f m)):=⟨rfl,rfl,rfl,by rw [gw];exact TV _,λk z=>(aK w' b _).block k (by have:=d.1.size;omega) (λq=>by cases q;omega)⟩;refine ig (w':=w'.setRow b (aq D L G (nx t) f m)) (by (conv at ho=>rhs;whnf);simp [execOp,ho,u0,u1,tW N R]) ⟨⟨d.1.trans hO,λb1 b2 J K F A=>d.2.1 b1 b2 J K (V b1 F) (V b2 A),λq b1 J K=>d.2.2 (by unfold fI at q;rwa [if_neg (by decide)] at q) b1 J (V b1 K)⟩,⟨b,H,Vf w' b c _ _ _ N⟩,λj u E q=>?_⟩;match j,E,q with
    | 0,_,q|1,_,q|2,_,q|3,_,q|4,_,q|5,_,q|6,_,q|7,_,q|8,_,q|9,_,q|10,_,q|11,_,q|12,_,q|13,_,q|14,_,q|15,_,q|16,_,q=>exact q
    | 17,_,⟨b1,F,A,c1,q5,q6⟩=>
     refine ⟨b1,F,A,?_⟩;have e:b1=b:=d.2.1 b1 b A H ⟨c1,q5,q6⟩ ⟨c,R,N⟩;subst e;exact ⟨_,rfl,Vf w' b1 c1 _ _ _ q6⟩
    | 18,E,_=>rw [y] at E;cases E
    | n+19,_,_=>trivial
   | n+19,hn=>exact absurd hn (by show ¬ n+19<19;omega)
 . rintro g w' Z hh ⟨Dn,hD,d⟩ l;obtain ⟨b,u0,H,M⟩:VCm w.heap.size ar v D L G t m pb po pn pc f so cap 17 (g.eval (Z3 9)) w':=l 17 (by decide);obtain ⟨b2,k5,hy⟩:VCm w.heap.size ar v D L G t m pb po pn pc f so cap 18 undef w':=l 18 (by decide);have e:b2=b:=d.2.1 b2 b k5 H ⟨_,rfl,hy⟩ M;subst e;have e:g=Act.RR (a.put (Z0 9) (Z7 (Z0 ⟨b2,0,Z1⟩))) 19 ((YE 17).map λi=>g.eval (.tmp (19+i))):=Ep Z.size Z.defers (by rw [T7,UC];omega) (by decide) u0 (λi P=>by
    rw [T7,UC] at P;rw [T5,Un,Vw P];rfl) (λs hs k7=>by
    rw [T7,UC] at k7;refine hh s λi P=>?_;have k8:i<19:=P;rcases XE i 17 with h|h
    . intro q;have h3:(bB Qn i).2.1=Z0 (19+i):=by
       have:∀ i,i<17->(bB Qn i).2.1=Z0 (19+i):=by decide
       exact this i h
      rw [h3] at q;have:=UI q;omega
    . rcases XE i 18 with h5|h5
      . have:i=17:=by omega
        subst this;intro q;have:=UI q;omega
      . have:i=18:=by omega
        subst this;intro q;cases q)
   rw [e];exact hQ w' _ b2 (by rw [T7,UC]) H hy d.1
def Er (h:w.heap[q]?=Z0 (Z5 (aq D L G t f n) 110 (0,0))):(Instr.loadAt 110 (Z7 (Z0 ⟨q,0,Z1⟩))).run ZT w=.ok (.agg (aq D L G t f n)) w:=by
 simp only [Instr.loadAt,Instr.sureAddr,Uo,U2,UE,WN w q 110 110 (aq D L G t f n) (0,0) _ h XR rfl (by kernel_rfl)]
def kO {rest:List Oper} (e:o.guard=Z1) (x:Operand) (ho:o.op=.load 110 x) {b D L G t f n:Nat} {ra:Array ZW} (c:ra=aq D L G t f n)
 (g:a.eval x=Z7 (Z0 ⟨b,0,Z1⟩)) (d:w.heap[b]?=Z0 (Z5 (aq D L G t f n) 110 (0,0))) (h:wpList ZT ops Q rest (a.put o.dst (.agg ra)) w):wpList ZT ops Q (o::rest) a w:=by
 refine VO e λK hK=>?_;subst c;unfold Oper.wp;simp [execOp,ho,g,Er d,Result.andThen];exact hK _ _ h
def Cj {v:Nat} (h:bh w ar v D' L' G' t' f' n' pg ob off):bh (w.setCells ar 1 (aq D L G t f n).toList) ar v D L G t f n pg ob off:=by
 have a:w.heap[ar]?=Z0 (Z5 (nr v D' L' G' t' f' n' pg ob off) 115 (0,0)):=h;have:=ai (j:=6) (ai (j:=5) (ai (j:=4) (ai (j:=3) (ai (j:=2) (ai (j:=1) a (Z8 Z9 (D:Int))) (Z8 Z9 (L:Int))) (Z8 Z9 (G:Int))) (Z8 .u64 (t:Int))) (Z8 Z9 (f:Int))) (Z8 Z9 (n:Int));exact this
def bh.there {v:Nat} (h:bh w ar v D' L' G' t' f' n' pg ob off):w.there ar 1 6:=by
 have a:w.heap[ar]?=Z0 (Z5 (nr v D' L' G' t' f' n' pg ob off) 115 (0,0)):=h;intro j b;match j,b with
 | 0,_|1,_|2,_|3,_|4,_|5,_=>simp [World.cell?,World.frozen?,a,nr]
 | n+6,hn=>exact absurd hn (by omega)
def bh.late {v:Nat} (h:bh w ar v D' L' G' t' f' n' pg ob off) (b a:ZW):bh ((w.setCell ⟨ar,7,Z1⟩ b).setCell ⟨ar,8,Z1⟩ a) ar v D' L' G' t' f' n' b a off:=by
 have c:w.heap[ar]?=Z0 (Z5 (nr v D' L' G' t' f' n' pg ob off) 115 (0,0)):=h;exact ai (j:=8) (ai (j:=7) c b) a
def bh.tail {v:Nat} (h:bh w ar v D' L' G' t' f' n' pg ob off):w.cell? ⟨ar,7,Z1⟩=Z0 pg/\w.frozen? ⟨ar,7,Z1⟩=ZY/\w.cell? ⟨ar,8,Z1⟩=Z0 ob/\w.frozen? ⟨ar,8,Z1⟩=ZY:=by
 have a:w.heap[ar]?=Z0 (Z5 (nr v D' L' G' t' f' n' pg ob off) 115 (0,0)):=h;simp [World.cell?,World.frozen?,a,nr]
def Qo (h:vs.length=17):∃ a b c d e f g i j k l m n o p q r,vs=[a,b,c,d,e,f,g,i,j,k,l,m,n,o,p,q,r]:=by
 match vs,h with
 | [a,b,c,d,e,f,g,i,j,k,l,m,n,o,p,q,r],_=>exact ⟨_,_,_,_,_,_,_,_,_,_,_,_,_,_,_,_,_,rfl⟩
def Es (w:ZX) (vo:ZW) (l:a8):Prop:=∀ W,bW w W->ZV ZT 121 #[vo] W λe w'=>∃ g cap,e=Z4 (Z6 (Z0 ⟨g,0,Z1⟩) l.length cap)/\w'.ownsRow W.heap.size 5 1 (Z6 (Z0 ⟨g,0,Z1⟩) l.length cap) l.length (aI l)/\bW W w'
def aH.Tm (A:aH) (D L G t:Nat) (P l:a8):aH:=(A.wrTo D L G P (bU D P l) P.length).putAt (YE A.n) 0 (λ_=>.root D L G t (P.getD 0 0) l.length)
def Lu (w:ZX) (ar v p D L G t D' L' G' f nn:Nat) (A:aH) (F:aR) (P l:a8) (vp vo pg ob:ZW) (off:Bool) (e:Ending) (w':ZX):Prop:=aa (λk=>k=ar\/F.S k) w w'/\((e=Z4 .nilIface/\aB w' p (A.Tm D L G (nx t) P l) F/\bh w' ar v D L G (nx t) (P.getD 0 0) l.length vp vo off) \/
 (e=Z4 fJ/\¬ A.clean/\bh w' ar v D' L' G' t f nn pg ob off/\∃ k,k<=P.length/\aB w' p (A.wrTo D L G P (bU D P l) k) F))
theorem nA {v:Nat} {A:aH} (ha:bh w ar v D' L' G' t f nn pg ob off) (E:pH w v p D L G ps ho A F) (O:¬ F.S ar)
 (oo:Option Addr) (on oc:Nat) (l:a8) (qf:∀ x∈l,x<256) (hll:l.length<=1000000) (q4:Es w (.slice oo on oc) l)
 (pb po pc:Nat) (P:a8) (hP:br (λk=>¬ F.S k) w (Z6 (Z0 ⟨pb,po,Z1⟩) P.length pc) P) (kv:P≠[]) (ky:∀ x∈P,x<A.nb) (qb:∀ k,k<P.length->k*(D*44-4)<=l.length) :
 ZV ZT 86 #[Z7 (Z0 ⟨ar,0,Z1⟩),.slice oo on oc,Z6 (Z0 ⟨pb,po,Z1⟩) P.length pc] w (Lu w ar v p D L G t D' L' G' f nn A F P l (Z6 (Z0 ⟨pb,po,Z1⟩) P.length pc) (.slice oo on oc) pg ob off):=by
 obtain ⟨hr,qj,hD,hL,qk,hG,qd,ko⟩:=E.par;have hn:=E.n;have h8:0<P.length:=XY.2 kv;obtain ⟨a,Y⟩:=nM (P.getD 0 0);have hm:P[0]=a:=by rw [<- Y];simp [h8]
 have qm:=E.arr.SC.2;have qe:a<A.nb:=by rw [<- hm];exact ky _ (T4 _)
 have qg:(bC.root D L G (nx t) a l.length).ok:=by
  have:=RF t;exact ⟨by omega,by omega,by omega,by omega,by omega,by omega⟩
 unfold Lu aH.Tm;rw [Y];have HA:=au Y hm;have HP:=al hP;clear Y hm hP;go_enter func86,ntmps86;go_wp2_with fail;refine (q4 w (TY _ w)).mono ?_;rintro e w1 ⟨g,cap,rfl,hv,j⟩;have y:=ha.keep (j.block _ ha.lt);have J:=E.below j lR;have hf:=HP.out.keep (eB.RT j);have q9:=tV y J O g cap w.heap.size l hv qf hll (λk M=>E.arr.RU M) _ P hf ky qb;have H1:=a6 j q9 hf y J;clear j q9 hf hv y J;go_wp2_with fail;refine H1.out.2.1.mono ?_;rintro e w2 ⟨kk,er,rfl,kg,R,I,qh⟩;obtain ⟨j,_,hg,y,J⟩:=H1.out;have B:=y.keep (I.block _ y.lt O);have o:aa F.S w w2:=(aa.RS j _).trans I;rcases qh with ⟨rfl,rfl⟩|⟨rfl,q2⟩;rotate_left
 . have d:=a6 (o.mono (T:=λk=>k=ar\/F.S k) λ_ _ q=>.inr q) q2 B kg R;clear j hg y J R I B o q2 kg q4;unfold fJ;go_wp2;go_ret;exact ⟨d.out.1,.inr ⟨rfl,d.out.2.1,d.out.2.2.1,kk,d.out.2.2.2.1,d.out.2.2.2.2⟩⟩
 clear kg;have q5:=gQ A D L G P (bU D P l) P.length;have N:=J.turn I R q5.1;have kx:=hg.keep (eB.R9 I);obtain ⟨b',qo,c',e1,q0⟩:=rY kx kv;simp only [Vt,UO,Yz] at e1;obtain ⟨⟨rfl,rfl,_⟩,_,rfl⟩:=e1;have kh:=q0 0 h8;rw [VJ,HA.out.2] at kh;have o:aa (F.S) w w2:=(aa.RS j _).trans I;have d:=a5 B N o kh;clear j hg y J R I B N kx q0 kh o;go_wp2_with fail;refine vI (f:=a) (by kernel_rfl) d.out.2.1.vol d.out.1 rfl rfl (by omega) d.out.2.2.2 rfl rfl rfl rfl ?_;intro s vs m q7 kj b W;obtain ⟨x0,x1,x2,x3,x4,x5,x6,x7,x8,x9,xa,xb,xc,xd,xe,xf,xg,rfl⟩:=Qo q7;obtain ⟨B,N,o,ki⟩:=d.out;clear ki;have c:=B.keep (W.block _ B.lt);have r:=N.below W lR;have u:aa (F.S) w s:=o.trans (aa.RS W _);have C:¬ F.S m:=λq=>by have:=E.arr.RU q;have:=o.size;omega
 have H3:=a7 c r u b C kj;clear B N o c r u b C kj W q7;rename_i hK
 refine hK _ _ ?_;clear hK;simp only [Act.RR,Act.put,UW,UR,UX];go_wp2_with fail;obtain ⟨c,r,u,b,C,kj⟩:=H3.out;obtain ⟨hd,qn,qp,qq⟩:=q5;obtain ⟨S,Z⟩:=nM (2^(D+L+G)-1);have kb:ab S=YE A.n:=by rw [<- Z,hn];exact oh ko
 have kz:S<65536:=by
  have:2^(D+L+G)<=2^16:=Vq (by decide) ko;omega
 have q8:∀ X,bW s X->ZV ZT 96 #[Z7 (Z0 ⟨v,0,Z1⟩),Z8 Z9 (0:Nat),cj (.root D L G (nx t) a l.length),Z8 .u64 S] X λe w'=>(∃ z:Nat,e=Z4 (Z8 .u64 z))/\aB w' p ((A.wrTo D L G P (bU D P l) P.length).putAt (YE A.n) 0 (λ_=>.root D L G (nx t) a l.length)) F/\aa (F.S) s w':=λX K=>by
  have qc:=r.below K lR;have h:=gJ qc 0 S (by rw [qn];omega) kz (λi hi=>by rw [hd];rw [kb] at hi;simpa using hi) (.root D L G (nx t) a l.length) qg;rw [kb] at h;exact h.mono λe w' q=>⟨⟨_,q.1⟩,q.2.1,(aa.RS K _).trans q.2.2⟩
 have ke:=nz (r.vol.keep (w':=s.drew) rfl) E.par;rw [Z] at ke;have kf:∀ X,bW s X->X.cell? ⟨ar,0,Z1⟩=Z0 (Z7 (Z0 ⟨v,0,Z1⟩))/\X.cell? ⟨m,0,Z1⟩=Z0 (Z8 Z9 D)/\X.cell? ⟨m,1,Z1⟩=Z0 (Z8 Z9 L)/\X.cell? ⟨m,2,Z1⟩=Z0 (Z8 Z9 G)/\X.cell? ⟨m,3,Z1⟩=Z0 (Z8 .u64 (nx t))/\X.cell? ⟨m,4,Z1⟩=Z0 (Z8 Z9 a)/\X.cell? ⟨m,5,Z1⟩=Z0 (Z8 Z9 l.length):=λX K=>by
  have qi:X.heap[m]?=Z0 (Z5 (aq D L G (nx t) a l.length) 110 (0,0)):=(K.block m (TX.1 b).1).trans b;refine ⟨(c.keep (K.block _ c.lt)).cells.1,?_,?_,?_,?_,?_,?_⟩<;>simp [World.cell?,qi,aq]
 obtain ⟨k0,k1,k2,k3,k4,k5,k6⟩:=kf s (TY _ _);have Q:=aE q8 ke kf;have qa:=a6 c r u b C;clear q8 ke kf c r u b C Z kb kz;go_cut [47] from 36 to 46 (λ_ wx=>aB wx p ((A.wrTo D L G P (bU D P l) P.length).putAt (YE A.n) 0 (λ_=>.root D L G (nx t) a l.length)) F/\aa (F.S) s wx)
 case first=>
  go_region_with (first
   | (go_at_call 102;refine Q.out.2.1.mono ?_;rintro e w5 ⟨rfl,q1⟩;have hj:bW s w5:=((TY _ s).drew).trans q1;obtain ⟨j0,j1,j2,j3,j4,j5,j6⟩:=Q.out.2.2 w5 hj;have H5:=al hj;clear q1 hj)
   | (go_at_call 96;refine (Q.out.1 w5 H5.out).mono ?_;rintro e w6 ⟨⟨z,rfl⟩,kr,ks⟩;have H6:=au kr ks;clear kr ks))
  all_goals (go_wp2_with fail;go_meet;case rel=>exact H6.out)
 case rest=>
 rename ZX=>w4;obtain ⟨kp,U⟩:=hcut;obtain ⟨c,r,u,b,C⟩:=qa.out;clear k0 k1 k2 k3 k4 k5 k6 Q;have kc:=c.keep (U.block _ c.lt O);have h5:=(U.block m (TX.1 b).1 C).trans b;have hp:aa (λk=>k=ar\/F.S k) w w4:=(u.trans U).mono λ_ _ q=>.inr q;have q6:=kc.there;have V:=Cj (D:=D) (L:=L) (G:=G) (t:=nx t) (f:=a) (n:=l.length) kc;have ka:=hp.trans (aa.setCells (S:=λk=>k=ar\/F.S k) _ ar 1 (aq D L G (nx t) a l.length).toList (.inl rfl));have k9:=kp.outside (aa.setCells (S:=λk=>k=ar) w4 ar 1 (aq D L G (nx t) a l.length).toList rfl) (λk M e=>O (e▸M));obtain ⟨w8,km⟩:=nM (w4.setCells ar 1 (aq D L G (nx t) a l.length).toList);rw [km] at V ka k9;obtain ⟨c7,f7,c8,f8⟩:=V.tail;have H:=a7 k9 ka V q6 h5 km;clear kp U kc hp q6 V ka k9 km h5 c r u b;go_wp2_with (first|(refine kO rfl (Z3 9) rfl rfl (by rfl) (by exact H.out.2.2.2.2.1) ?_)|(refine wpList_store_mid rfl 110 (Z3 55) (Z3 51) rfl ar 1 (aq D L G (nx t) a l.length) (by rfl) (by rfl) (by exact H.out.2.2.2.1) (kN _ _ _ _ _ _) (pY _ _ _ _ _ _) ?_;rw [H.out.2.2.2.2.2]));go_ret;refine ⟨(H.out.2.1.trans (aa.setCell _ _ _ (.inl rfl))).trans (aa.setCell _ _ _ (.inl rfl)),.inl ⟨rfl,?_,H.out.2.2.1.late _ _⟩⟩;exact H.out.1.keep λk M=>by
  have q3:k≠ar:=λe=>O (e▸M);exact (Ud _ _ _ _ q3).trans (Ud _ _ _ _ q3)
def fD (s:ByteArray):a8:=s.toList.map (λ(b:UInt8)=>b.toNat)++YD (16-s.size) 0
def bM (o:Ob):a8:=be o.name.size 1++fD o.name++be o.size 2++o.RQ.flatMap (λs=>be s 4)
def an (os:List Ob):a8:=os.flatMap bM
structure Ob.fit (o:Ob):Prop where
 name:1<=o.name.size/\o.name.size<=16
 size:o.size<=1500
 st:∀ s∈o.RQ,s<4294967296
 len:o.RQ.length<=1000
def xD (l:a8):(l.flatMap (λs=>be s 4)).length=4*l.length:=by
 induction l with
 | nil=>rfl
 | cons x l ih=>rw [VE,T8,ih,aF,Uv];omega
def mB (h:s.size<=16):(fD s).length=16:=by
 unfold fD;rw [T8,T7,Xy,XZ];have:s.data.toList.length=s.size:=by rw [Wk];rfl
 omega
def cQ {o:Ob} (h:o.fit):(bM o).length=19+4*o.RQ.length:=by
 unfold bM;rw [T8,T8,T8,aF,aF,mB h.name.2,xD]
def kQ (os:List Ob) (k:Nat) (a:k<os.length):an (os.take (k+1))=an (os.take k)++bM os[k]:=by
 unfold an;rw [U6,Ua a,Wo];simp
theorem ga (k:Nat) (b:k<=1000000) (w:ZX):ZV ZT 104 #[Z8 Z9 k] w λe w'=>e=Z4 (Z8 Z9 ((19+4*k:Nat):Int))/\w'=w:=by
 have a:((19+4*k:Nat):Int)=19+4*(k:Int):=by omega
 rw [a];go_enter func104,ntmps104;go_wp2;go_ret;exact ⟨rfl,rfl⟩
def LnR (w:ZX) (os:List Ob) (s i:ZW) (wr:ZX):Prop:=∃ k:Nat,k<=os.length/\i=Z8 Z9 k/\s=Z8 Z9 (((an (os.take k)).length:Nat):Int)/\bW w wr
theorem tX {os:List Ob} (I:eY K w v os) (j:∀ o∈os,o.fit) (P:os.length<=10000):ZV ZT 85 #[v] w λe w'=>e=Z4 (Z8 Z9 (((an os).length:Nat):Int))/\bW w w':=by
 obtain ⟨ao,c,rfl,_,l⟩:=I;have g:∀ k,k<=os.length->(an (os.take k)).length<=k*5000:=by
  intro k D;induction k with
  | zero=>simp [an]
  | succ k ih=>
   have f:k<os.length:=(by omega);have:=ih (by omega);have A:=j _ (T4 f);rw [kQ os k f,T8,cQ A];have:=A.len;omega
 obtain ⟨N,p⟩:=nM (os.length);have r:=a5 l j g p;rw [p] at P ⊢;clear l j g p;go_enter func85,ntmps85;go_wp2_with fail;go_loopw [3,8] (λs i wr=>LnR w os s i wr) (λ_ i _=>N-(intOf i).toNat)
 case atStart=>exact ⟨0,T9 _,rfl,rfl,TY _ _⟩
 case round=>
  obtain ⟨k,D,rfl,rfl,d⟩:=hrel;rw [r.out.2.2.2] at D;by_cases Y:k<N
  . obtain ⟨l,j,g,p⟩:=r.out;have f:k<os.length:=(by omega);obtain ⟨b,off,rfl,W,u,z⟩:=l (λe=>by rw [e] at f;cases f);obtain ⟨U,c0,c1,y,J⟩:=z k f;obtain ⟨T,sc,Q,R,_⟩:=J;have F:wr.cell? ⟨b,off+k*3,Z1⟩=Z0 (Z2 os[k].name):=(Ul (d.block b u)).trans c0;have d1:wr.cell? ⟨b,off+k*3+1,Z1⟩=Z0 (Z8 Z9 (os[k].size:Nat)):=(Ul (d.block b u)).trans c1;have G:wr.cell? ⟨b,off+k*3+2,Z1⟩=Z0 U:=(Ul (d.block b u)).trans y;subst Q;have M:=g k (by omega);have O:=g (k+1) (by omega);have n:(an (os.take (k+1))).length=(an (os.take k)).length+(19+4*os[k].RQ.length):=(by rw [kQ os k f,T8,cQ (j _ (T4 f))]);obtain ⟨a,x⟩:=nM ((an (os.take k)).length);obtain ⟨V,h⟩:=nM ((an (os.take (k+1))).length);obtain ⟨m,t⟩:=nM (os[k].RQ.length);obtain ⟨nm,B⟩:=nM (os[k].name);obtain ⟨sz,C⟩:=nM (os[k].size);rw [x,h,t] at n;rw [x] at M ⊢;rw [h] at O;rw [t] at G;rw [B] at F;rw [C] at d1;rw [t] at R;have S:=d.size;have H:=aE d h n;have X:((k:Nat):Int).toNat=k:=(by omega);clear d c0 c1 y l j g z n x h t B C p;go_wp2_with fail;refine (ga m (by omega) _).mono ?_;obtain ⟨q,E⟩:=nM (19+4*m);rw [E];rintro e w2 ⟨rfl,rfl⟩;have Z:a+q<=100000000:=(by have:=H.out.2.2;omega);go_wp2;obtain ⟨d,h,n⟩:=H.out;refine ⟨⟨k+1,by rw [r.out.2.2.2];omega,by go_num,?_,d.alloc S _⟩,by simp [intOf];omega⟩;rw [h,n,E];first|rfl|(congr 1)
  . have L:k=N:=(by omega);subst L;have H:=al d;clear d;go_wp2;go_ret;refine ⟨?_,H.out⟩;rw [UD (by rw [r.out.2.2.2];exact TV _)];rfl
theorem Cl (s:ByteArray):(List.take 0 (aI (YD 16 0))++Lib.byteCells s.data.toList++List.drop (0+s.size) (aI (YD 16 0))).toArray=(aI (fD s)).toArray:=by
 congr 1;unfold fD aI Lib.byteCells;rw [XZ,YJ,VR,Uk,Ue,X9,Uw,YJ,List.map_map];rfl
def NT (w:ZX) (g:Nat) (s:ByteArray) (Dn:Nat->Bool) (w':ZX):Prop:=w'=if Dn 3=ZZ then w.drew.setRow g (aI (fD s)).toArray else w.drew
def zL (h:NT w g s Dn w') (i:Nat) (a:3≠i):NT w g s (fI Dn i) w':=by unfold NT;rw [bZ a];exact h
theorem Lv (h:NT w g s Dn w') {a:Addr} (c:a.block≠g) {v:ZW} (b:w.cell? a=Z0 v):w'.cell? a=Z0 v:=by
 unfold NT at h;subst h;split
 . exact (Ul ((aK w.drew g _).block a.block (Ub b) (λe=>c (UI e)))).trans b
 . exact b
noncomputable def RK6:Array Oper:=((Tryz.f121.body.bind (pe · 6))).getD #[]
def aaG:List (Op×Option Nat×a8):=[(Op.slice 264 (Z3 6) Z1 Z1 Z1,Z0 18,[]),
 (Op.fieldAddr 130 (Z3 5) 0,Z0 19,[]),
 (Op.load 9 (Z3 19),Z0 20,[1]),
 (Op.call { callee:=Callee.builtin Builtin.copy,args:=#[Z3 18,Z3 20],argTypes:=#[31,9] },Z0 21,[0,2])]
def Io:aL RK6 18 22 aaG:=bw (by kernel_rfl) (by kernel_rfl)
def aaH (g q:Nat) (s:ByteArray):List ZW:=[Z6 (Z0 ⟨g,0,Z1⟩) 16 16,Z7 (Z0 ⟨q,0,Z1⟩),Z2 s,Z8 Z9 (s.size:Nat)]
theorem zM (x:s.size<=16) (D:w.heap[g]?=Z0 (Z5 (aI (YD 16 0)).toArray 264 (0,0))) (G:w.cell? ⟨q,0,Z1⟩=Z0 (Z2 s)) (E:q≠g) (A:RK6=ops) (t:a.tmps.size=50)
 (y:a.eval (Z3 5)=Z7 (Z0 ⟨q,0,Z1⟩)) (z:a.eval (Z3 6)=Z7 (Z0 ⟨g,0,Z1⟩))
 (C:∀ (w':ZX),w'=w.drew.setRow g (aI (fD s)).toArray->Q .normal (Act.RR a 18 [Z6 (Z0 ⟨g,0,Z1⟩) 16 16,Z7 (Z0 ⟨q,0,Z1⟩),Z2 s,Z8 Z9 (s.size:Nat)]) w'):(Code.region 6 ops ZZ).wp ZT Q a w:=by
 subst A;have t:(ZT.info? 5).map (λi=>i.size)=Z0 1:=by kernel_rfl
 refine dj (by kernel_rfl) Io a w (by omega) (λi u _=>u=(aaH g q s).getD i undef) (NT w g s) rfl ?_ ?_
 . intro i p;match i,p with
   | 0,_=>
    intro o d w' Dn m ho f j k l h b c;have u0:d.eval (Z3 6)=Z7 (Z0 ⟨g,0,Z1⟩):=(j.slot 6 (by omega)).trans z;exact af (v:=Z6 (Z0 ⟨g,0,Z1⟩) 16 16) (by (conv at ho=>rhs;whnf);simp only [execOp,ho,u0];go_simp) f ⟨zL b 0 (by decide),rfl,kq⟩
   | 1,_=>
    intro o d w' Dn m ho f j k l h b c;have u0:d.eval (Z3 5)=Z7 (Z0 ⟨q,0,Z1⟩):=(j.slot 5 (by omega)).trans y;exact af (v:=Z7 (Z0 ⟨q,0,Z1⟩)) (by (conv at ho=>rhs;whnf);simp only [execOp,ho,u0];go_simp) f ⟨zL b 1 (by decide),rfl,kq⟩
   | 2,_=>
    intro o d w' Dn m ho f j k l h b c;have u0:d.eval (Z3 19)=Z7 (Z0 ⟨q,0,Z1⟩):=c 1 (h 1 (by decide));have I:w'.cell? ⟨q,0,Z1⟩=Z0 (Z2 s):=Lv b E G;exact af (v:=Z2 s) (by (conv at ho=>rhs;whnf);simp only [execOp,ho,u0];go_simp) f ⟨zL b 2 (by decide),rfl,kq⟩
   | 3,_=>
    intro o d w' Dn m ho f j k l h b c;have u0:d.eval (Z3 18)=Z6 (Z0 ⟨g,0,Z1⟩) 16 16:=c 0 (h 0 (by decide));have u1:d.eval (Z3 20)=Z2 s:=c 2 (h 2 (by decide));have H:w'=w.drew:=(by have:=b;unfold NT at this;rw [if_neg (by rw [k];decide)] at this;exact this);subst H;have r:=Lib.run_copy_row_string (P:=ZT) w.drew 31 9 o.type 5 g 0 16 16 s (aI (YD 16 0)).toArray 264 Uh t D x (by rw [UF,aW];simpa using x);rw [show (aI (YD 16 0)).toArray.toList=aI (YD 16 0) from rfl,Cl s] at r;exact af (v:=Z8 Z9 (s.size:Nat)) (by
     (conv at ho=>rhs;whnf);simp only [execOp,ho,resolve,invoke,builtin,Uo,U2,UE,Vr,Uu,UY,u0,u1,r];rfl) f ⟨by unfold NT;rw [if_pos gP],rfl,kq⟩
   | n+4,hn=>exact absurd hn (by show ¬ n+4<4;omega)
 . rintro d w' F J ⟨Dn,B,b⟩ c;have e:d=Act.RR a 18 [Z6 (Z0 ⟨g,0,Z1⟩) 16 16,Z7 (Z0 ⟨q,0,Z1⟩),Z2 s,Z8 Z9 (s.size:Nat)]:=F.out _ rfl (by omega) (λi p=>?_)
   . rw [e];exact C w' (by unfold NT at b;rw [if_pos (B 3 (by decide))] at b;exact b)
   . match i,p with
     | 0,_=>exact c 0 (by decide)
     | 1,_=>exact c 1 (by decide)
     | 2,_=>exact c 2 (by decide)
     | 3,_=>exact c 3 (by decide)
     | n+4,hn=>exact absurd hn (by simp)
structure Pk (w:ZX) (l:a8) (v:ZW) (wr:ZX):Prop where
 own:wr.ownsRow w.heap.size 5 1 v l.length (aI l)
 some_:v.ownBlock≠Z1
 below:bW w wr
def Cm (h:w.ownsRow base e size v n xs) (hn:0<n):v.ownBlock≠Z1:=by
 rcases h.2 with ⟨_,b⟩|⟨g,cap,cur,a,_⟩
 . omega
 . rw [a];simp [Value.ownBlock]
def Pk.out (h:Pk w l v wr) {S:Nat->Prop} (a:aa S wr w') (b:∀ k,S k->w.heap.size<=k) (d:∀ k,v.ownBlock=Z0 k->¬ S k):Pk w l v w':=
 ⟨bS h.own a d,h.some_,⟨a.os.trans h.below.os,a.tape.trans h.below.tape,a.output.trans h.below.output,TW h.below.size a.size,λk c=>(a.block k (by have:=h.below.size;omega) (λq=>by have:=b k q;omega)).trans (h.below.block k c)⟩⟩
def Pk.num (h:Pk w l v wr) (n s:Nat) (d:s<=8) (g:0<s) (hl:l.length<=1000000000) :
 ZV ZT 151 #[v,Z8 .u64 n,Z8 Z9 s] wr λe w'=>∃ b,e=Z4 b/\Pk w (l++be n s) b w'/\aa (λj=>v.ownBlock=Z0 j) wr w':=by
 refine (fP w.heap.size v l.length (aI l) n s wr h.own h.below.size d hl).mono ?_;rintro e w' ⟨b,rfl,ho,a,f⟩;refine ⟨b,rfl,⟨?_,Cm ho (by omega),?_⟩,a⟩
 . rw [bL,T8,aF];exact ho
 . exact ⟨a.os.trans h.below.os,a.tape.trans h.below.tape,a.output.trans h.below.output,TW h.below.size a.size,λk c=>(a.block k (by have:=h.below.size;omega) (λq=>by have:=dY h.own q;omega)).trans (h.below.block k c)⟩
def NU (h:Pk w l v wr):w.heap.size<=wr.heap.size:=h.below.size
def PsR (w:ZX) (pre:a8) (st:a8) (v i:ZW) (wr:ZX):Prop:=∃ j:Nat,j<=st.length/\i=Z8 Z9 j/\Pk w (pre++(st.take j).flatMap (λs=>be s 4)) v wr
def aaI (w:ZX) (os:List Ob) (v i:ZW) (wr:ZX):Prop:=∃ k:Nat,k<=os.length/\i=Z8 Z9 k/\Pk w (an (os.take k)) v wr
def Qp (w:ZX) (os:List Ob) (e:Ending) (w':ZX):Prop:=∃ g cap,e=Z4 (Z6 (Z0 ⟨g,0,Z1⟩) (an os).length cap)/\w'.ownsRow w.heap.size 5 1 (Z6 (Z0 ⟨g,0,Z1⟩) (an os).length cap) (an os).length (aI (an os))/\bW w w'
theorem xE {os:List Ob} (hC:eY K w v os) (A:∀ o∈os,o.fit) (qj:os.length<=10000):ZV ZT 121 #[v] w λe w'=>Qp w os e w':=by
 obtain ⟨ib,qg,hz,k0,k5⟩:=Us Tryz.R8;have G:∀ k,k<=os.length->(an (os.take k)).length<=k*5000:=by
  intro k D;induction k with
  | zero=>simp [an]
  | succ k ih=>
   have z:k<os.length:=(by omega);have:=ih (by omega);have l:=A _ (T4 z);rw [kQ os k z,T8,cQ l];have:=l.len;omega
 have ki:=tX hC A qj;have hr:=G os.length lR;rw [UD lR] at hr;obtain ⟨ao,c,rfl,_,Q⟩:=hC;obtain ⟨N,J⟩:=nM (os.length);obtain ⟨M,I⟩:=nM ((an os).length);rw [I] at ki hr;have X:=a6 Q A G J I;rw [J] at qj ki hr ⊢;clear Q A G J I;go_enter func121,ntmps121;go_wp2_with fail;refine ki.mono ?_;rintro e w1 ⟨rfl,ks⟩;have x7:=ks.size;have H1:=al ks;clear ks ki;go_wp2_with (at_make;refine aa6 w1 rfl (.const (Z8 Z9 0)) (Z3 10) 31 rfl w.heap.size 5 ib (Z8 .u8 0) 1 Uh qg hz k0 .i64 .i64 _ M (by rfl) (by rfl) rfl (by rw [k5];omega) (by unfold maxLen;omega) x7 ?_;intro w2 qi qf);have qa:Pk w [] (Z6 (Z0 ⟨w1.heap.size,0,Z1⟩) 0 M) w2:=⟨qi,by simp [Value.ownBlock],H1.out.grown qf H1.out.size (λk e=>by cases e)⟩;have H2:=al qa;clear qa qi qf;go_loopw [3,14] (λv i wr=>aaI w os v i wr) (λ_ i _=>N-(intOf i).toNat)
 case atStart=>exact ⟨0,T9 _,rfl,H2.out⟩
 case round=>
  clear H2;obtain ⟨k,D,rfl,a⟩:=hrel;rw [X.out.2.2.2.1] at D;by_cases xc:k<N
  . obtain ⟨Q,A,G,J,I⟩:=X.out;have z:k<os.length:=(by omega);obtain ⟨b,off,rfl,x8,kx,qd⟩:=Q (λe=>by rw [e] at z;cases z);obtain ⟨sv,c0,c1,c2,hI⟩:=qd k z;have l:=A _ (T4 z);have d0:wr.cell? ⟨b,off+k*3,Z1⟩=Z0 (Z2 os[k].name):=(Ul (a.below.block b kx)).trans c0;have d1:wr.cell? ⟨b,off+k*3+1,Z1⟩=Z0 (Z8 Z9 (os[k].size:Nat)):=(Ul (a.below.block b kx)).trans c1;have d2:wr.cell? ⟨b,off+k*3+2,Z1⟩=Z0 sv:=(Ul (a.below.block b kx)).trans c2;have qy:=G k (by omega);have y:=kQ os k z;obtain ⟨pre,k8⟩:=nM (an (os.take k));obtain ⟨o,ho⟩:=nM (os[k]);rw [k8] at qy a y;rw [ho] at d0 d1 l hI y;obtain ⟨d,F,x1,x3,R⟩:=hI;subst x1;obtain ⟨m,L⟩:=nM (o.RQ.length);obtain ⟨nm,U⟩:=nM (o.name);obtain ⟨p,V⟩:=nM (o.size);have ky:=l.name;have qs:=l.size;have qq:=l.len;rw [U] at d0 ky;rw [V] at d1 qs;rw [L] at d2 x3 qq;have x6:=a.below.size;have xa:((k:Nat):Int).toNat=k:=(by omega);have kv:bW wr (wr.alloc (Z5 #[Z2 nm,Z8 Z9 (p:Int),.slice d m F] 130)):=bA wr _;have qo:(wr.alloc (Z5 #[Z2 nm,Z8 Z9 (p:Int),.slice d m F] 130)).heap.size=wr.heap.size+1:=(by simp);have q5:(wr.alloc (Z5 #[Z2 nm,Z8 Z9 (p:Int),.slice d m F] 130)).heap[wr.heap.size]?=Z0 (Z5 #[Z2 nm,Z8 Z9 (p:Int),.slice d m F] 130 (0,0)):=Uc _ _;obtain ⟨r,x4⟩:=nM (wr.alloc (Z5 #[Z2 nm,Z8 Z9 (p:Int),.slice d m F] 130));rw [x4] at kv qo q5;have n:(r.alloc (Z5 (aI (YD 16 0)).toArray 264)).heap[r.heap.size]?=Z0 (Z5 (aI (YD 16 0)).toArray 264 (0,0)):=Uc _ _;have kf:bW r (r.alloc (Z5 (aI (YD 16 0)).toArray 264)):=bA r _;have qp:(r.alloc (Z5 (aI (YD 16 0)).toArray 264)).heap.size=r.heap.size+1:=(by simp);obtain ⟨wb,q7⟩:=nM (r.alloc (Z5 (aI (YD 16 0)).toArray 264));rw [q7] at n kf qp;have E:=(kf.block _ (by omega)).trans q5;have x5:r.alloc (Z5 #[Z8 .u8 0,Z8 .u8 0,Z8 .u8 0,Z8 .u8 0,Z8 .u8 0,Z8 .u8 0,Z8 .u8 0,Z8 .u8 0,Z8 .u8 0,Z8 .u8 0,Z8 .u8 0,Z8 .u8 0,Z8 .u8 0,Z8 .u8 0,Z8 .u8 0,Z8 .u8 0] 264)=wb:=q7;have O:Pk w pre u3 wb:=(a.out (aa.RS kv (λ_=>False)) (λ_ h=>h.elim) (λ_ _ h=>h)).out (aa.RS kf (λ_=>False)) (λ_ h=>h.elim) (λ_ _ h=>h);have Y:=hide7 R l y ho L U V;have HB:=a5 O E n qp;clear a Q A G J I qd c0 c1 c2 R l y ho L U V O E n q7 q5 kv kf k8;go_wp2_with fail;obtain ⟨O,E,n,kb⟩:=HB.out;rw [qo] at n kb;obtain ⟨q,hq⟩:=nM (wr.heap.size);rw [hq] at E n kb x6;refine zM (s:=nm) (q:=wr.heap.size) (g:=wr.heap.size+1) ky.2 (by rw [hq];exact n) (by rw [hq];simp [World.cell?,E]) (by omega) (by kernel_rfl) rfl rfl rfl ?_;intro w6 kk;rw [hq] at kk ⊢;have kc:aa (λk=>k=q+1) wb w6:=by
     rw [kk];have S:=aK wb.drew (q+1) (aI (fD nm)).toArray;exact ⟨S.os,S.tape,S.output,S.size,λk D qz=>S.block k D (λe=>qz (UI e))⟩
    have B:Pk w pre u3 w6:=O.out kc (λk D=>by omega) (λk D e=>bG O.own n (by decide) (by rw [D,e]));have C:=(kc.block q (by omega) (by omega)).trans E;have P:w6.heap[q+1]?=Z0 (Z5 (aI (fD nm)).toArray 264 (0,0)):=(by rw [kk];exact Vf _ _ _ _ _ _ n);have xd:=kc.size;have q0:w6.cell? ⟨q,0,Z1⟩=Z0 (Z2 nm):=(by simp [World.cell?,C]);have qe:=B.num nm.size 1 (by omega) (by omega) (by omega);have H6:=a5 B C P qe;have x0:nm.size<=16:=ky.2;clear O E n kc B C P qe kk d0 d1 d2;rename_i q8
    refine q8 _ _ ?_;clear q8;simp only [Act.RR,Act.put,UW,UR,UX];go_wp2_with fail;refine H6.out.2.2.2.mono ?_;rintro e w7 ⟨v7,rfl,km,ke⟩;obtain ⟨B,C,P,hx⟩:=H6.out;clear hx;have qk:=(ke.block q (by omega) (λe=>bG B.own C (by decide) e)).trans C;have kz:=(ke.block (q+1) (by omega) (λe=>bG B.own P (by decide) e)).trans P;have xe:=ke.size;have kh:(pre++be nm.size 1).length=pre.length+1:=(by rw [T8,aF]);have kj:(fD nm).length=16:=mB x0;have he:Src ZT 1 31 (Z6 (Z0 ⟨q+1,0,Z1⟩) 16 16) 16 (aI (fD nm)) w7:=U7 w7 Uh ⟨q+1,0,Z1⟩ 16 16 (aI (fD nm)) (by rw [aW,kj]) (λi u hu=>by
     have h9:w7.cell? ⟨q+1,i,Z1⟩=Z0 u:=(by simp [World.cell?,kz];simpa using hu);unfold Addr.add;split
     . rename_i h0;subst h0;exact h9
     . rw [Ue];exact h9) (λu hu=>by obtain ⟨x,_,rfl⟩:=T6.1 hu;rfl)
    have h7:=km.own;rw [kh] at h7;have t:=a6 km qk kz he h7;clear B C P km ke qk kz he h7 q0;have qn:=NU t.out.1;go_wp2_with (show wpList _ _ _ ({ dst:=Z0 30,op:=_,type:=_,pos:=_,after:=_,guard:=_ }::_) _ _;refine ae _ rfl (Z3 28) (Z3 29) 31 31 rfl w.heap.size 5 ib (Z8 .u8 0) 1 1 Uh qg hz k0 k5 rfl v7 (pre.length+1) (aI (pre++be nm.size 1)) (by rfl) (by exact t.out.2.2.2.2) _ (by rfl) 16 (aI (fD nm)) (by exact t.out.2.2.2.1) (by unfold maxLen;omega) (by omega) (by exact qn) ?_;intro v8 w8 q3 kg kr;have q4:w8.heap[q]?=Z0 (Z5 #[Z2 nm,Z8 Z9 (p:Int),.slice d m F] 130 (0,0)):=(kg.block q (by omega) (λe=>bG t.out.1.own t.out.2.1 (by decide) e.symm)).trans t.out.2.1;have q1:w8.cell? ⟨q,1,Z1⟩=Z0 (Z8 Z9 (p:Int)):=(by simp [World.cell?,q4]);have qb:Pk w ((pre++be nm.size 1)++fD nm) v8 w8:=⟨(by rw [bL,T8,kh,kj];exact q3),Cm q3 (by omega),t.out.1.below.grown kg qn (λj e=>dY t.out.1.own e)⟩;have xf:=kg.size;have W:=au qb q4;clear q3 kg kr q4 qb);refine (W.out.1.num p 2 (by omega) (by omega) (by rw [T8,kh,kj];omega)).mono ?_;rintro e w9 ⟨v9,rfl,ko,q9⟩;have qm:=(q9.block q (by omega) (λe=>bG W.out.1.own W.out.2 (by decide) e)).trans W.out.2;have q2:w9.cell? ⟨q,2,Z1⟩=Z0 (.slice d m F):=(by simp [World.cell?,qm]);obtain ⟨f,Z⟩:=nM (pre++be nm.size 1++fD nm++be p 2);have xb:f.length=pre.length+19:=(by rw [<- Z,T8,T8,kh,kj,aF]);rw [Z] at ko;have H9:=au ko Z;clear ko q9 qm q1 Z;go_wp2_with fail;go_loopw [3,39] (λv i hb=>PsR w f o.RQ v i hb) (λ_ i _=>m-(intOf i).toNat)
    case atStart=>exact ⟨0,T9 _,rfl,by rw [VR,List.flatMap_nil,Wg];exact H9.out.1⟩
    case round=>
     obtain ⟨j,hj,rfl,a⟩:=hrel;rw [Y.out.2.2.2.2.1] at hj;by_cases x9:j<m
     . obtain ⟨R,l,y,ho,L,_,_⟩:=Y.out;have T:j<o.RQ.length:=(by omega);obtain ⟨sb,so,rfl,_,q6,k9⟩:=R (λe=>by rw [e] at T;cases T);have cs:=(Ul (a.below.block sb q6)).trans (k9 j T);have x2:=l.st _ (T4 T);have hy:((o.RQ.take j).flatMap (λs=>be s 4)).length=4*j:=(by rw [xD,Ui];omega);have qh:f++(o.RQ.take (j+1)).flatMap (λs=>be s 4)=(f++(o.RQ.take j).flatMap (λs=>be s 4))++be o.RQ[j] 4:=by
        rw [U6,Ua T,Wo,Uz];simp
       have hc:=a.num o.RQ[j] 4 (by omega) (by omega) (by rw [T8,hy];omega);rw [<- qh] at hc;obtain ⟨x,hx⟩:=nM (o.RQ[j]);rw [hx] at cs x2 hc;have HP:=al hc;clear a R l y ho L k9 hc qh hx hy;go_wp2_with fail;refine HP.out.mono ?_;rintro e wj ⟨vj,rfl,qc,_⟩;have Hj:=al qc;clear qc;go_wp2;go_roundw
       case rel=>exact ⟨j+1,by have:=Y.out.2.2.2.2.1;omega,by go_num,Hj.out⟩
       case measure=>simp [intOf];omega
     . have qv:j=m:=(by omega);have Hq:=al a;clear a;go_wp2;go_roundw
       case rel=>
        refine ⟨k+1,by have:=X.out.2.2.2.1;omega,by go_num,?_⟩;obtain ⟨_,_,y,_,L,U,V⟩:=Y.out;have kp:=Hq.out;rw [UD (by omega),<- H9.out.2] at kp;rw [y];unfold bM;rw [U,V];simp only [Uz] at kp ⊢;exact kp
       case measure=>simp [intOf];omega
  . have qx:k=N:=(by omega);subst qx;have H:=al a;clear a;go_wp2;go_ret;have a:=H.out;obtain ⟨_,_,_,J,I⟩:=X.out;rw [UD (by omega)] at a;rcases a.own.2 with ⟨h0,_⟩|⟨g,cap,cur,e1,_⟩
    . exact absurd (by rw [h0];rfl) a.some_
    . have ho:=a.own;rw [e1] at ho;exact ⟨g,cap,by rw [<- e1];rfl,ho,a.below⟩
def tY {vo:ZW} {os:List Ob} (c:eY (λk=>k<w.heap.size) w vo os) (d:∀ o∈os,o.fit) (b:os.length<=10000):Es w vo (an os):=λ_ a=>xE (c.keep ⟨a.size,λk e _=>a.block k e⟩) d b
theorem Et (w:ZX):Es w (Z6 Z1 0 0) []:=by
 intro W _;go_enter func121,ntmps121;go_wp2_with fail;refine (length_nil W).mono ?_;rintro e w' ⟨rfl,rfl⟩;go_wp2_with (at_make;refine eA _ rfl (.const (Z8 Z9 0)) (Z3 10) rfl _ 0 rfl rfl rfl (by omega) ?_;intro w2 b a c);have H:=au b a;clear b a;refine VV 1 ?_;rw [Vg];go_wp2;go_ret;obtain ⟨b,a⟩:=H.out;exact ⟨_,0,rfl,⟨rfl,.inr ⟨_,0,_,rfl,TV _,b.SK,TV _,by unfold maxLen;omega,rfl,rfl⟩⟩,a⟩
def br.weaken (h:br K w v l) (f:∀ k,K k->K' k):br K' w v l:=by
 obtain ⟨ao,c,a,d,e⟩:=h;refine ⟨ao,c,a,d,λhl=>?_⟩;obtain ⟨b,off,g,i,j⟩:=e hl;exact ⟨b,off,g,f b i,j⟩
def Ip {nb:Nat} (h:3<=nb):(aX (tk nb ([]++ak [])).1 nb).take 1=[2]/\1<=(aX (tk nb ([]++ak [])).1 nb).length:=by
 have e:(tk nb ([]++ak [])).1=λ_=>ZY:=rfl;rw [e];have b:aX (λ_=>ZY) 3=[2]:=by simp [aX,Vs]
 obtain ⟨r,a⟩:=kH (λ_=>ZY) h;rw [b] at a;rw [<- a];exact ⟨rfl,by simp⟩
def nB (A:aH) (D L G:Nat):aH:=(A.putAt (YE A.n) 1 (λ_=>.filled)).Tm D L G 1 [2] []
def Cn (h:w.ownsRow base 3 1 u n (jL l)) (hl:l≠[]) (hll:l.length<=1000000) {K:Nat->Prop} (hK:∀ k,base<=k->K k):∃ g c,u=Z6 (Z0 ⟨g,0,Z1⟩) l.length c/\br K w u l:=by
 have hn:n=l.length:=by have:=h.1;unfold jL at this;rw [T7,VW] at this;omega
 rcases h.2 with ⟨_,f⟩|⟨g,cap,cur,a,b,d,_⟩
 . exact absurd (UP (by omega)) hl
 . refine ⟨g,cap,by rw [a,hn],Z0 ⟨g,0,Z1⟩,cap,by rw [a,hn],hll,λ_=>⟨g,0,rfl,hK g b,(TX.1 d).1,λi e=>?_⟩⟩;have:=h.cells (g:=g) (by rw [a];rfl) i (Z8 Z9 ((l[i]:Nat):Int)) (by unfold jL;simp [e]);rw [jD] at this;rw [Ue];exact this
theorem Iq {v:Nat} {A:aH} (I:bh w ar v 0 0 0 0 0 0 (Z6 Z1 0 0) (Z6 Z1 0 0) off) (m:pH w v p D L G ps ho A F) (ka:¬ F.S ar) (kk:3<=A.nb) (ki:A.clean) :
 ZV ZT 71 #[Z7 (Z0 ⟨ar,0,Z1⟩)] w λe w'=>e=Z4 .nilIface/\aB w' p (nB A D L G) F/\(∃ u,bh w' ar v D L G 1 2 0 u (Z6 Z1 0 0) off/\br (λk=>w.heap.size<=k) w' u [2])/\aa (λk=>k=ar\/F.S k) w w':=by
 obtain ⟨hr,kf,hD,hL,ko,hG,kj,hz⟩:=m.par;have hn:=m.n;go_enter func71,ntmps71;go_wp2_with fail;obtain ⟨S,Y⟩:=nM (2^(D+L+G)-1);have hj:ab S=YE A.n:=by rw [<- Y,hn];exact oh hz
 have k7:S<65536:=by
  have:2^(D+L+G)<=2^16:=Vq (by decide) hz;omega
 have ke:∀ X,bW w X->ZV ZT 96 #[Z7 (Z0 ⟨v,0,Z1⟩),Z8 Z9 (1:Nat),cj .filled,Z8 .u64 S] X λe w'=>(∃ z:Nat,e=Z4 (Z8 .u64 z))/\aB w' p (A.putAt (YE A.n) 1 (λ_=>.filled)) F/\aa (F.S) w w':=λX hb=>by
  have h:=gJ (m.below hb lR) 1 S (by omega) k7 (λi N=>by rw [hj] at N;simpa using N) .filled trivial;rw [hj] at h;exact h.mono λe w' q=>⟨⟨_,q.1⟩,q.2.1,(aa.RS hb _).trans q.2.2⟩
 have hm:=nz (m.vol.keep (w':=w.drew) rfl) m.par;rw [Y] at hm;have k0:=I.cells.1;have o:=aE ke hm I;clear ke hm Y hj k7;go_cut [16] from 5 to 15 (λ_ wx=>aB wx p (A.putAt (YE A.n) 1 (λ_=>.filled)) F/\aa (F.S) w wx)
 case first=>
  go_region_with (first
   | (go_at_call 102;refine o.out.2.1.mono ?_;rintro e w5 ⟨rfl,kb⟩;have W:bW w w5:=((TY _ w).drew).trans kb;have j0:=(o.out.2.2.keep (W.block _ o.out.2.2.lt)).cells.1;have H5:=al W;clear kb W)
   | (go_at_call 96;refine (o.out.1 w5 H5.out).mono ?_;rintro e w6 ⟨⟨z,rfl⟩,k5,k6⟩;have H6:=au k5 k6;clear k5 k6))
  all_goals (go_wp2_with fail;go_meet;case rel=>exact H6.out)
 case rest=>
 rename ZX=>w1;obtain ⟨Z,f⟩:=hcut;clear k0 o;obtain ⟨B,j⟩:=nM (A.putAt (YE A.n) 1 (λ_=>.filled));have hg:B.n=A.n/\B.nb=A.nb/\B.clean:=by rw [<- j];exact ⟨rfl,rfl,ki.putAt _ _ _⟩
 obtain ⟨r,s,T⟩:=hg;rw [j] at Z;have d:=I.keep (f.block _ I.lt ka);have a:=m.turn f Z r;have hs:=jc d a.vol kf (by omega) 0 (by decide);have hq:pgs D 0=1:=by unfold pgs;rw [Xb (by omega)];rfl
 rw [hq] at hs;have hv:=lL d a.vol a.arr (by rw [r];omega) [] [] (br.nil _ _) (eY.nil _ _) 1 (by decide);obtain ⟨t,y⟩:=Ip (nb:=B.nb) (by rw [s];exact kk);rw [t,decide_eq_true y] at hv;have R:=a7 d a f hs hv j;clear d a f hs hv j Z t y;go_wp2_with fail;refine R.out.2.2.2.1.mono ?_;rintro e w2 ⟨rfl,km⟩;subst km;go_wp2_with fail;refine R.out.2.2.2.2.1.mono ?_;rintro e w3 ⟨u,rfl,h7,M⟩;obtain ⟨d,a,f,_,_,j⟩:=R.out;have k9:=d.keep (M.block _ d.lt);have k8:=a.below M lR;obtain ⟨g,c,hu,hh⟩:=Cn (K:=λk=>w2.heap.size<=k) h7 (by simp) (by decide) (λk O=>O);subst hu;have H:br (λk=>¬ F.S k) w3 (Z6 (Z0 ⟨g,0,Z1⟩) [2].length c) [2]:=by
  obtain ⟨ao,V,q1,q2,q3⟩:=hh;refine ⟨ao,V,q1,q2,λhl=>?_⟩;obtain ⟨b,U,r1,r2,Q⟩:=q3 hl;exact ⟨b,U,r1,λq=>by have:=a.arr.RU q;omega,Q⟩
 have kc:=nA k9 k8 ka Z1 0 0 [] (λx P=>by cases P) (by decide) (Et w3) g 0 c [2] H (by simp) (λx P=>by simp at P;subst P;rw [s];omega) (λk O=>by simp at O;subst O;simp);have C:aa (F.S) w w3:=f.trans (aa.RS M _);have H3:=a7 kc C hh a d.lt f.size;clear kc C H hh k9 k8 h7 M d a f;go_wp2_with fail;refine H3.out.1.mono ?_;rintro e w4 ⟨l,⟨rfl,E,J⟩|⟨_,h,_⟩⟩;rotate_left
 . exact absurd T h
 have H4:=aE E J l;clear E J l;go_wp2;go_ret;obtain ⟨E,J,l⟩:=H4.out;obtain ⟨_,C,H,a,kg,hy⟩:=H3.out;refine ⟨rfl,?_,⟨_,J,?_⟩,(C.mono λ_ _ q=>.inr q).trans l⟩
 . unfold nB;rw [j];exact E
 . obtain ⟨ao,V,q1,q2,q3⟩:=H;refine ⟨ao,V,q1,q2,λhl=>?_⟩;obtain ⟨b,U,r1,r2,Q,r4⟩:=q3 hl;have hp:b≠ar:=λe=>by omega
   have kh:¬ F.S b:=λq=>by have:=a.arr.RU (k:=b) q;omega
   refine ⟨b,U,r1,TW hy r2,TZ Q l.size,λi N=>?_⟩;exact (Ul (l.block b Q (λq=>q.elim hp kh))).trans (r4 i N)
def FR:Ob:=⟨YG,0,[]⟩
def Qq (a b:ByteArray):Bool:=Op.bytesLess a.toList b.toList || a.toList==b.toList
def zN (os:List Ob):Prop:=∀ i (_:i+1<os.length),Qq (os.getD (i+1) FR).name (os.getD i FR).name=ZY
def Tryz.RZ:(ZT.info? 130).map (λi=>(i.zero,i.size,i.bytes))=Z0 (Z0 (.agg #[Z2 YG,Z8 Z9 0,Z6 Z1 0 0]),3,48):=by kernel_rfl
def br.ltS (h:br K w v l):br (λk=>k<w.heap.size) w v l:=by
 obtain ⟨ao,c,d,e,f⟩:=h;refine ⟨ao,c,d,e,λhl=>?_⟩;obtain ⟨b,off,g,_,a,i⟩:=f hl;exact ⟨b,off,g,a,a,i⟩
def eY.ltS {os:List Ob} (h:eY K w v os):eY (λk=>k<w.heap.size) w v os:=by
 obtain ⟨ao,c,d,e,f⟩:=h;refine ⟨ao,c,d,e,λhl=>?_⟩;obtain ⟨b,off,j,_,a,l⟩:=f hl;refine ⟨b,off,j,a,a,λi g=>?_⟩;obtain ⟨q,m,n,o,p⟩:=l i g;exact ⟨q,m,n,o,p.ltS⟩
def aj (w:ZX) (g:Nat) (e:ZU) (cur:List ZW):Prop:=w.heap[g]?=Z0 (Z5 cur.toArray e (0,0))
def aj.lt (h:aj w g e cur):g<w.heap.size:=(TX.1 h).1
def aj.cell (h:aj w g e cur) {j:Nat} {u:ZW} (a:cur[j]?=Z0 u):w.cell? ⟨g,j,Z1⟩=Z0 u:=by
 unfold aj at h;simp [World.cell?,h,a]
def aj.R3 (h:aj w g e cur) (j:Nat):w.frozen? ⟨g,j,Z1⟩=ZY:=by
 unfold aj at h;simp [World.frozen?,h]
def aj.keep (h:aj w g e cur) (a:w'.heap[g]?=w.heap[g]?):aj w' g e cur:=a.trans h
def xF:∀ (vs:List ZW) (o:Nat) (cur:Array ZW),o+vs.length<=cur.size->vz cur o vs=(cur.toList.take o++vs++cur.toList.drop (o+vs.length)).toArray
 | [],o,cur,_=>by simp [vz]
 | v::r,o,cur,h=>by
  simp only [Uv] at h ⊢;unfold vz;rw [xF r (o+1) (cur.setIfInBounds o v) (by simp;omega),aa0];have e:(cur.toList.set o v).take (o+1)=cur.toList.take o++[v]:=by
   rw [U6,List.take_set_of_le (TV o),Ym (by simp;omega)];rfl
  have a:(cur.toList.set o v).drop (o+1+r.length)=cur.toList.drop (o+(r.length+1)):=by
   rw [List.drop_set_of_lt (by omega),show o+1+r.length=o+(r.length+1) by omega]
  rw [e,a];simp
def aj.set (h:aj w g e cur) (o:Nat) (vs:List ZW) (ho:o+vs.length<=cur.length):aj (w.setCells g o vs) g e (cur.take o++vs++cur.drop (o+vs.length)):=by
 unfold aj at h ⊢;rw [js vs o w h,xF vs o cur.toArray (by simpa using ho)]
def dX (w:ZX) (l x y elem:ZU) (k:Nat) (g o a d b h c f:Nat) (e:ZU) (cur cs:List ZW)
 (u:P.underlying l=Z0 (.slice elem)) (q:(P.info? elem).map (·.size)=Z0 k) (hn:cs.length=YF c a*k)
 (s:∀ j v,cs[j]?=Z0 v->w.cell? ⟨b,h+j,Z1⟩=Z0 v) (m:aj w g e cur) (ho:o+cs.length<=cur.length) (r:∀ v∈cs,v.oneCell'=ZZ) :
 (Builtin.copy_ #[l,x] y #[Z6 (Z0 ⟨g,o,Z1⟩) a d,Z6 (Z0 ⟨b,h,Z1⟩) c f]).run P w=.ok (goInt (YF c a)) (w.setCells g o cs):=by
 have hl:=run_loadCells_list (P:=P) w ⟨b,h,Z1⟩ cs (λj v p=>by rw [U9];exact s j v p);have n:=run_storeCells_cells (P:=P) g o cs 0 w (λj p=>by
  rw [VJ];rw [m.cell (Ua (by omega:o+j<cur.length))];rfl) (λj _=>m.R3 _) r
 cases hq:P.info? elem with
 | none=>simp [hq] at q
 | some i=>
  have t:i.size=k:=by simpa [hq] using q
  simp only [VJ] at n;simp [Builtin.copy_,UH u,Builtin.lenOf,Builtin.firstCells,sizeOf,typeInfo,hq,t,<- hn,hl,n]
def tZ (w:ZX) (t e k:ZU) (z:ZW) (g o n c:Nat) (d:ZU) (cur:List ZW) (h:P.underlying t=Z0 (.slice e)) (i:∀ w,(zeroValue e).run P w=.ok z w) (hn:0<n)
 (a:aj w g d cur) (ho:o+(Builtin.zeroCells z.cells n).toList.length<=cur.length) (f:∀ v∈(Builtin.zeroCells z.cells n).toList,v.oneCell'=ZZ) :
 (Builtin.clear_ #[t] k #[Z6 (Z0 ⟨g,o,Z1⟩) n c]).run P w=.ok (.tuple #[]) (w.setCells g o (Builtin.zeroCells z.cells n).toList):=by
 have b:=run_storeCells_cells (P:=P) g o (Builtin.zeroCells z.cells n).toList 0 w (λj l=>by
  rw [VJ];rw [a.cell (Ua (by omega:o+j<cur.length))];rfl) (λj _=>a.R3 _) f
 simp only [VJ] at b;obtain ⟨m,rfl⟩:∃ m,n=m+1:=⟨n-1,by omega⟩;simp [Builtin.clear_,UH h,i,b]
def jw (x:Ob×ZW):List ZW:=[Z2 x.1.name,Z8 Z9 (x.1.size:Nat),x.2]
def bQ (L:List (Ob×ZW)):List ZW:=L.flatMap jw
def bY (L:List (Ob×ZW)):(bQ L).length=L.length*3:=by
 induction L with
 | nil=>rfl
 | cons x L ih=>unfold bQ at ih ⊢;rw [VE,T8,ih,Uv];simp [jw];omega
def iS (L M:List (Ob×ZW)):bQ (L++M)=bQ L++bQ M:=by unfold bQ;rw [Wo]
def Co (L:List (Ob×ZW)) (k:Nat):(bQ L).take (k*3)=bQ (L.take k):=by
 by_cases h:k<=L.length
 . have e:bQ L=bQ (L.take k)++bQ (L.drop k):=(by rw [<- iS,V4]);have:(bQ (L.take k)).length=k*3:=(by rw [bY,Ui];omega);rw [e,VN (by omega),UD (by omega)]
 . rw [UD (by rw [bY];omega),UD (by omega)]
def ub (L:List (Ob×ZW)) (k:Nat):(bQ L).drop (k*3)=bQ (L.drop k):=by
 by_cases h:k<=L.length
 . have e:bQ L=bQ (L.take k)++bQ (L.drop k):=(by rw [<- iS,V4]);have hl:(bQ (L.take k)).length=k*3:=(by rw [bY,Ui];omega);rw [e,<- hl,List.drop_left]
 . rw [YK (by rw [bY];omega),YK (by omega)];rfl
def Lw (L:List (Ob×ZW)) (k:Nat) (d:k<L.length):(bQ L)[k*3]?=Z0 (Z2 L[k].1.name)/\(bQ L)[k*3+1]?=Z0 (Z8 Z9 (L[k].1.size:Nat))/\(bQ L)[k*3+2]?=Z0 L[k].2:=by
 have e:∀ j,(bQ L)[k*3+j]?=(bQ (L.drop k))[j]?:=λj=>by rw [<- ub,VZ]
 have a:=e 0;have b:=e 1;have c:=e 2;rw [XJ d] at a b c;exact ⟨a,b,c⟩
def FT {x:Ob×ZW} (h:∃ c sl b,x.2=.slice c sl b):∀ u∈jw x,u.oneCell'=ZZ:=by
 obtain ⟨c,sl,b,e⟩:=h;intro u a;simp only [jw,Ur,WK,or_false] at a;rcases a with rfl|rfl|rfl
 . rfl
 . rfl
 . rw [e];rfl
def NV (K:Nat->Prop) (w:ZX) (L:List (Ob×ZW)):Prop:=∀ x∈L,br K w x.2 x.1.RQ
def NV.one {L:List (Ob×ZW)} (h:NV K w L):∀ u∈bQ L,u.oneCell'=ZZ:=by
 intro u a;unfold bQ at a;rw [X0] at a;obtain ⟨x,d,b⟩:=a;obtain ⟨ao,c,e,_⟩:=h x d;exact FT ⟨ao,_,c,e⟩ u b
def br.Ts (h:br K w v l) (f:∀ k,K k->K' k):br K' w v l:=by
 obtain ⟨ao,c,a,d,e⟩:=h;refine ⟨ao,c,a,d,λhl=>?_⟩;obtain ⟨b,off,g,i,j⟩:=e hl;exact ⟨b,off,g,f b i,j⟩
def NW {os:List Ob} (h:eY K w v os):∃ L:List (Ob×ZW),L.map (·.1)=os/\NV K w L/\∀ w',eB K w w'->Src ZT 3 113 v L.length (bQ L) w':=by
 obtain ⟨ao,c,rfl,hl,C⟩:=h;by_cases s:os=[]
 . subst s;refine ⟨[],rfl,λx l=>by simp at l,λw' _=>?_⟩;cases ao with
   | none=>exact Xp w' Vn c
   | some A=>exact U7 w' Vn A 0 c [] rfl (λj u a=>by simp at a) (λu I=>by simp at I)
 . obtain ⟨b,off,rfl,hK,F,r⟩:=C s;have D:∃ f:Nat->ZW,∀ i (d:i<os.length),w.cell? ⟨b,off+i*3,Z1⟩=Z0 (Z2 os[i].name)/\w.cell? ⟨b,off+i*3+1,Z1⟩=Z0 (Z8 Z9 (os[i].size:Nat))/\w.cell? ⟨b,off+i*3+2,Z1⟩=Z0 (f i)/\br K w (f i) os[i].RQ:=by
    refine ⟨λi=>if d:i<os.length then Classical.choose (r i d) else .nilIface,λi d=>?_⟩;have:=Classical.choose_spec (r i d);simpa [d] using this
   obtain ⟨f,z⟩:=D;obtain ⟨L,y⟩:∃ L:List (Ob×ZW),L=os.zipIdx.map (λq=>(q.1,f q.2)):=⟨_,rfl⟩;have p:L.length=os.length:=(by rw [y];simp);have g:∀ i (d:i<os.length),L[i]'(by omega)=(os[i],f i):=λi d=>by subst y;simp
   have t:NV K w L:=λx l=>by
    obtain ⟨i,d,e⟩:=U0 l;rw [g i (by omega)] at e;rw [<- e];exact (z i (by omega)).2.2.2
   refine ⟨L,?_,t,?_⟩
   . refine Vh (by simp [p]) λi J B=>?_;rw [Ve,g i B]
   . intro w' G;have k:=G.2 b F hK;rw [<- p];refine U7 w' Vn ⟨b,off,Z1⟩ L.length c (bQ L) (bY L) (λj u a=>?_) t.one;rw [U9];have M:j<L.length*3:=(by obtain ⟨q,_⟩:=U1.1 a;rwa [bY] at q);have H:j/3<L.length:=(by omega);obtain ⟨m,n,o⟩:=Lw L (j/3) H;obtain ⟨b0,b1,b2,_⟩:=z (j/3) (by omega);rw [g (j/3) (by omega)] at m n o;have E:j=j/3*3\/j=j/3*3+1\/j=j/3*3+2:=(by omega);rcases E with q|q|q
     . rw [q,m] at a;rw [q,<- a];exact (Ul k).trans b0
     . rw [q,n] at a;rw [q,<- a,<- Vu];exact (Ul k).trans b1
     . rw [q,o] at a;rw [q,<- a,<- Vu];exact (Ul k).trans b2
def ud {L:List (Ob×ZW)} (h:w.ownsRow base 130 3 u L.length (bQ L)) (hl:L.length<=1000000) (hK:∀ k,base<=k->K k) (n:NV K w L):eY K w u (L.map (·.1)):=by
 rcases h.2 with ⟨rfl,hn⟩|⟨g,cap,cur,rfl,o,d,q,r,s,m⟩
 . have:L=[]:=UP hn;subst this;exact eY.nil _ _
 . refine ⟨Z0 ⟨g,0,Z1⟩,cap,by rw [T7],by rw [T7];exact hl,λ_=>⟨g,0,rfl,hK g o,(TX.1 d).1,λi b=>?_⟩⟩;rw [T7] at b;obtain ⟨e,f,l⟩:=Lw L i b;have a:∀ j u,j<L.length*3->(bQ L)[j]?=Z0 u->w.cell? ⟨g,0+j,Z1⟩=Z0 u:=λj u p c=>by
    rw [<- m,VF p] at c;rw [Ue];simp [World.cell?,d];simpa using c
   refine ⟨L[i].2,?_,?_,?_,?_⟩
   . rw [Ve];exact a _ _ (by omega) e
   . rw [Ve,Vu];exact a _ _ (by omega) f
   . rw [Vu];exact a _ _ (by omega) l
   . rw [Ve];exact n _ (T4 b)
def Ly:∀ (x y:List UInt8),Op.bytesLess x y=decide (x<y)
 | [],[]=>by simp [Op.bytesLess]
 | _::_,[]=>by simp [Op.bytesLess]
 | [],_::_=>by simp [Op.bytesLess]
 | a::x,b::y=>by
  rw [Op.bytesLess,Ly x y];simp only [List.cons_lt_cons_iff];by_cases c:a<b<;>by_cases d:a=b<;>by_cases e:x<y<;>simp [c,d,e]
def jx (a b:ByteArray):Bool:=Op.bytesLess a.toList b.toList
def zO {a:ByteArray}:jx a b=ZZ↔a.toList<b.toList:=by unfold jx;rw [Ly];simp
def zP {a:ByteArray}:jx a b=ZY↔¬ a.toList<b.toList:=by unfold jx;rw [Ly];simp
def iT (a:ByteArray):jx a a=ZY:=zP.2 (List.lt_irrefl _)
def jO {a c:ByteArray} (h:jx a b=ZZ) (k:jx b c=ZZ):jx a c=ZZ:=zO.2 (List.lt_trans (zO.1 h) (zO.1 k))
def toList_inj {a:ByteArray} (h:a.toList=b.toList):a=b:=by
 have c:a.data.toList=b.data.toList:=by rw [<- Lib.toList_data,<- Lib.toList_data];exact h
 have d:a.data=b.data:=Array.toList_inj.1 c;cases a;cases b;simpa using d
def rZ {a:ByteArray} (h:jx a b=ZY) (k:jx b a=ZY):a=b:=toList_inj (List.le_antisymm (zP.1 k) (zP.1 h))
def Ir {a:ByteArray} (h:Qq a b=ZY):jx b a=ZZ:=by
 unfold Qq at h;rw [X1] at h;cases hb:jx b a
 . have e:=rZ (a:=a) (b:=b) h.1 hb;rw [e] at h;simp at h
 . rfl
theorem Is {a:ByteArray} (h:jx b a=ZZ):Qq a b=ZY:=by
 unfold Qq;rw [X1];constructor
 . cases hb:Op.bytesLess a.toList b.toList
   . rfl
   . have:=jO (a:=b) (b:=a) (c:=b) h hb;rw [iT] at this;cases this
 . cases hb:(a.toList==b.toList)
   . rfl
   . have e:=toList_inj (eq_of_beq hb);rw [e,iT] at h;cases h
def Up (ns:List ByteArray):Prop:=ns.Pairwise (λa b=>jx a b=ZZ)
def aQ (os:List Ob):List ByteArray:=os.map (·.name)
def bm (os:List Ob):(aQ os).length=os.length:=by unfold aQ;rw [T7]
def r6 {os:List Ob} (a:i<os.length):os.getD i FR=os[i]:=by rw [T5,Ua a];rfl
def It (ns:List ByteArray) (h:∀ i (c:i+1<ns.length),jx ns[i] ns[i+1]=ZZ):Up ns:=by
 unfold Up;rw [Wf];intro i j c a b;obtain ⟨d,rfl⟩:∃ d,j=i+1+d:=⟨j-(i+1),by omega⟩;clear b;induction d with
 | zero=>exact h i a
 | succ d ih=>exact jO (ih (by omega)) (h (i+1+d) a)
def NX {os:List Ob} (h:zN os):Up (aQ os):=by
 refine It _ λi a=>?_;rw [bm] at a;have:=Ir (h i a);rw [r6 a,r6 (by omega:i<os.length)] at this;have e:∀ j (b:j<os.length),(aQ os)[j]'(by rw [bm];exact b)=os[j].name:=λj b=>by unfold aQ;rw [Ve]
 rw [e i (by omega),e (i+1) a];exact this
def zQ {os:List Ob} (h:Up (aQ os)):zN os:=by
 intro i a;unfold Up at h;rw [Wf] at h;have:=h i (i+1) (by rw [bm];omega) (by rw [bm];omega) (Nat.lt_succ_self i);refine Is ?_;rw [r6 a,r6 (by omega:i<os.length)];unfold aQ at this;simpa using this
def aJ (ns:List ByteArray) (x:ByteArray):Nat:=(ns.takeWhile (λn=>jx n x)).length
def xG (ns:List ByteArray) (x:ByteArray):aJ ns x<=ns.length:=by unfold aJ;exact (List.takeWhile_prefix _).length_le
def gE:∀ (ns:List ByteArray) (x:ByteArray) (i:Nat),i<=ns.length->(∀ j (e:j<ns.length),j<i->jx ns[j] x=ZZ)->(∀ a:i<ns.length,jx ns[i] x=ZY)->aJ ns x=i
 | [],x,i,a,_,_=>by simp at a;subst a;rfl
 | n::ns,x,0,a,b,c=>by
  have:=c (by simp);unfold aJ;rw [YH];simp at this;simp [this]
 | n::ns,x,i+1,a,b,c=>by
  have d:=b 0 (by simp) (by omega);simp at d;have:=gE ns x i (by simpa using a) (λj e g=>b (j+1) (YL e) (by omega)) (λf=>c (YL f));unfold aJ at this ⊢;rw [YH];simp [d,this]
def m3:∀ (ns:List ByteArray) (x:ByteArray) (j:Nat) (a:j<ns.length),j<aJ ns x->jx ns[j] x=ZZ
 | [],_,j,a,_=>by simp at a
 | n::ns,x,j,a,h=>by
  unfold aJ at h;rw [YH] at h;cases hn:jx n x
  . simp [hn] at h
  . simp [hn] at h;cases j with
    | zero=>simpa using hn
    | succ j=>simpa using m3 ns x j (by simpa using a) (by unfold aJ;omega)
def xH:∀ (ns:List ByteArray) (x:ByteArray) (a:aJ ns x<ns.length),jx ns[aJ ns x] x=ZY
 | [],x,a=>by simp at a
 | n::ns,x,a=>by
  by_cases hn:jx n x=ZZ
  . have e:aJ (n::ns) x=aJ ns x+1:=(by unfold aJ;rw [YH];simp [hn]);have b:=xH ns x (by rw [e] at a;simpa using a);simp only [e,XO];exact b
  . have e:aJ (n::ns) x=0:=(by unfold aJ;rw [YH];simp [hn]);simp only [e,aa7];simpa using hn
def vJ (b:Up ns) (x:ByteArray) (j:Nat) (f:j<ns.length) (h:aJ ns x<=j):jx ns[j] x=ZY:=by
 have a:=xH ns x (by omega);rcases Xq h with e|d
 . subst e;exact a
 . unfold Up at b;rw [Wf] at b;have c:=b _ _ (by omega) f d;cases hb:jx ns[j] x
   . rfl
   . rw [jO c hb] at a;cases a
def il (a:Up ns) {x:ByteArray} {k:Nat} (b:k<ns.length) (e:ns[k]=x):aJ ns x=k:=by
 refine gE ns x k (Nat.le_of_lt b) (λj d c=>?_) (λf=>by rw [e];exact iT x);unfold Up at a;rw [Wf] at a;have:=a j k d b c;rwa [e] at this
def ue (b:Up ns) {x:ByteArray} (c:x∈ns):∃ h:aJ ns x<ns.length,ns[aJ ns x]=x:=by
 obtain ⟨k,a,e⟩:=U0 c;have:=il b a e;exact ⟨by omega,by simp only [this];exact e⟩
def Iu (c:Up ns) {x:ByteArray} (m:x∉ns):Up (ns.take (aJ ns x)++x::ns.drop (aJ ns x)):=by
 have n:=xG ns x;unfold Up;rw [aaT,List.pairwise_cons];refine ⟨YI (List.take_sublist _ _) c,⟨λa g=>?_,YI (YM _ _) c⟩,λa g b f=>?_⟩
 . obtain ⟨j,h,e⟩:=U0 g;rw [Uj] at h;rw [X2] at e;have d:=vJ c x (aJ ns x+j) (by omega) (by omega);rw [e] at d;cases f:jx x a
   . exact absurd (US g) (by rw [rZ d f];exact m)
   . rfl
 . obtain ⟨j,h,e⟩:=U0 g;rw [Ui] at h;rw [YA] at e;have d:=m3 ns x j (by omega) (by omega);rw [e] at d;rcases Ur.1 f with rfl|f
   . exact d
   . obtain ⟨i,l,k⟩:=U0 f;rw [Uj] at l;rw [X2] at k;unfold Up at c;rw [Wf] at c;have:=c j (aJ ns x+i) (by omega) (by omega) (by omega);rwa [e,k] at this
def Lz (b:Up ns) (k:Nat):Up (ns.take k++ns.drop (k+1)):=by
 refine YI ?_ b;have a:(ns.take k++ns.drop (k+1)).Sublist (ns.take k++ns.drop k):=List.Sublist.append (List.Sublist.refl _) (by rw [<- VA];exact YM _ _);rwa [V4] at a
theorem oL {os:List Ob} (a:eY K w v os) (R:os.length<=10000) :
 ZV ZT 117 #[v] w λe w'=>∃ u L,e=Z4 u/\L.map (·.1)=os/\NV K w L/\w'.ownsRow w.heap.size 130 3 u L.length (bQ L)/\bW w w':=by
 obtain ⟨L,i,l,f⟩:=NW a;obtain ⟨ao,c,rfl,Q,d⟩:=id a;have F:L.length=os.length:=by rw [<- i,T7]
 obtain ⟨M,I,B,C,D⟩:=Us Tryz.RZ;cases ao with
 | none=>
  have t:os=[]:=Classical.byContradiction λh=>by obtain ⟨b,off,e,_⟩:=d h;cases e
  subst t;have E:L=[]:=UP F;subst E;have G:=λm=>W0 (P:=ZT) m 113 130 Z1 0 c 0 0 Vn;simp only [UQ];clear d a f l;go_enter func117,ntmps117;go_wp2;go_ret;exact ⟨_,[],rfl,rfl,λx J=>by simp at J,UK _ _ _ _,TY _ _⟩
 | some s=>
  have G:=λm=>W0 (P:=ZT) m 113 130 (Z0 s) os.length c 0 0 Vn;have g:bW w (w.alloc (Z5 #[] 130)):=bA _ _;have p:=f _ (eB.RT g);have r:(w.alloc (Z5 #[] 130)).ownsRow w.heap.size 130 3 (Z6 (Z0 ⟨w.heap.size,0,Z1⟩) 0 0) 0 []:=⟨rfl,.inr ⟨w.heap.size,0,#[],rfl,TV _,UG w _,TV _,by unfold maxLen;omega,rfl,rfl⟩⟩;have H:=a6 i l g p r;clear d a f l g p r i;go_enter func117,ntmps117;go_wp2_with (at_builtin;refine ae _ rfl (Z3 5) (Z3 6) 113 113 rfl w.heap.size 130 M _ 3 48 Vn I B C D rfl _ 0 [] (by rfl) (by exact H.out.2.2.2.2) _ (by rfl) L.length (bQ L) (by exact H.out.2.2.2.1) (by unfold maxLen;omega) (by omega) (by exact H.out.2.2.1.size) ?_;intro S T j q A;rw [Ue,Uk] at j;have n:=au j q;clear j q A);go_ret;obtain ⟨y,z,o,N,O⟩:=H.out;exact ⟨_,L,rfl,y,z,n.out.1,o.grown n.out.2 o.size (λk e=>by cases e;exact TV _)⟩
def oM {K:Act->ZX->Prop} (f:o.guard=Z1) (d x:Operand) (b c:ZU) (e:o.op=Op.call { callee:=Callee.builtin Builtin.copy,args:=#[d,x],argTypes:=#[b,c] })
 (v u:ZW) (hd:a.eval d=v) (hx:a.eval x=u) {v':ZW} {w':ZX} (hr:(Builtin.copy_ #[b,c] o.type #[v,u]).run ZT w=.ok v' w') (hK:K (a.put o.dst v') w'):if Region.wanted o (yielded ops a.tmps)=ZZ then Oper.wp ZT o a w K Q else E:=by
 rw [if_pos (by simp [Region.wanted,f])];unfold Oper.wp;simp [execOp,e,resolve,invoke,builtin,hd,hx,hr,Result.andThen];exact hK
theorem LA {α:Type} (cur c v:List α) (a m k:Nat) (g:cur.take k=c) (l:c.length=k) (h:v.length=m) (f:a<=k) (n:k+m<=cur.length) :
 ((cur.take (a+m)++c.drop a++cur.drop (a+m+(c.drop a).length)).take a++v++(cur.take (a+m)++c.drop a++cur.drop (a+m+(c.drop a).length)).drop (a+v.length)).take (k+m)=c.take a++(v++c.drop a) /\
 ((cur.take (a+m)++c.drop a++cur.drop (a+m+(c.drop a).length)).take a++v++(cur.take (a+m)++c.drop a++cur.drop (a+m+(c.drop a).length)).drop (a+v.length)).length=cur.length:=by
 have b:(cur.take (a+m)).length=a+m:=by rw [Ui];omega
 have d:(cur.take (a+m)++c.drop a++cur.drop (a+m+(c.drop a).length)).take a=c.take a:=by
  rw [Uz,VN (by omega),Yx,V5 (by omega),<- g,Yx,V5 f]
 have e:(cur.take (a+m)++c.drop a++cur.drop (a+m+(c.drop a).length)).drop (a+v.length)=c.drop a++cur.drop (a+m+(c.drop a).length):=by
  rw [h,Uz];exact List.drop_left' b
 have i:(c.take a).length=a:=by rw [Ui];omega
 have j:(c.drop a).length=k-a:=by rw [Uj];omega
 rw [d,e];constructor
 . rw [Uz,<- Uz v,<- Uz (c.take a)];have:(c.take a++(v++c.drop a)).length=k+m:=by rw [T8,T8];omega
   rw [<- this,XV]
 . simp only [T8,Uj,Ui];omega
def kR (b:Nat):∀ (vs:List ZW) (o:Nat) (w:ZX),(w.drew.setCells b o vs).heap=(w.setCells b o vs).heap
 | [],_,_=>rfl
 | v::r,o,w=>kR b r (o+1) (w.setCell ⟨b,o,Z1⟩ v)
theorem FU (L:List (Ob×ZW)) (x:Ob×ZW) (i:Nat):(bQ L).take (i*3)++(jw x++(bQ L).drop (i*3))=bQ (L.take i++x::L.drop i):=by
 rw [Co,ub,iS];congr 1
def FV:(ZT.info? 130).map (·.size)=Z0 3:=by kernel_rfl
theorem Cp {vb:Nat} {cur:Array ZW} {L:List (Ob×ZW)} {x:Ob×ZW} (A:w.heap[g]?=Z0 (Z5 cur 130 (0,0))) (Q:base<=g) (C:cur.size=cap*3) (z:cur.toList.take (L.length*3)=bQ L) (O:∀ u∈bQ L,u.oneCell'=ZZ) (T:∀ u∈jw x,u.oneCell'=ZZ)
 (X:i<L.length) (V:L.length+1<=cap) (hl:L.length<=10000) (D:w.heap[vb]?=Z0 (Z5 (jw x).toArray 130 (0,0))) (R:vb≠g) :
 ZV ZT 145 #[Z6 (Z0 ⟨g,0,Z1⟩) L.length cap,Z8 Z9 i,Z6 (Z0 ⟨vb,0,Z1⟩) 1 1] w λe w'=>e=Z4 (Z6 (Z0 ⟨g,0,Z1⟩) (L.length+1) cap)/\Below base w w'/\∃ a,aj w' g 130 a/\a.length=cap*3/\a.take ((L.length+1)*3)=bQ (L.take i++x::L.drop i):=by
 obtain ⟨n,hn⟩:=nM (L.length);have m:aj w g 130 cur.toList:=by unfold aj;exact A
 have p:aj w vb 130 (jw x):=D;have h:cur.toList.length=cap*3:=by simpa using C
 have r:((bQ L).drop (i*3)).length=(n-i)*3:=by rw [Uj,bY,hn];omega
 have kf:(jw x).length=3:=rfl;have S:∀ lb y ob,(callFunc 169 #[Z6 (Z0 ⟨vb,0,Z1⟩) 1 1,Z6 (Z0 ⟨g,ob,Z1⟩) lb y]).run ZT w=.ok (.value (.bool ZY)) w:=λlb y ob=>by
  rw [run_callFunc_extern func169 (by kernel_rfl) (by kernel_rfl) (by kernel_rfl) (e:=Extern.SlicesOverlaps.overlaps #[112,112] #[4]) (by kernel_rfl),
   Lib.run_overlaps_apart w 112 4 130 underlying112 3 (λw=>by obtain ⟨io,ka,kb,hs,kc⟩:=Us Tryz.RZ;simp [sizeOf,typeInfo,ka,hs]) ⟨vb,0,Z1⟩ ⟨g,ob,Z1⟩ 1 1 lb y R 130 130 3 (cap*3) (by simp [World.shape?,D];rfl) (by simp [World.shape?,A,C]) (by omega) (p.R3 _) (p.R3 _)]
  rfl
 have J:∀ c d l1 b E v F,d=i*3+3->l1=n-i->E=i*3->v=n+1-i->(Builtin.copy_ #[113,113] c #[Z6 (Z0 ⟨g,d,Z1⟩) l1 b,Z6 (Z0 ⟨g,E,Z1⟩) v F]).run ZT w.drew=.ok (goInt (YF v l1)) (w.drew.setCells g (i*3+3) ((bQ L).drop (i*3))):=by
  rintro c d l1 b E v F rfl rfl rfl rfl;refine dX w.drew _ _ c 130 3 g (i*3+3) _ b g (i*3) _ F 130 cur.toList _ Vn FV (by rw [r];show _=min _ _*3;rw [Nat.min_eq_right (by omega)]) (λj u l=>?_) m (by rw [r,h];omega) (λu hu=>O u (US hu));refine m.cell ?_;rw [VZ] at l;have ke:i*3+j<L.length*3:=by obtain ⟨q,_⟩:=U1.1 l;rwa [bY] at q
  rw [<- z,VF ke] at l;exact l
 have f:=m.set (i*3+3) ((bQ L).drop (i*3)) (by rw [r,h];omega);have I:aj (w.setCells g (i*3+3) ((bQ L).drop (i*3))) vb 130 (jw x):=p.keep (aS g _ _ _ _ R);obtain ⟨c1,B⟩:=nM (cur.toList.take (i*3+3)++(bQ L).drop (i*3)++cur.toList.drop (i*3+3+((bQ L).drop (i*3)).length));have M:=LA cur.toList (bQ L) (jw x) (i*3) 3 (L.length*3) z (bY L) rfl (by omega) (by rw [h];omega);rw [B] at f M;obtain ⟨s,t⟩:=M;have o:c1.length=cap*3:=by
  rw [<- B];simp only [T8,Uj,Ui,bY,h];omega
 have K:∀ (W:ZX),W.heap=(w.setCells g (i*3+3) ((bQ L).drop (i*3))).heap->∀ c d l1 b,d=i*3->l1=n+1-i->(Builtin.copy_ #[113,112] c #[Z6 (Z0 ⟨g,d,Z1⟩) l1 b,Z6 (Z0 ⟨vb,0,Z1⟩) 1 1]).run ZT W=.ok (goInt (YF 1 l1)) (W.setCells g (i*3) (jw x)):=by
  rintro W N c d l1 b rfl rfl;have k6:aj W g 130 c1:=by unfold aj;rw [N];exact f
  have Y:aj W vb 130 (jw x):=by unfold aj;rw [N];exact I
  refine dX W _ _ c 130 3 g (i*3) _ b vb 0 1 1 130 c1 _ Vn FV (by show _=min _ _*3;rw [V5 (by omega)];rfl) (λj u l=>?_) k6 (by rw [o,kf];omega) T;rw [Ue];exact Y.cell l
 have H:=aE f s t;have k9:=al m.lt;have o:=al o;have Z:=al h;have G:=au J K;have U:=al S;rw [hn] at X V hl ⊢;have kp:IntKind.i64.wrap ((i:Int)+1)=(i:Int)+1:=by rw [Ut];omega
 have kr:¬ (cap:Int)<(n:Int)+1:=by omega
 have km:i<=n:=by omega
 have kh:¬ (cap=i+1):=by omega
 have kj:¬ (cap=i):=by omega
 have ko:((i:Int)+1).toNat=i+1:=by omega
 have kg:(0:Int)<=(i:Int)+1:=by omega
 have ki:(i:Int)<=(n:Int)+1:=by omega
 clear m p r S J K f I B s t h C z O T D A;go_enter func145,ntmps145;go_wp2_with (simp only [U.out]);go_region_law (refine oM rfl _ _ 113 113 rfl _ _ (by simp [Act.eval,Act.put]) (by simp [Act.eval,Act.put]) (G.out.1 _ ((i+1)*3) (n-i) (cap-(i+1)) (i*3) (n+1-i) (cap-i) (by omega) (by omega) (by omega) (by omega)) ?_)
 have k8:∀ c b,(Builtin.copy_ #[113,112] c #[Z6 (Z0 ⟨g,i*3,Z1⟩) (n+1-i) b,Z6 (Z0 ⟨vb,0,Z1⟩) 1 1]).run ZT (w.drew.setCells g (i*3+3) ((bQ L).drop (i*3)))=.ok (goInt (YF 1 (n+1-i))) ((w.drew.setCells g (i*3+3) ((bQ L).drop (i*3))).setCells g (i*3) (jw x)):=λc b=>G.out.2 _ (kR _ _ _ _) c (i*3) (n+1-i) b rfl rfl;go_wp2;go_ret;obtain ⟨f,s,t⟩:=H.out;have k7:aj (w.drew.setCells g (i*3+3) ((bQ L).drop (i*3))) g 130 c1:=by unfold aj;rw [kR];exact f
 have kk:g<w.heap.size:=k9.out;have P:Below base w (w.drew.setCells g (i*3+3) ((bQ L).drop (i*3))):=(TY base w).drew.grown (cy _ _ _ _) (by show base<=w.heap.size;omega) (λk e=>by cases e;exact Q);refine ⟨rfl,P.grown (cy _ _ _ _) (TW (by omega) P.size) (λk e=>by cases e;exact Q),_,k7.set (i*3) (jw x) (by have h1:c1.length=cap*3:=o.out;have h2:(jw x).length=3:=rfl;omega),?_,?_⟩
 . rw [t];exact Z.out
 . rw [show (n+1)*3=L.length*3+3 by omega,s,FU]
theorem Cq {vb:Nat} {cur:Array ZW} {L:List (Ob×ZW)} {x:Ob×ZW} (Y:w.heap[g]?=Z0 (Z5 cur 130 (0,0))) (ko:base<=w.heap.size) (kp:cur.size=cap*3) (O:cur.toList.take (L.length*3)=bQ L) (hs:∀ u∈bQ L,u.oneCell'=ZZ) (kh:∀ u∈jw x,u.oneCell'=ZZ)
 (hi:i<L.length) (kx:L.length<=cap) (hv:cap<L.length+1) (hl:L.length<=10000) (hx:w.heap[vb]?=Z0 (Z5 (jw x).toArray 130 (0,0))) :
 ZV ZT 145 #[Z6 (Z0 ⟨g,0,Z1⟩) L.length cap,Z8 Z9 i,Z6 (Z0 ⟨vb,0,Z1⟩) 1 1] w λe w'=>∃ c,e=Z4 (Z6 (Z0 ⟨w.heap.size,0,Z1⟩) (L.length+1) c)/\Below base w w'/\L.length+1<=c/\c<=9223372036854775807/\∃ d,aj w' w.heap.size 130 d/\d.length=c*3/\d.take ((L.length+1)*3)=bQ (L.take i++x::L.drop i):=by
 obtain ⟨io,kf,hq,hr,Q⟩:=Us Tryz.RZ;obtain ⟨n,hn⟩:=nM (L.length);have v:aj w g 130 cur.toList:=by unfold aj;exact Y
 have R:aj w vb 130 (jw x):=hx;have z:((bQ L).drop (i*3)).length=(n-i)*3:=by rw [Uj,bY,hn];omega
 have p:((bQ L).take (i*3)).length=i*3:=by rw [Ui,bY,hn];omega
 have A:(jw x).length=3:=rfl;have W:∀ j u,(bQ L)[j]?=Z0 u->w.cell? ⟨g,j,Z1⟩=Z0 u:=λj u b=>by
  refine v.cell ?_;have T:j<L.length*3:=by obtain ⟨q,_⟩:=U1.1 b;rwa [bY] at q
  rw [<- O,VF T] at b;exact b
 have hold:(Builtin.firstCells io.size i (Z6 (Z0 ⟨g,0,Z1⟩) i cap)).run ZT w.drew=.ok ((bQ L).take (i*3)).toArray w.drew:=by
  rw [hr];exact run_firstCells_some w.drew 3 i ⟨g,0,Z1⟩ i cap _ p (λj u b=>by
   rw [U9,Ue];rw [XQ] at b;split at b
   . exact W j u b
   . cases b)
 have ke:i+(n+1-i)=n+1:=by omega
 have kg:(n:Int)+1-(i:Int)=((n+1-i:Nat):Int):=by omega
 have r:=λh=>Lib.run_append_grow_zeros w 113 3 h 130 io _ .i64 .i64 Vn Wv kf hq (Z0 ⟨g,0,Z1⟩) i cap _ hold (n+1-i) (by omega) (by omega) (by omega) (by omega) (by rw [Q];omega) (by rw [Q,ke];exact Yj (by omega) (by omega));rw [ke] at r;obtain ⟨C,G⟩:=nM (grownCap w (n+1) cap 130);have kk:n+1<=C:=by rw [<- G];exact Yk w _ _ _
 have km:C<=9223372036854775807:=by
  have:=Yl w (n+1) cap 130 (by unfold maxLen;omega);rw [G] at this;unfold maxLen at this;omega
 rw [G] at r;obtain ⟨a,D⟩:∃ a:Array ZW,((bQ L).take (i*3)).toArray++Builtin.zeroCells (Value.agg #[Z2 YG,Z8 Z9 0,Z6 Z1 0 0]).cells (n+1-i)++Builtin.zeroCells (Value.agg #[Z2 YG,Z8 Z9 0,Z6 Z1 0 0]).cells (C-(n+1))=a:=⟨_,rfl⟩;rw [D] at r;have kj:(Value.agg #[Z2 YG,Z8 Z9 0,Z6 Z1 0 0]).cells.size=3:=by rfl
 have I:a.toList.length=C*3:=by
  rw [<- D];simp only [Wk,Array.size_append,size_zeroCells,UF,kj,p];omega
 have kb:a.toList.take (i*3)=(bQ L).take (i*3):=by
  rw [<- D,YN,YN,Uz,VN (by simp [p])];rw [UD (by simp [p])]
 obtain ⟨l,K⟩:=nM (w.drew.alloc (Z5 a 130));rw [K] at r;have S:aj l w.heap.size 130 a.toList:=by rw [<- K];exact Yr w.drew _
 have s:bW w l:=by rw [<- K];exact (TY _ w).drew.alloc lR _
 have ki:aj l vb 130 (jw x):=R.keep (s.block _ R.lt);have kc:aj l g 130 cur.toList:=v.keep (s.block _ v.lt);have t:∀ h o,(Builtin.copy_ #[113,112] h #[Z6 (Z0 ⟨w.heap.size,i*3,Z1⟩) (n+1-i) o,Z6 (Z0 ⟨vb,0,Z1⟩) 1 1]).run ZT l=.ok (goInt (YF 1 (n+1-i))) (l.setCells w.heap.size (i*3) (jw x)):=λh o=>by
  refine dX l _ _ h 130 3 w.heap.size (i*3) _ o vb 0 1 1 130 a.toList _ Vn FV (by show _=min _ _*3;rw [V5 (by omega)];rfl) (λj u b=>?_) S (by rw [I,A];omega) kh;rw [Ue];exact ki.cell b
 have y:=S.set (i*3) (jw x) (by rw [I,A];omega);obtain ⟨f,M⟩:=nM (l.setCells w.heap.size (i*3) (jw x));have kv:g<w.heap.size:=v.lt;have hp:aj f g 130 cur.toList:=by rw [<- M];exact kc.keep (aS _ _ _ _ _ (by omega))
 have P:bW w f:=by rw [<- M];exact s.grown (cy _ _ _ _) s.size (λk e=>by cases e;exact TV _)
 rw [M] at t y;obtain ⟨m,N⟩:=nM (a.toList.take (i*3)++jw x++a.toList.drop (i*3+(jw x).length));have F:m.length=C*3:=by rw [<- N];simp only [T8,Uj,Ui,I,A];omega
 have X:m.take (i*3+3)=(bQ L).take (i*3)++jw x:=by
  rw [<- N,kb];have:((bQ L).take (i*3)++jw x).length=i*3+3:=by rw [T8,p,A]
  rw [<- this,XV]
 rw [N] at y;have Z:∀ h o U,(Builtin.copy_ #[113,113] h #[Z6 (Z0 ⟨w.heap.size,(i+1)*3,Z1⟩) (n-i) o,Z6 (Z0 ⟨g,i*3,Z1⟩) (n-i) U]).run ZT f.drew=.ok (goInt (YF (n-i) (n-i))) (f.drew.setCells w.heap.size ((i+1)*3) ((bQ L).drop (i*3))):=λh o U=>by
  refine dX f.drew _ _ h 130 3 w.heap.size ((i+1)*3) _ o g (i*3) _ U 130 m _ Vn FV (by rw [z];show _=min _ _*3;rw [Nat.min_self]) (λj u b=>?_) y (by rw [z,F];omega) (λu hu=>hs u (US hu));have h2:f.cell? ⟨g,i*3+j,Z1⟩=Z0 u:=by
   refine hp.cell ?_;rw [VZ] at b;have T:i*3+j<L.length*3:=(by obtain ⟨q,_⟩:=U1.1 b;rwa [bY] at q);rw [<- O,VF T] at b;exact b
  exact h2
 have J:aj (f.drew.setCells w.heap.size ((i+1)*3) ((bQ L).drop (i*3))) w.heap.size 130 _:=aj.set (w:=f.drew) y ((i+1)*3) ((bQ L).drop (i*3)) (by rw [z,F];omega);have E:bW w (f.drew.setCells w.heap.size ((i+1)*3) ((bQ L).drop (i*3))):=P.drew.grown (cy _ _ _ _) P.size (λk e=>by cases e;exact TV _);have hm:(m.take ((i+1)*3)++(bQ L).drop (i*3)++m.drop ((i+1)*3+((bQ L).drop (i*3)).length)).length=C*3/\(m.take ((i+1)*3)++(bQ L).drop (i*3)++m.drop ((i+1)*3+((bQ L).drop (i*3)).length)).take ((n+1)*3)=bQ (L.take i++x::L.drop i):=by
  constructor
  . simp only [T8,Uj,Ui,bY,F,hn];omega
  . rw [show (i+1)*3=i*3+3 by omega,X];have:((bQ L).take (i*3)++jw x++(bQ L).drop (i*3)).length=(n+1)*3:=by rw [T8,T8,p,A,z];omega
    rw [<- this,XV,Uz,FU]
 have H:=aE J E hm;have B:=aE r t Z;have V:=au kk km;rw [hn] at hi hv hl kx ⊢;have q5:IntKind.i64.wrap ((i:Int)+1)=(i:Int)+1:=by rw [Ut];omega
 have q6:(cap:Int)<(n:Int)+1:=by omega
 have q3:i<=n:=by omega
 have kz:¬ (C=i+1):=by omega
 have q1:¬ (cap=i):=by omega
 have q2:¬ (C=i):=by omega
 have q4:((i:Int)+1).toNat=i+1:=by omega
 have ky:(0:Int)<=(i:Int)+1:=by omega
 have q0:(i:Int)<=(n:Int)+1:=by omega
 clear v R z p W hold r D I kb K S s ki kc t y M hp P N F X Z J E hm G kj kp O hs kh hx Y kv kf hq hr Q;rw [<- kg] at B;go_enter func145,ntmps145;clear kg;have t:=B.out.2.1;go_wp2_with (at_builtin;refine Lib.wpList_append_run _ rfl _ _ _ _ rfl _ _ rfl rfl _ _ (B.out.1 _) ?_);clear t;go_region_law (refine oM rfl _ _ 113 113 rfl _ _ (by simp [Act.eval,Act.put]) (by simp [Act.eval,Act.put]) (B.out.2.2 _ (C-(i+1)) (cap-i)) ?_)
 go_wp2;go_ret;obtain ⟨J,E,kr,ks⟩:=H.out;exact ⟨C,rfl,E.mono ko,V.out.1,V.out.2,_,J,kr,ks⟩
def NY {vb:Nat} {x:Ob×ZW} (d:w.heap[vb]?=Z0 (Z5 (jw x).toArray 130 (0,0))) (b:∀ u∈jw x,u.oneCell'=ZZ):Src ZT 3 112 (Z6 (Z0 ⟨vb,0,Z1⟩) 1 1) 1 (jw x) w:=by
 have a:aj w vb 130 (jw x):=d;exact U7 w underlying112 ⟨vb,0,Z1⟩ 1 1 (jw x) rfl (λj u c=>by rw [U9,Ue];exact a.cell c) b
theorem Eu {vb:Nat} {L:List (Ob×ZW)} {x:Ob×ZW} (ho:w.ownsRow base 130 3 u L.length (bQ L)) (d:base<=w.heap.size) (l:∀ u∈jw x,u.oneCell'=ZZ) (hl:L.length<=10000) (m:w.heap[vb]?=Z0 (Z5 (jw x).toArray 130 (0,0))) :
 ZV ZT 145 #[u,Z8 Z9 (L.length:Nat),Z6 (Z0 ⟨vb,0,Z1⟩) 1 1] w λe w'=>∃ u',e=Z4 u'/\w'.ownsRow base 130 3 u' (L.length+1) (bQ (L++[x]))/\Below base w w':=by
 obtain ⟨v,t,p,q,r⟩:=Us Tryz.RZ;have i:=NY m l;have h:∀ k,u.ownBlock=Z0 k->base<=k:=λk e=>by
  rcases ho.2 with ⟨rfl,_⟩|⟨g,cap,cur,rfl,s,_⟩
  . cases e
  . cases e;exact s
 have H:=aE ho i h;obtain ⟨n,hn⟩:=nM (L.length);have j:bQ (L++[x])=bQ L++jw x:=by rw [iS];congr 1
 rw [j];rcases ho.2 with ⟨rfl,o⟩|⟨g,cap,cur,rfl,s,z,A,D,E,y⟩
 . rw [hn] at o hl H ⊢;subst o;clear ho i h m l j;go_enter func145,ntmps145;go_wp2_with (at_builtin;refine ae _ rfl (Z3 23) (Z3 24) 113 112 rfl base 130 v _ 3 48 Vn t p q r rfl _ 0 (bQ L) (by rfl) (by exact H.out.1) _ (by rfl) 1 (jw x) (by exact H.out.2.1) (by unfold maxLen;omega) (by omega) d ?_;intro B C c b f;have a:=au c b;clear c b f);go_ret;exact ⟨_,rfl,a.out.1,(TY base w).grown a.out.2 d H.out.2.2⟩
 . rw [hn] at hl H A ⊢;clear ho i h m l j y z;go_enter func145,ntmps145;go_wp2_with (at_builtin;refine ae _ rfl (Z3 23) (Z3 24) 113 112 rfl base 130 v _ 3 48 Vn t p q r rfl _ n (bQ L) (by rfl) (by exact H.out.1) _ (by rfl) 1 (jw x) (by exact H.out.2.1) (by unfold maxLen;omega) (by omega) d ?_;intro B C c b f;have a:=au c b;clear c b f);all_goals (go_ret;exact ⟨_,rfl,a.out.1,(TY base w).grown a.out.2 d H.out.2.2⟩)
def zR {L:List (Ob×ZW)} (h:aj w g 130 cur) (a:base<=g) (hn:n=L.length) (b:n<=cap) (d:cap<=9223372036854775807) (hl:cur.length=cap*3) (c:cur.take (n*3)=bQ L):w.ownsRow base 130 3 (Z6 (Z0 ⟨g,0,Z1⟩) n cap) n (bQ L):=
 ⟨by rw [bY,hn],.inr ⟨g,cap,cur.toArray,rfl,a,h,b,by unfold maxLen;omega,by simpa using hl,by simpa using c⟩⟩
def Ev {vb:Nat} {L:List (Ob×ZW)} {x:Ob×ZW} (ho:w.ownsRow base 130 3 u L.length (bQ L)) (f:base<=w.heap.size) (p:∀ u∈bQ L,u.oneCell'=ZZ) (j:∀ u∈jw x,u.oneCell'=ZZ) (hl:L.length<=10000) (k:w.heap[vb]?=Z0 (Z5 (jw x).toArray 130 (0,0))) (D:u.ownBlock≠Z0 vb) (A:i<=L.length) :
 ZV ZT 145 #[u,Z8 Z9 (i:Nat),Z6 (Z0 ⟨vb,0,Z1⟩) 1 1] w λe w'=>∃ u',e=Z4 u'/\w'.ownsRow base 130 3 u' (L.length+1) (bQ (L.take i++x::L.drop i))/\Below base w w':=by
 rcases Xq A with e|t
 . subst e;rw [VC,List.drop_length];exact Eu ho f j hl k
 . have o:L.length+1=(L.take i++x::L.drop i).length:=(by simp;omega);rcases ho.2 with ⟨rfl,E⟩|⟨g,cap,cur,rfl,q,r,C,B,s,n⟩
   . omega
   . have z:cap<=9223372036854775807:=(by unfold maxLen at B;omega);by_cases m:L.length+1<=cap
     . refine (Cp r q s n p j t m hl k (λe=>D (by rw [e];rfl))).mono ?_;rintro e w' ⟨rfl,h,a,b,c,d⟩;exact ⟨_,rfl,zR b q o m z c d,h⟩
     . refine (Cq r f s n p j t C (by omega) hl k).mono ?_;rintro e w' ⟨l,rfl,h,v,y,a,b,c,d⟩;exact ⟨_,rfl,zR b f o v y c d,h⟩
def zS (N:Nat) (ds:a8) (R:Nat->a8):List a8:=(YE N).map λi=>if i∈ds then R i else []
def NZ (N:Nat) (ds:a8):Nat:=As (((YE N).filter λi=>decide (i∉ds)).map λi:Nat=>⟨0,0,(i:Int),0⟩)
theorem uf (N:Nat) (ds:a8) (i:Nat):(NZ N ds).testBit i=ZZ↔i<N/\i∉ds:=by
 unfold NZ;rw [rS];constructor
 . rintro ⟨s,f,_,a⟩;obtain ⟨j,e,rfl⟩:=T6.1 f;obtain ⟨c,d⟩:=Vz.1 e;have:j=i:=a;subst this;exact ⟨Uy.1 c,of_decide_eq_true d⟩
 . rintro ⟨b,a⟩;exact ⟨_,T6.2 ⟨i,Vz.2 ⟨Uy.2 b,decide_eq_true a⟩,rfl⟩,rfl,rfl⟩
def Cr (N:Nat) (ds:a8) (R:Nat->a8):(zS N ds R).length=N:=by simp [zS]
def Cs (a:i<N):(zS N ds R).getD i []=if i∈ds then R i else []:=by simp [zS,a]
def LB (h:w.heap[bl]?=Z0 (Z5 (aI l).toArray 231 (0,0))) (hl:l.length=44) (c:∀ x∈l,x<256):Bs w (Z6 (Z0 ⟨bl,0,Z1⟩) 44 44) l:=by
 refine ⟨Z0 ⟨bl,0,Z1⟩,44,by rw [hl],by omega,by omega,c,λ_=>⟨bl,0,rfl,λk a=>?_⟩⟩;have e:(aI l)[k]?=Z0 (Z8 .u8 ((l.getD k 0:Nat):Int)):=by
  unfold aI;rw [Un,Ua a];simp [a]
 have b:(aI l).toArray[k]?=Z0 (Z8 .u8 ((l.getD k 0:Nat):Int)):=by simpa using e
 simp [World.cell?,h,b]
def RG {f:Nat->ZW} (n:w.rowIs g 31 N f) (o:∀ i∈ds,(R i).length=44/\∀ x∈R i,x<256) (j:Kn w base zH f R ds):In w g (zS N ds R) (NZ N ds):=by
 intro i c;have b:i<N:=by rw [Cr] at c;exact c
 have p:(zS N ds R)[i]=if i∈ds then R i else []:=by rw [<- Cs b];simp [c]
 have h:=n.cell b;refine ⟨λa=>?_,λa=>?_⟩
 . rw [h,j.1 i ((uf N ds i).1 (oI.1 a)).2];rfl
 . have d:i∈ds:=by
    by_cases q:i∈ds
    . exact q
    . exact absurd (oI.2 ((uf N ds i).2 ⟨b,q⟩)) a
   obtain ⟨bl,k,_,_,l⟩:=j.2 i d;obtain ⟨e,m⟩:=o i d;rw [p,if_pos d,e];exact ⟨⟨bl,0,Z1⟩,44,by rw [h,k],LB l e m⟩
theorem Iv (a:∀ i∈ds,(R i).length=44/\∀ x∈R i,x<256):∀ l∈zS N ds R,l.length<=100000:=by
 intro l hl;unfold zS at hl;obtain ⟨i,_,rfl⟩:=T6.1 hl;split
 . rename_i h;rw [(a i h).1];omega
 . simp
def Iw {row:a8} (h:aM w bl l) (g:m<=l.length) (e:l.take m=row):w.rangeAt bl 0 (aI row)/\row.length=m:=by
 have c:row.length=m:=by rw [<- e,Ui];omega
 refine ⟨λj u a=>?_,c⟩;unfold aI at a;rw [Un,Wc] at a;obtain ⟨x,b,rfl⟩:=a;have f:j<row.length:=(U1.1 b).1;have d:=aaV h (i:=j) (by omega);rw [Ue];rw [d];unfold vb;have:l.getD j 0=x:=by
  rw [<- e,XQ,if_pos (by omega)] at b;rw [T5,b];rfl
 rw [this]
def qU (h:w.heap[bl]?=Z0 (Z5 (aI l).toArray 231 (0,0))):w.rangeAt bl 0 (aI l):=λj u a=>by simp [World.cell?,h];simpa using a
theorem zT {S gone sp:Nat} (e:gone<65536) (f:sp<65536) {i:Nat}:i∈tT ds (ab (Jp (Jp S gone) sp))↔i∈ab S/\gone.testBit i=ZY/\sp.testBit i=ZY/\i∉ds:=by
 rw [FO,rX f,rX e];constructor
 . rintro ⟨⟨⟨a,b⟩,c⟩,d⟩;exact ⟨a,b,c,d⟩
 . rintro ⟨a,b,c,d⟩;exact ⟨⟨⟨a,b⟩,c⟩,d⟩
def QR (T gone sp:Nat) (ds:a8):a8:=tT ds (ab (Jp (Jp T gone) sp))
def Ew {x:Nat} (h:¬ x.testBit i=ZZ):x.testBit i=ZY:=by cases q:x.testBit i;rfl;exact absurd q h
def Ex (k n:Nat):eJ (k+1) n=eJ k n++[YD n 0]:=by
 unfold eJ;rw [List.replicate_succ']
def MkR (w:ZX) (B g r n:Nat) (i:ZW) (wr:ZX):Prop:=
 ∃ k T,k<=r/\i=Z8 Z9 (k:Nat)/\oj wr B g r T/\dh T n (eJ k n)/\Below B w wr/\B<=wr.heap.size
def Qr (r n:Nat) (w:ZX) (e:Ending) (w':ZX):Prop:=∃ g T,e=Z4 (Z6 (Z0 ⟨g,0,Z1⟩) r r)/\iV w' w.heap.size (Z6 (Z0 ⟨g,0,Z1⟩) r r) T/\dh T n (eJ r n)/\bW w w'
theorem pZ {M:List a8} (h:dh T D M):T.length=M.length:=by simpa using congrArg List.length h
theorem zU (r n:Nat) (w:ZX) (L:r<=32) (hn:n<=4096) :
 ZV ZT 176 #[Z8 Z9 r,Z8 Z9 n] w λe w'=>Qr r n w e w':=by
 go_enter func176,ntmps176;go_wp2_with (at_make;refine mY _ rfl (Z3 7) (Z3 7) rfl _ r rfl rfl rfl (by omega) ?_;intro wc j f G;clear G);have m:oj wc w.heap.size w.heap.size r []:=⟨j.congr (λi _=>by simp [shv]),λp h=>by simp at h,by simp⟩;have u:=f.size;clear j;go_loopw [11] (λi wr=>MkR w w.heap.size w.heap.size r n i wr) (λi _=>r-(intOf i).toNat)
 case atStart=>exact ⟨0,[],T9 _,rfl,m,rfl,f,u⟩
 case round=>
  clear m f u;rename ZX=>wo;obtain ⟨k,T,K,rfl,g,a,t,E⟩:=hrel;have q:=pZ a;have A:T.length=k:=by rw [q];simp [eJ]
  by_cases D:k<r
  . have c:=al a;clear a q
    go_wp2_with (at_make;refine eA _ rfl (Z3 16) (Z3 16) rfl _ n rfl rfl rfl (by omega) ?_;intro w2 B s J
                 have d:=g.below s;have H:=d.tab.cell (i:=k) D;have I:=d.tab.frozen k)
    have o:=d.push (b:=wo.heap.size) (n:=n) (l:=YD n 0) (by omega) B (by simp) (by simp;omega) (by intro x F;have:=VG F;omega) (λp h e=>by have:=(g.row p h).2.1.lt;omega);rw [A,Xy] at o;refine ⟨⟨k+1,_,by omega,by go_num,o,?_,(t.trans (s.mono E)).setCell (by simp) _,by simp;omega⟩,by simp [intOf];omega⟩;have y:=c.out;unfold dh at y ⊢;rw [Ex,Uw,Uw,y];rfl
  . have C:k=r:=(by omega);subst C;have v:=g.done (by omega) lR (by unfold maxLen;omega);have z:=al v;have c:=al a;clear v a;go_wp2;go_ret;exact ⟨_,T,rfl,z.out,c.out,t⟩
def LC (w:ZX) (f:ZU) (g n cap:Nat) (old src:a8) (ao:Option Addr) (c:Nat) (d:aM w g old) (B:Bs w (.slice ao src.length c) src) (hn:src.length=n) (ho:old.length=n) :
 ∃ w',(Builtin.copy_ #[31,31] f #[Z6 (Z0 ⟨g,0,Z1⟩) n cap,.slice ao src.length c]).run ZT w=.ok (Z8 Z9 (n:Nat)) w'/\aM w' g src/\w.grownBy w' (Z0 g):=by
 subst hn;have o:(ZT.info? 5).map (λi=>i.size)=Z0 1:=by kernel_rfl
 by_cases a:src.length=0
 . have A:src=[]:=UP a;have z:old=[]:=UP (by omega);subst A z;exact ⟨w,run_copy_none (P:=ZT) w 31 31 f 5 (Z0 ⟨g,0,Z1⟩) ao 0 cap 0 c Uh o (by simp),d,Wn _ _⟩
 . obtain ⟨s,D,e,_,_,F,u⟩:=B;simp at e;obtain ⟨b,off,h,C⟩:=u (by intro e;rw [e] at a;simp at a);rw [<- e.1] at h;subst h;have l:=run_copy_row (P:=ZT) w 31 31 f 5 g 0 src.length cap ⟨b,off,Z1⟩ src.length c _ 5 (bv src) Uh o d.heap (by simp [bv]) (λj v p=>by
    have m:j<src.length:=by
     obtain ⟨q,_⟩:=U1.1 p;simpa [bv] using q
    rw [U9,C j m,<- p];simp [bv,m]) (by simp [bv];omega) (by intro v r;simp [bv] at r;obtain ⟨x,_,rfl⟩:=r;rfl)
   have t:(List.take 0 (List.map (λx=>Value.int .u8 ((x:Nat):Int)) old).toArray.toList++bv src++List.drop (0+(bv src).length) (List.map (λx=>Value.int .u8 ((x:Nat):Int)) old).toArray.toList)=src.map (λx=>Value.int .u8 ((x:Nat):Int)):=by
    simp [bv];omega
   rw [t] at l;refine ⟨w.setRow g (src.map (λx=>Value.int .u8 ((x:Nat):Int))).toArray,by rw [l];simp [bv,goInt],?_,?_⟩
   . exact aM.of_heap (Vf w g (old.map (λx=>Value.int .u8 ((x:Nat):Int))).toArray (src.map (λx=>Value.int .u8 ((x:Nat):Int))).toArray 5 _ d.heap)
   . refine ⟨rfl,rfl,rfl,by simp [World.setRow],λk E y=>setRow_other w g k _ (λe=>y (by rw [e]))⟩
def Ix {K:Act->ZX->Prop} (b:o.guard=Z1) (d s:Operand) (ho:o.op=.call { callee:=.builtin .copy,args:=#[d,s],argTypes:=#[31,31] })
 (vd vs v':ZW) (hd:a.eval d=vd) (hs:a.eval s=vs) (h0:(Builtin.copy_ #[31,31] o.type #[vd,vs]).run ZT w=.ok v' w') (h:K (a.put o.dst v') w'):if Region.wanted o (yielded ops a.tmps)=ZZ then Oper.wp ZT o a w K Q else E:=by
 rw [if_pos (by simp [Region.wanted,b])];unfold Oper.wp;simp [execOp,ho,resolve,invoke,builtin,hd,hs,h0,Result.andThen];exact h
def zV (h:w.ownsRow base 271 2 v n xs) {b:Nat} {l:a8} (i:aM w b l):v.ownBlock≠Z0 b:=by
 intro e;rcases h.2 with ⟨f,_⟩|⟨g,cap,cur,d,k,a,_⟩
 . rw [f] at e;simp [Value.ownBlock] at e
 . rw [d] at e;simp [Value.ownBlock] at e;subst e;obtain ⟨c,j,_⟩:=i;rw [j] at a;simp at a
def mO.aside {O:List (Int×Nat×Nat×a8)} {b:Nat} (h:mO 271 w base v O) (j:aM w b l) (f:w.grownBy w' (Z0 b)) (i:∀ q∈O,q.2.1≠b):mO 271 w' base v O:=
 ⟨h.own.kept f (.inr (zV h.own j)),λq g=>by
  obtain ⟨a,c,d⟩:=h.row q g;exact ⟨a,c.grown f (by intro e;simp at e;exact i q g e),d⟩,h.nodup⟩
def Iy {R:List a8} (h:dh T n R) (i:Nat) (b:i<T.length) (l:a8):dh (T.set i (T[i].1,T[i].2.1,l)) n (R.set i l):=by
 have:=pZ h;have a:=h.at b (by omega);unfold dh at *;rw [List.map_set,List.map_set,h,a]
section
def ug (x y:a8) (c:Nat):(iK x y c).length=x.length:=by simp [iK]
def Iz {x y:a8} (e:∀ a∈x,a<256) (d:c<256):∀ a∈iK x y c,a<256:=by
 intro a b;simp only [iK,T6,Uy] at b;obtain ⟨j,_,rfl⟩:=b;exact V8 (n:=8) (ez e j) (bE _ d)
theorem zW (b d n c:Nat) (x y:a8) (w:ZX) (p:c<256) (r:aM w b x) (s:aM w d y) (f:x.length=n) (t:y.length=n) (l:d≠b) (m:∀ a∈x,a<256) (o:∀ a∈y,a<256) (hn:n<=100000) :
 ZV ZT 165 #[Z6 (Z0 ⟨b,0,Z1⟩) n n,Z6 (Z0 ⟨d,0,Z1⟩) n n,Z8 .u8 c] w λe w'=>e=Z4 (.tuple #[])/\aM w' b (iK x y c)/\w.grownBy w' (Z0 b):=by
 have q:w.rowIs b 5 n (tv (λi=>x.getD i 0)):=by
  have:=r;unfold aM at this;rw [f] at this;exact this
 refine (jo b 5 n 0 n n d 0 n c (λi=>x.getD i 0) (λi=>y.getD i 0) w p q (λj=>ez m j) (λj=>ez o j) (by omega) (by omega) (λi u=>by rw [Ue];exact s.cell i (by omega)) (.inl l)).mono ?_;rintro e w' ⟨rfl,g,h⟩;refine ⟨rfl,?_,h⟩;unfold aM;rw [ug,f];refine g.congr λj v=>?_;have k:j<x.length:=by omega
 unfold tv vb gV iK;rw [if_pos (by omega)];simp [k]
structure Rn (w0:ZX) (B:Nat) (P:List St) (D R0:List a8) (n r gR k:Nat) (vO:ZW) (T:List (Nat×Nat×a8)) (O:List (Int×Nat×Nat×a8)) (wr:ZX):Prop where
 tab:iV wr B (Z6 (Z0 ⟨gR,0,Z1⟩) r r) T
 hold:dh T n (bP P D R0 k)
 len:∀ l∈bP P D R0 k,l.length=n
 outs:mO 271 wr B vO O
 vals:O.map (λq=>(q.1,q.2.2.2.take q.2.2.1))=dq P D R0 k
 apart:∀ p∈T,∀ q∈O,p.1≠q.2.1
 below:Below B w0 wr
 size:B<=wr.heap.size
variable {w0:ZX} {B:Nat} {P:List St} {D R0:List a8} {n r gR k:Nat} {vO:ZW} {T:List (Nat×Nat×a8)} {O:List (Int×Nat×Nat×a8)} {w:ZX}
def Rn.next (h:Rn w0 B P D R0 n r gR k vO T O w) {w':ZX} (a:bW w w'):Rn w0 B P D R0 n r gR k vO T O w':=
 ⟨h.tab.below a,h.hold,h.len,h.outs.below a,h.vals,h.apart,h.below.trans (a.mono h.size),TW h.size a.size⟩
def Rn.tlen (h:Rn w0 B P D R0 n r gR k vO T O w):T.length=r:=by
 rcases h.tab.shape with ⟨e,_⟩|⟨g,cap,e,_⟩
 . simp at e
 . simp at e;omega
def Rn.reg (h:Rn w0 B P D R0 n r gR k vO T O w) (A:Nat) (z:A<r):∃ g,(∃ a:A<T.length,T[A]=(g,n,(bP P D R0 k).getD A []))/\w.cell? ⟨gR,A,Z1⟩=Z0 (Z6 (Z0 ⟨g,0,Z1⟩) n n)/\aM w g ((bP P D R0 k).getD A [])/\((bP P D R0 k).getD A []).length=n/\(∀ x∈(bP P D R0 k).getD A [],x<256)/\g≠gR/\B<=g/\g<w.heap.size/\gR<w.heap.size/\B<=gR:=by
 have:=h.tlen;have a:A<T.length:=by omega
 have:=pZ h.hold;have c:A<(bP P D R0 k).length:=by omega
 have d:=h.hold.at a c;have m:(bP P D R0 k).getD A []=(bP P D R0 k)[A]:=by simp [c]
 have hn:=h.len _ (T4 c);obtain ⟨l,b,v,y,i⟩:=h.tab.row _ (T4 a);rw [m];have o:T[A]=(T[A].1,n,(bP P D R0 k)[A]):=by rw [<- d]
 have j:T[A].2.2=(bP P D R0 k)[A]:=by rw [d]
 have p:T[A].2.1=n:=by rw [d]
 rcases h.tab.shape with ⟨e,_⟩|⟨g,cap,e,u,_,_,q,t,_,s⟩
 . simp at e
 . simp at e;obtain ⟨rfl,_⟩:=e;have f:=t A a;unfold jX at f;rw [j,p,hn] at f;rw [j] at b i;exact ⟨T[A].1,⟨a,o⟩,f,b,hn,i,s _ (T4 a),l,b.lt,q,u⟩
def Rn.write (h:Rn w0 B P D R0 n r gR k vO T O w) {w':ZX} {A g:Nat} {l0 src:a8} (s:∃ s:A<T.length,T[A]=(g,n,l0)) (C:l0.length=n) (b:w.grownBy w' (Z0 g)) (y:aM w' g src) (hl:src.length=n) (z:∀ x∈src,x<256)
 (t:bP P D R0 (k+1)=(bP P D R0 k).set A src) (ho:dq P D R0 (k+1)=dq P D R0 k):∃ T',Rn w0 B P D R0 n r gR (k+1) vO T' O w':=by
 obtain ⟨f,e⟩:=s;have d:=T4 f;obtain ⟨m,o,_⟩:=h.tab.row _ d;have a:T[A].1=g:=by rw [e]
 have v:T[A].2.2=l0:=by rw [e]
 rw [a] at m o;refine ⟨T.set A (T[A].1,T[A].2.1,src),?_,?_,?_,?_,?_,?_,?_,?_⟩
 . exact h.tab.wrote f (by rw [a];exact b) (by rw [a];exact y) (by rw [v];omega) z
 . rw [t];exact Iy h.hold A f src
 . rw [t];intro l i;rcases XN i with i|rfl
   . exact h.len l i
   . exact hl
 . exact h.outs.aside o b (λq c u=>h.apart _ d q c (by rw [a,u]))
 . rw [ho];exact h.vals
 . intro p j q c;rcases XN j with j|rfl
   . exact h.apart p j q c
   . exact h.apart _ d q c
 . exact iZ h.below b h.size m
 . exact TW h.size b.size
def Rn.reg_ne (h:Rn w0 B P D R0 n r gR k vO T O w) {A X g d:Nat} {l p:a8} (c:∃ c:A<T.length,T[A]=(g,n,l)) (a:∃ c:X<T.length,T[X]=(d,n,p)) (o:A≠X):d≠g:=by
 obtain ⟨f,e⟩:=c;obtain ⟨a,m⟩:=a;have i:=Wf.1 h.tab.nodup;intro q;have j:T[A].1=T[X].1:=by rw [e,m];exact q.symm
 rcases Nat.lt_or_gt_of_ne o with b|b
 . exact i A X (by simpa using f) (by simpa using a) b (by simpa using j)
 . exact i X A (by simpa using a) (by simpa using f) b (by simpa using j.symm)
def uh {B B':Nat} {ys:List ZW} {vO:ZW} (h:w.ownsRow B 31 1 (Z6 (Z0 ⟨g,0,Z1⟩) c m) n xs) {n':Nat} (l:w.ownsRow B' 271 2 vO n' ys):vO.ownBlock≠Z0 g:=by
 intro e;rcases h.2 with ⟨a,_⟩|⟨q,cap,cur,f,o,j,_⟩
 . simp at a
 . simp at f;obtain ⟨rfl,_⟩:=f;rcases l.2 with ⟨a,_⟩|⟨r,b,d,k,p,i,_⟩
   . rw [a] at e;simp [Value.ownBlock] at e
   . rw [k] at e;simp [Value.ownBlock] at e;subst e;rw [j] at i;simp at i
theorem xI (P:List St) (D R0:List a8):∀ k,(dq P D R0 k).length<=k
 | 0=>TV _
 | k+1=>by
  have:=xI P D R0 k;unfold dq ik;split<;>simp<;>omega
theorem Rn.olen (h:Rn w0 B P D R0 n r gR k vO T O w):O.length<=k:=by
 have:=congrArg List.length h.vals;rw [T7] at this;rw [this];exact xI P D R0 k
def Rn.put (h:Rn w0 B P D R0 n r gR k vO T O w) {w1 v:ZX} {o:Obj} {b m:Nat} {l:a8} {sh:Int} {vO':ZW} (G:bW w w1) (I:w.heap.size<=b) (E:aM w1 b (l++YD m 0)) (hl:l.length=n) (hn:n<=100000) (J:n+m<=9223372036854775807) (H:∀ x∈l,x<256)
 (g:(w1.alloc o).grownBy v vO.ownBlock) (C:v.ownsRow B 271 2 vO' (O.length+1) (pM O++[Z8 Z9 sh,Z6 (Z0 ⟨b,0,Z1⟩) n (n+m)]))
 (A:bP P D R0 (k+1)=bP P D R0 k) (ho:dq P D R0 (k+1)=dq P D R0 k++[(sh,l)]):Rn w0 B P D R0 n r gR (k+1) vO' T (O++[(sh,b,n,l++YD m 0)]) v:=by
 have f:=(h.next G).next ((TY w1.heap.size w1).alloc lR o);have:=h.size;have hll:(l++YD m 0).length=n+m:=by simp [hl]
 have y:=E.alloc o;refine ⟨?_,by rw [A];exact h.hold,by rw [A];exact h.len,?_,?_,?_,?_,?_⟩
 . refine ⟨f.tab.own.kept g (.inr λe=>?_),λp s=>?_,f.tab.nodup⟩
   . exact uh f.tab.own f.outs.own (by rw [<- e];rfl)
   . obtain ⟨t,i,u⟩:=f.tab.row p s;exact ⟨t,i.grown g (λe=>zV f.outs.own i e.symm),u⟩
 . refine ⟨?_,λq d=>?_,?_⟩
   . rw [qO];simpa [pM,jX,hll,hl] using C
   . rcases Uf.1 d with d|d
     . obtain ⟨t,i,u⟩:=f.outs.row q d;exact ⟨t,i.grown g (λe=>zV f.outs.own i e.symm),u⟩
     . simp at d;subst d;refine ⟨by show B<=b;omega,y.grown g (λe=>zV f.outs.own y e.symm),by show n<=(l++YD m 0).length;omega,⟨by show n<=140737488355328;omega,by show (l++YD m 0).length<=9223372036854775807;omega⟩,?_⟩;intro x j;rcases Uf.1 j with j|j
       . exact H x j
       . have:=VG j;omega
   . rw [Uw,UU];refine ⟨h.outs.nodup,by simp,?_⟩;intro a F c z;obtain ⟨q,d,rfl⟩:=T6.1 F;simp at z;subst z;have:=(h.outs.row q d).2.1.lt;omega
 . rw [ho,Uw,h.vals];simp [<- hl]
 . intro p s q d;rcases Uf.1 d with d|d
   . exact h.apart p s q d
   . simp at d;subst d;have:=(h.tab.row p s).2.1.lt;show p.1≠b;omega
 . exact f.below.grown g f.size (λq d=>(f.outs.own.lt q d).1)
 . exact TW f.size g.size
end
def zX (ao:Option Addr) (a:Nat) (w:ZX):(convert 31 9 (.slice ao 0 a)).run ZT w=.ok (Z2 YG) w:=by
 rw [run_convert_bytes_string w 31 9 5 ao 0 a Uh W4 YB];cases ao<;>simp [Conv.bytesToString,loadCells,loadCellsFrom]
