import Derived.Test.YtfbmmcnpjhmjaaaGreatDoorM42
set_option maxRecDepth 100000
set_option maxHeartbeats 8000000
open Go.IntKind renaming i64 -> Z9
open Go.Value renaming int -> Z8, slice -> Z7
open Go.Ending renaming returned -> Z6
open Option renaming none -> Z5, some -> Z4
open Go renaming World -> Z3
open Int renaming toNat_natCast -> Tm
open List renaming length_drop -> Tn, length_take -> To, length_append -> Tq, replicate -> Ts
open Nat renaming le_refl -> Tp
open Array renaming getElem?_modify -> Tr
open Go.Proofs.Tryz renaming prog -> Z2
namespace Go.Proofs.YtfbmmcnpjhmjaaaGreatDoor
open Go.RowKit Go.Deep
variable {L:List (ByteArray×Value)} {n base:Nat} {v:Value} {w:Z3}
theorem wC (a:∀ o∈L,ld o.2) (k:Nat):∀ o∈L.take k,ld o.2:=λo h=>a o (List.mem_of_mem_take h)
theorem pJ (a:∀ o∈L,ld o.2) (k:Nat):∀ o∈L.drop k,ld o.2:=λo h=>a o (List.mem_of_mem_drop h)
theorem oP {g off c:Nat} (l:L.length=n) (i:∀ k (r:k<L.length),w.cell? ⟨g,off+k*2,Z5⟩=Z4 (.string L[k].1)/\w.cell? ⟨g,off+k*2+1,Z5⟩=Z4 L[k].2) (m:∀ o∈L,ld o.2) :
 Src Z2 2 51 (Z7 (Z4 ⟨g,off,Z5⟩) n c) n (aP L) w:=by
 subst l;refine Src.ofSlice w Tryz.underlying51 ⟨g,off,Z5⟩ L.length c (aP L) (kK L) (λj u a=>?_) (tJ m);rw [Addr.add_mid];have p:j<L.length*2:=by
  obtain ⟨q,_⟩:=List.getElem?_eq_some_iff.1 a;rwa [kK] at q
 obtain ⟨f,h⟩:=tH L (j/2) (by omega);obtain ⟨c1,d⟩:=i (j/2) (by omega);by_cases e:j%2=0
 . have b:j/2*2=j:=(by omega);rw [b] at f c1;rw [f] at a;rw [c1,a]
 . have b:j/2*2+1=j:=(by omega);rw [b] at h;rw [h] at a;rw [show off+j/2*2+1=off+j by omega] at d;rw [d,a]
theorem tK {e:TypeId} {size:Nat} {xs:List Value} (h:w.ownsRow base e size v n xs):∃ b sl a,v=.slice b sl a:=by
 rcases h.2 with ⟨q,_⟩|⟨g,cap,cur,q,_⟩
 . exact ⟨_,_,_,q⟩
 . exact ⟨_,_,_,q⟩
def PR (w:Z3) (r:Nat) (L:List (ByteArray×Value)) (name:ByteArray) (e:Ending) (w':Z3):Prop:=
 (¬ bX name/\e=Z6 (Z8 Z9 6)/\w'=w)\/(bX name/\pI L name/\e=Z6 (Z8 Z9 9)/\w'=w) \/
 (bX name/\∃ k,Mh L name k/\e=Z6 (Z8 Z9 0)/\(∃ u,oN w' r w.heap.size u (L.take k++L.drop (k+1)))/\aa (λj=>j=r) w w')
theorem Bi {r:Nat} (h:oN w r base v L) (hl:L.length<=1000000) (Y:∀ o∈L,ld o.2) (name:ByteArray) :
 Calls Z2 23 #[.pointer (Z4 ⟨r,0,Z5⟩),.string name] w λe w'=>PR w r L name e w':=by
 obtain ⟨A,f0⟩:=h.cell;have kg:=h.shape;have K:=jT h hl name;have hm:=tI h hl name;obtain ⟨id,t,O,N,M⟩:=info_parts Tryz.infoRobj;go_enter Tryz.func23,Tryz.ntmps23;go_wp2_with fail;refine hm.mono ?_;clear hm;rintro e w1 ⟨rfl,hg⟩;rcases hg with ⟨kk,rfl⟩|⟨D,J,rfl⟩|⟨D,k0,kc,rfl⟩
 . have H:=hide kk;clear kk K kg;go_wp2;go_ret;exact .inl ⟨H.out,rfl,rfl⟩
 . have H:=hide2 D J;clear D J K kg;go_wp2;go_ret;exact .inr (.inl ⟨H.out.1,H.out.2,rfl,rfl⟩)
 . obtain ⟨x,hx⟩:=nM ((L.getD k0 (ByteArray.empty,undef)).2);rw [hx];clear hx;go_wp2_with fail;refine K.mono ?_;clear K;rintro e w2 ⟨rfl,hf⟩;rcases hf with ⟨k,hk,rfl,hn,h3⟩|⟨rfl,J⟩
   . rcases kg with ⟨rfl,rfl⟩|⟨g,cap,rfl,kr,ko,I⟩
     . exact absurd hk (by simp)
     . have kh:Mh L name k:=⟨hk,hn,h3⟩;have ki:g<w2.heap.size:=block_lt_of_cell (I 0 (by omega)).1;have hp:r≠g:=by
        intro e;rcases h.own.2 with ⟨q,_⟩|⟨g',hb,cur,e1,e2,S,_⟩
        . cases q
        . simp at e1;rw [<- e1.1] at S;rw [<- e,h.top] at S;simp at S
       have km:Src Z2 2 51 (Z7 (Z4 ⟨g,0,Z5⟩) k cap) k (aP (L.take k)) w2:=oP (by rw [To];omega) (λj l=>by
        rw [To] at l;obtain ⟨q1,q2⟩:=I j (by omega);rw [Nat.zero_add,List.getElem_take];exact ⟨q1,q2⟩) (wC Y k)
       have p:=hide5 D kh I h hp;have k1:(k:Int)<(L.length:Int):=(by omega);have k2:¬ (k:Int)<0:=(by omega);clear D kh hn h3 I h hp kc;have kx:r<w2.heap.size:=block_lt_of_cell A;have P:¬ cap=k+1\/cap=k+1:=(Decidable.em (cap=k+1)).symm;have ks:wrap64 ((k:Int)+1)=(k:Int)+1:=(by unfold wrap64;omega);rcases P with P|P
       . have kv:¬ (cap:Int)-((k:Int)+1)=0:=(by omega);go_wp2_with (first
          | (at_builtin;refine af _ rfl (.tmp 21) (.tmp 27) 51 51 rfl w2.heap.size 80 id _ 2 40 Tryz.underlying51 t O N M rfl (Z7 Z5 0 0) 0 [] rfl (World.ownsRow_nil _ _ _ _) _ rfl k (aP (L.take k)) km (by unfold maxLen;omega) (by omega) lR ?_;intro G n C d k9
             have s:∀ j,j<w2.heap.size->n.heap[j]?=w2.heap[j]?:=λj l=>d.block j l (by simp [Value.ownBlock]);have u:n.heap[r]?=_:=(s r (block_lt_of_cell A)).trans p.out.2.2.2.1.top;have R:n.cell? ⟨r,0,Z5⟩=Z4 (Z7 (Z4 ⟨g,0,Z5⟩) L.length cap):=(by simp [World.cell?,u]);have f3:n.frozen? ⟨r,0,Z5⟩=false:=(by simp [World.frozen?,u]);have F:=d.size;have V:=d.os;have T:=d.tape;have U:=d.output;have E:Src Z2 2 51 (Z7 (Z4 ⟨g,(k+1)*2,Z5⟩) (L.length-(k+1)) (cap-(k+1))) (L.length-(k+1)) (aP (L.drop (k+1))) n:=oP (by rw [Tn]) (λj l=>by
              rw [Tn] at l;obtain ⟨q1,q2⟩:=p.out.2.2.1 (k+1+j) (by omega);rw [List.getElem_drop,show (k+1)*2+j*2=(k+1+j)*2 by omega];exact ⟨(World.cell?_of_block (s g ki)).trans q1,(World.cell?_of_block (s g ki)).trans q2⟩) (pJ Y (k+1))
             have c:=hide3 C s E;clear C d s E u)
          | (at_builtin;refine af _ rfl (.tmp 29) (.tmp 36) 51 51 rfl w2.heap.size 80 id _ 2 40 Tryz.underlying51 t O N M rfl G (0+k) _ rfl c.out.1 _ rfl (L.length-(k+1)) (aP (L.drop (k+1))) c.out.2.2 (by unfold maxLen;omega) (by omega) F ?_;intro v2 b m a ka
             obtain ⟨z,sl,y,rfl⟩:=tK m;have kf:¬ Z4 r=G.ownBlock:=λe=>by have:=(c.out.1.lt r e.symm).1;omega
             have f:b.heap[r]?=_:=(a.block r (block_lt_of_cell R) kf).trans ((c.out.2.1 r (block_lt_of_cell A)).trans p.out.2.2.2.1.top);have c4:b.cell? ⟨r,0,Z5⟩=Z4 (Z7 (Z4 ⟨g,0,Z5⟩) L.length cap):=(by simp [World.cell?,f]);have f4:b.frozen? ⟨r,0,Z5⟩=false:=(by simp [World.frozen?,f]);have Q:=hide3 m a f;clear m a f))
         have ke:(L.take k++L.drop (k+1)).length=0+k+(L.length-(k+1)):=(by rw [Tq,To,Tn];omega);obtain ⟨m,a,f⟩:=Q.out;have B:b.ownsRow w2.heap.size 80 2 (.slice z sl y) (L.take k++L.drop (k+1)).length (aP (L.take k++L.drop (k+1))):=(by rw [ke,jy];exact m);have W:aa (λj=>j=r) w2 b:=⟨a.os.trans V,a.tape.trans T,a.output.trans U,Nat.le_trans F a.size,λj l kp=>(a.block j (by omega) (λe=>by have:=(c.out.1.lt j e.symm).1;omega)).trans (c.out.2.1 j l)⟩;go_ret;have kb:b.grownBy (b.setCell ⟨r,0,Z5⟩ (.slice z sl y)) (Z4 r):=⟨rfl,rfl,rfl,by simp [World.setCell],λi _ X=>blk_setCell_other _ _ _ _ (λe=>X (by rw [e]))⟩;refine .inr (.inr ⟨p.out.1,k,p.out.2.1,rfl,⟨.slice z sl y,⟨by simp [World.setCell,Tr,f],B.kept kb (.inr λe=>by have:=(B.lt r e).1;omega)⟩⟩,W.trans (aa.setCell _ _ _ rfl)⟩)
       . subst P;have kj:L.length=k+1:=(by omega);have Z:=hide kj;clear kj;go_wp2_with (first
          | (at_builtin;refine af _ rfl (.tmp 21) (.tmp 27) 51 51 rfl w2.heap.size 80 id _ 2 40 Tryz.underlying51 t O N M rfl (Z7 Z5 0 0) 0 [] rfl (World.ownsRow_nil _ _ _ _) _ rfl k (aP (L.take k)) km (by unfold maxLen;omega) (by omega) lR ?_;intro G n C d k9
             have s:∀ j,j<w2.heap.size->n.heap[j]?=w2.heap[j]?:=λj l=>d.block j l (by simp [Value.ownBlock]);have u:n.heap[r]?=_:=(s r (block_lt_of_cell A)).trans p.out.2.2.2.1.top;have R:n.cell? ⟨r,0,Z5⟩=Z4 (Z7 (Z4 ⟨g,0,Z5⟩) L.length (k+1)):=(by simp [World.cell?,u]);have f3:n.frozen? ⟨r,0,Z5⟩=false:=(by simp [World.frozen?,u]);have F:=d.size;have V:=d.os;have T:=d.tape;have U:=d.output;have E:Src Z2 2 51 (Z7 (Z4 ⟨g,0,Z5⟩) 0 0) 0 (aP (L.drop (k+1))) n:=oP (by rw [Tn,Z.out];omega) (λj l=>absurd l (by rw [Tn,Z.out];omega)) (pJ Y (k+1));have c:=hide3 C s E;clear C d s E u)
          | (at_builtin;refine af _ rfl (.tmp 29) (.tmp 36) 51 51 rfl w2.heap.size 80 id _ 2 40 Tryz.underlying51 t O N M rfl G (0+k) _ rfl c.out.1 _ rfl 0 (aP (L.drop (k+1))) c.out.2.2 (by unfold maxLen;omega) (by omega) F ?_;intro v2 b m a ka
             obtain ⟨z,sl,y,rfl⟩:=tK m;have kf:¬ Z4 r=G.ownBlock:=λe=>by have:=(c.out.1.lt r e.symm).1;omega
             have f:b.heap[r]?=_:=(a.block r (block_lt_of_cell R) kf).trans ((c.out.2.1 r (block_lt_of_cell A)).trans p.out.2.2.2.1.top);have c4:b.cell? ⟨r,0,Z5⟩=Z4 (Z7 (Z4 ⟨g,0,Z5⟩) L.length (k+1)):=(by simp [World.cell?,f]);have f4:b.frozen? ⟨r,0,Z5⟩=false:=(by simp [World.frozen?,f]);have Q:=hide3 m a f;clear m a f))
         have ke:(L.take k++L.drop (k+1)).length=0+k+0:=(by rw [Tq,To,Tn,Z.out];omega);obtain ⟨m,a,f⟩:=Q.out;have B:b.ownsRow w2.heap.size 80 2 (.slice z sl y) (L.take k++L.drop (k+1)).length (aP (L.take k++L.drop (k+1))):=(by rw [ke,jy];exact m);have W:aa (λj=>j=r) w2 b:=⟨a.os.trans V,a.tape.trans T,a.output.trans U,Nat.le_trans F a.size,λj l kp=>(a.block j (by omega) (λe=>by have:=(c.out.1.lt j e.symm).1;omega)).trans (c.out.2.1 j l)⟩;go_ret;have kb:b.grownBy (b.setCell ⟨r,0,Z5⟩ (.slice z sl y)) (Z4 r):=⟨rfl,rfl,rfl,by simp [World.setCell],λi _ X=>blk_setCell_other _ _ _ _ (λe=>X (by rw [e]))⟩;refine .inr (.inr ⟨p.out.1,k,p.out.2.1,rfl,⟨.slice z sl y,⟨by simp [World.setCell,Tr,f],B.kept kb (.inr λe=>by have:=(B.lt r e).1;omega)⟩⟩,W.trans (aa.setCell _ _ _ rfl)⟩)
   . exact absurd kc.2.1 (J k0 kc.1)
section
open Gf
theorem KJ (P:List St) (D c:List (List Nat)) (k:Nat) (h:(bI P k).k=0):bO P D c (k+1)=(bO P D c k).set (bI P k).a.toNat (D.getD (bI P k).b.toNat [])/\dj P D c (k+1)=dj P D c k:=by
 simp [bO,dj,dA,gS,h]
theorem Mr (P:List St) (D d:List (List Nat)) (k:Nat) (h:(bI P k).k=1):bO P D d (k+1)=(bO P D d k).set (bI P k).a.toNat (iD ((bO P D d k).getD (bI P k).a.toNat []) ((bO P D d k).getD (bI P k).b.toNat []) (bI P k).c)/\dj P D d (k+1)=dj P D d k:=by
 simp [bO,dj,dA,gS,h]
theorem Mt (P:List St) (D c:List (List Nat)) (k:Nat) (h:(bI P k).k=2):bO P D c (k+1)=bO P D c k/\dj P D c (k+1)=dj P D c k++[((bI P k).b,(bO P D c k).getD (bI P k).a.toNat [])]:=by
 simp [bO,dj,dA,gS,h]
def R9 (w0:Z3) (B:Nat) (P:List St) (D R0:List (List Nat)) (n r gR:Nat) (vO iv:Value) (wr:Z3):Prop:=
 ∃ k T O,k<=P.length/\iv=Z8 Z9 (k:Nat)/\Rn w0 B P D R0 n r gR k vO T O wr
def OG (regs:Int) (P:List St) (D:List (List Nat)) (gone:Nat) (w:Z3) (e:Ending) (w':Z3):Prop:=
 (iB regs P D.length->gu P D gone->∃ v O,e=Z6 (.tuple #[v,.nilIface])/\mB 252 w' w.heap.size v O/\O.map (λq=>(q.1,q.2.2.2.take q.2.2.1))=dj P D (eL regs.toNat (er P D)) P.length) /\
 (iB regs P D.length->¬ gu P D gone->e=Z6 (.tuple #[Z7 Z5 0 0,.iface 66 (Z8 Z9 2)]))/\(¬ iB regs P D.length->e=Z6 (.tuple #[Z7 Z5 0 0,.iface 66 (Z8 Z9 4)]))/\Below w.heap.size w w'
theorem mB.weaken {t:TypeId} {base':Nat} {O:List (Int×Nat×Nat×List Nat)} (h:mB t w base v O) (c:base'<=base):mB t w base' v O:=
 ⟨cT h.own c,λq d=>by obtain ⟨a,b⟩:=h.row q d;exact ⟨by omega,b⟩,h.nodup⟩
theorem Tryz.infoOutput:(Z2.info? 252).map (λi=>(i.zero,i.size,i.bytes))=Z4 (Z4 (.agg #[Z8 Z9 0,Z7 Z5 0 0]),2,32):=by kernel_rfl
theorem Mu (w:Z3) (n:Nat) (b:n=w.heap.size) (x y:Value) (t:TypeId):∀ j v,[x,y][j]?=Z4 v->(w.alloc (.cells #[x,y] t)).cell? ((⟨n,0,Z5⟩:Addr).add j)=Z4 v:=by
 subst b;intro j v a;rw [mw];rcases j with _|_|j;all_goals simp at a
 all_goals subst a;simp
theorem QN (w:Z3) (k a b c:Value) (t:TypeId):∃ d,w.alloc (.cells #[k,a,b,c] t)=d/\Below w.heap.size w d/\d.heap.size=w.heap.size+1/\d.cell? ⟨w.heap.size,1,Z5⟩=Z4 a/\d.cell? ⟨w.heap.size,2,Z5⟩=Z4 b/\d.cell? ⟨w.heap.size,3,Z5⟩=Z4 c:=
 ⟨_,rfl,bA _ _,nblk_alloc _ _,by simp,by simp,by simp⟩
theorem Mv (f:Int) (v:Value) (P:List St) (V ci:Nat) (D:List (List Nat)) (gone:Nat) (w:Z3) (h:Ps .u8 w v P) (hP:∀ s∈P,xQ s) (Y:In w V D gone) (xd:V<w.heap.size) (q2:∀ l∈D,l.length<=100000) (M:P.length<=5000) :
 Calls Z2 152 #[.agg #[Z8 Z9 f,v],Z7 (Z4 ⟨V,0,Z5⟩) D.length ci] w λe w'=>OG f P D gone w e w':=by
 obtain ⟨i0,x2,x9,xa,xb⟩:=info_parts Tryz.infoOutput;have kf:Below w.heap.size w (w.alloc (.cells #[Z8 Z9 f,v] 210)):=bA _ _;have h0:=h.mono kf;obtain ⟨ao,c,rfl⟩:=h.slice;go_enter Tryz.func152,Tryz.ntmps152;go_wp2_with fail;refine (FS f D.length _ P _ h0).mono ?_;rintro e w1 ⟨kr,ks,hx⟩;rw [nblk_alloc] at hx;obtain ⟨p0,p1⟩:=Pw hx rfl;have x7:=hx.size;rw [nblk_alloc] at x7;have h5:=kf.trans (hx.mono (by omega));by_cases L:iB f P D.length
 . have I:=kr L;subst I;obtain ⟨⟨g0,g1,g2⟩,hy⟩:=id L;obtain ⟨r,rfl⟩:∃ r:Nat,f=(r:Int):=⟨f.toNat,by omega⟩;have q8:=hide L;have qp:=hide hy;have hr:∀ i,i<P.length->(bI P i).k=0->0<=(bI P i).b/\(bI P i).b<(D.length:Int):=by
    intro i hi hk;rw [dI P i hi] at *;rcases hy i hi with h|h
    . exact ⟨h.2.2.2.1,h.2.2.2.2⟩
    . omega
   have q4:r<=32:=(by omega);have h1:=h.mono h5;have qc:=Y.mono h5;clear L hy kr ks h0 hx kf g0 g1;go_wp2_with fail;refine (pP _ P V ci D gone w1 h1 qc q2 hr M).mono ?_;rintro e w2 ⟨kx,ky,k6⟩;have q0:=(k6.cell (block_lt_of_cell p0)).trans p0;have q1:=(k6.cell (block_lt_of_cell p1)).trans p1;have k7:=h5.trans (k6.mono (by omega));have xf:=k6.size;clear hr h1 qc p0 p1 h5 k6;by_cases F:gu P D gone
   . have I:=kx F;subst I;have qi:=F0 F;have ka:=hide F;have q6:=hide (NY F);clear F kx ky;obtain ⟨n,G⟩:=nM (er P D);have HN:=hide G;rw [G] at qi q6;rw [G];clear G;go_wp2_with fail;refine (ze r n w2 q4 qi).mono ?_;rintro e w3 ⟨B,T0,rfl,qe,qb,ko⟩;have x8:=ko.size;have hd:=(ko.cell (block_lt_of_cell q1)).trans q1;have qd:Rn w2 w2.heap.size P D (eL r n) n r B 0 (Z7 Z5 0 0) T0 [] w3:=⟨qe,qb,λl M=>by
      have:=List.eq_of_mem_replicate (show l∈Ts r (Ts n 0) from M);rw [this];simp,mB.nil _ _ _,rfl,λp _ q hq=>by simp at hq,ko,x8⟩
     have qa:=hide qd;clear qd qe qb q0 q1;go_wp2;clear hd;go_loopw [10,37] (λvO iv wr=>R9 w2 w2.heap.size P D (eL r n) n r B vO iv wr) (λ_ iv _=>P.length-(intOf iv).toNat)
     case atStart=>exact ⟨0,T0,[],Nat.zero_le _,rfl,qa.out⟩
     case round=>
      clear qa;rename Z3=>wo;obtain ⟨k,T,O,hk,rfl,Z⟩:=hrel;have xh:=Z.size;have kp:=k7.trans (Z.below.mono (by omega));by_cases K:k<P.length
      . rcases (h.mono kp).cases with ⟨rfl,_⟩|⟨b,off,cc,e,_,hc⟩
        . simp at K
        simp at e;obtain ⟨rfl,rfl⟩:=e;obtain ⟨d0,d1,d2,d3⟩:=hc k K;have hy:=qp.out k K;unfold iA at hy;have qh:=hP _ (List.getElem_mem K);have k9:=dI P k K;have E:=hide (KJ P D (eL r n) k);have hm:=hide (Mr P D (eL r n) k);have hs:=hide (Mt P D (eL r n) k);have kb:=hide (ka.out k K);have k0:=hide (q6.out k K);have h4:Hid (LY P D gone k↔((bI P k).k=0->¬ oz gone (bI P k).b.toNat/\fl P D (k+1)=Z4 (D.getD (bI P k).b.toNat []).length/\(D.getD (bI P k).b.toNat []).length<=4096)):=Iff.rfl;rw [k9] at E hm hs k0 h4;have qn:=hide (Y.mono kp);have HC:=hide hc;have y:=hide Z;have HI:=hide Y;have HH:=hide h;have xc:=hide hP;clear hc Z Y h hP k9;have qj:=qh.2.2.2.2.2;clear qh;generalize P[k].k=sk at *;generalize P[k].a=sa at *;generalize P[k].b=sb at *;generalize P[k].c=N at *;obtain ⟨d,hz,C,xg,b1,b2,b3⟩:=QN wo (Z8 .u8 (sk:Int)) (Z8 Z9 sa) (Z8 Z9 sb) (Z8 .u8 (N:Int)) 284;have ki:=hide (y.out.next C);rcases hy with ⟨kz,a0,a1,x0,x1⟩|⟨x3,a0,a1,x0,x1,xe⟩
        . obtain ⟨A,rfl⟩:∃ A:Nat,sa=(A:Int):=⟨sa.toNat,by omega⟩;obtain ⟨X,rfl⟩:∃ X:Nat,sb=(X:Int):=⟨sb.toNat,by omega⟩;have hA:A<r:=(by omega);have hX:X<D.length:=(by omega);obtain ⟨g,J,t,z,u,H,t5,t6,t7,t8,t9⟩:=y.out.reg A hA;replace t:=(C.cell (block_lt_of_cell t)).trans t
          replace z:=z.below C
          rw [Tm,Tm] at E;rw [Tm] at hs;rcases kz with rfl|rfl
          . have h6:Hid (wo.alloc (.cells #[Z8 .u8 0,Z8 Z9 (A:Int),Z8 Z9 (X:Int),Z8 .u8 (N:Int)] 284)=d):=hz;have qg:D.getD X []=D[X]:=(by simp [hX]);have q3:=h4.out.1 kb.out rfl;have kg:=k0.out rfl;rw [Tm,qg] at q3 kg;rw [qg] at E;obtain ⟨ax,cx,u1,u2⟩:=(qn.out X hX).2 q3.1;have Q:=(C.cell (block_lt_of_cell u1)).trans u1;have hb:=u2.mono C;have qk:∀ x∈D[X],x<256:=by
             obtain ⟨_,_,_,_,_,h,_⟩:=u2;exact h
            obtain ⟨wc,hh,ke,o⟩:=KI d.drew 3 g n n _ D[X] (Z4 ax) cx z hb kg u;have HW:=hide ((ki.out.next (show Below d.heap.size d d.drew from ⟨rfl,rfl,rfl,Tp _,λ_ _=>rfl⟩)).write J u o ke kg qk (E.out rfl).1 (E.out rfl).2);rw [kg] at Q hh;have kj:=hide hh;have z1:=o.cell (show d.drew.cell? ⟨wo.heap.size,1,Z5⟩=_ from b1) (by simp;omega);have z2:=o.cell (show d.drew.cell? ⟨wo.heap.size,2,Z5⟩=_ from b2) (by simp;omega);have z3:=o.cell (show d.drew.cell? ⟨B,A,Z5⟩=_ from t) (by simp;omega);have z4:=o.cell (show d.drew.cell? ⟨V,X,Z5⟩=_ from Q) (by simp;omega);clear hh ke o u1 u2 hb J z u H E hm hs kb k0 h4 q3 qk hz;go_wp2;rw [h6.out];go_region_held3 (λw'=>w'.cell? ⟨wo.heap.size,1,Z5⟩=Z4 (Z8 Z9 (A:Int))/\w'.cell? ⟨wo.heap.size,2,Z5⟩=Z4 (Z8 Z9 (X:Int))/\w'.cell? ⟨B,A,Z5⟩=Z4 (Z7 (Z4 ⟨g,0,Z5⟩) n n)/\w'.cell? ⟨V,X,Z5⟩=Z4 (Z7 (Z4 ax) n cx)) (first|exact ⟨b1,b2,t,Q⟩|exact ⟨z1,z2,z3,z4⟩) (refine GU rfl (.tmp 49) (.tmp 54) rfl _ _ _ rfl rfl kj.out ?_);go_wp2;go_roundw
            case rel=>
             obtain ⟨T',km⟩:=HW.out;exact ⟨k+1,T',O,by omega,by go_num,km⟩
            case measure=>simp [intOf];omega
          . have h6:Hid (wo.alloc (.cells #[Z8 .u8 2,Z8 Z9 (A:Int),Z8 Z9 (X:Int),Z8 .u8 (N:Int)] 284)=d):=hz;have hv:=ki.out.next (show Below d.heap.size d d.drew from ⟨rfl,rfl,rfl,Tp _,λ_ _=>rfl⟩);have hol:=hv.olen;have kv:=DQ ⟨g,0,Z5⟩ n _ d.drew (by have:=Bs.of_row (n:=n) (show aM d.drew g _ from z) (by omega) (by omega) H;rw [List.take_of_length_le (by omega),u] at this;rw [u];exact this) (by omega);rw [u] at kv;have qm:=hide kv;have k5:=hide hv;have q9:=hide (hs.out rfl);have kc:=hide u;have kk:=hide H;have q7:=hide (λj hj=>(y.out.outs.own.lt j hj).2);have qo:=hide (tW y.out.tab.own y.out.outs.own);have z1:d.drew.cell? ⟨wo.heap.size,1,Z5⟩=Z4 (Z8 Z9 (A:Int)):=b1;have z2:d.drew.cell? ⟨wo.heap.size,2,Z5⟩=Z4 (Z8 Z9 (X:Int)):=b2;have z3:d.drew.cell? ⟨B,A,Z5⟩=Z4 (Z7 (Z4 ⟨g,0,Z5⟩) n n):=t;clear kv hv J z u H E hm hs kb k0 h4 hz;go_wp2;rw [h6.out];go_region_held3 (λw'=>w'.cell? ⟨wo.heap.size,1,Z5⟩=Z4 (Z8 Z9 (A:Int))/\w'.cell? ⟨wo.heap.size,2,Z5⟩=Z4 (Z8 Z9 (X:Int))/\w'.cell? ⟨B,A,Z5⟩=Z4 (Z7 (Z4 ⟨g,0,Z5⟩) n n)) (first|exact ⟨b1,b2,t⟩|exact ⟨R,S,U⟩|exact ⟨((bA _ _).cell (block_lt_of_cell R)).trans R,((bA _ _).cell (block_lt_of_cell S)).trans S,((bA _ _).cell (block_lt_of_cell U)).trans U⟩|exact ⟨qr,xi,xj⟩)
             (first
              | (go_at_call 173;refine qm.out.mono ?_;rintro e wd ⟨bd,m,rfl,qy,qv,x6,W⟩
                 have R:=(W.cell (block_lt_of_cell z1)).trans z1;have S:=(W.cell (block_lt_of_cell z2)).trans z2;have U:=(W.cell (block_lt_of_cell z3)).trans z3)
              | (refine step_append_lies _ rfl (.tmp 73) (.tmp 83) 248 rfl w2.heap.size 252 i0 (.agg #[Z8 Z9 0,Z7 Z5 0 0]) 2 32 Tryz.underlying248 x2 x9 xa xb rfl (by decide) u10 O.length (pN O) rfl ((k5.out.next W).next (bA _ _)).outs.own ⟨wd.heap.size,0,Z5⟩ 1 1 [Z8 Z9 (X:Int),Z7 (Z4 ⟨bd,0,Z5⟩) n (n+m)] rfl rfl (Mu _ _ rfl _ _ _) (by intro q hq;simp at hq;rcases hq with rfl|rfl<;>rfl) (by omega) (by unfold maxLen;omega) (by omega) (by have:=((k5.out.next W).next ((Below.refl _ _).alloc lR (.cells #[Z8 Z9 (X:Int),Z7 (Z4 ⟨bd,0,Z5⟩) n (n+m)] 252))).size;exact this) _ rfl ?_;intro g5 xk w5 k8 h8 qx x5
                 have qr:=h8.cell (((bA _ _).cell (block_lt_of_cell R)).trans R) (λe=>by have:=q7.out _ e.symm;simp at this);have xi:=h8.cell (((bA _ _).cell (block_lt_of_cell S)).trans S) (λe=>by have:=q7.out _ e.symm;simp at this);have xj:=h8.cell (((bA _ _).cell (block_lt_of_cell U)).trans U) (λe=>qo.out e.symm)))
            go_wp2;go_roundw
            case rel=>exact ⟨k+1,T,_,by omega,by go_num,k5.out.put W qy qv kc.out (by omega) x6 kk.out h8 k8 q9.out.1 q9.out.2⟩
            case measure=>simp [intOf];omega
        . obtain ⟨A,rfl⟩:∃ A:Nat,sa=(A:Int):=⟨sa.toNat,by omega⟩;obtain ⟨X,rfl⟩:∃ X:Nat,sb=(X:Int):=⟨sb.toNat,by omega⟩;have hA:A<r:=(by omega);have hX:X<r:=(by omega);have qs:A≠X:=(by omega);obtain ⟨g,J,t,z,u,H,t5,t6,t7,t8,t9⟩:=y.out.reg A hA;obtain ⟨g',qf,s1,s2,s3,s4,s5,s6,s7,s8,s9⟩:=y.out.reg X hX;have qz:=y.out.reg_ne J qf qs;replace t:=(C.cell (block_lt_of_cell t)).trans t
          replace z:=z.below C
          replace s1:=(C.cell (block_lt_of_cell s1)).trans s1
          replace s2:=s2.below C
          rw [Tm,Tm] at hm;subst x3;have h6:Hid (wo.alloc (.cells #[Z8 .u8 1,Z8 Z9 (A:Int),Z8 Z9 (X:Int),Z8 .u8 (N:Int)] 284)=d):=hz;have hv:=ki.out.next (show Below d.heap.size d d.drew from ⟨rfl,rfl,rfl,Tp _,λ_ _=>rfl⟩);have kh:=hide (zg g g' n N _ _ d.drew qj z s2 u s3 qz H s4 (by omega));have k5:=hide hv;have q5:=hide (hm.out rfl);have qq:=hide J;have kc:=hide u;have kk:=hide H;have z1:d.drew.cell? ⟨wo.heap.size,1,Z5⟩=Z4 (Z8 Z9 (A:Int)):=b1;have z2:d.drew.cell? ⟨wo.heap.size,2,Z5⟩=Z4 (Z8 Z9 (X:Int)):=b2;have z3:d.drew.cell? ⟨wo.heap.size,3,Z5⟩=Z4 (Z8 .u8 (N:Int)):=b3;have z4:d.drew.cell? ⟨B,A,Z5⟩=Z4 (Z7 (Z4 ⟨g,0,Z5⟩) n n):=t;have z5:d.drew.cell? ⟨B,X,Z5⟩=Z4 (Z7 (Z4 ⟨g',0,Z5⟩) n n):=s1;clear hv J qf z u H s2 s3 s4 E hm hs kb k0 h4 hz;go_wp2;rw [h6.out];go_region_held3 (λw'=>w'.cell? ⟨wo.heap.size,1,Z5⟩=Z4 (Z8 Z9 (A:Int))/\w'.cell? ⟨wo.heap.size,2,Z5⟩=Z4 (Z8 Z9 (X:Int))/\w'.cell? ⟨wo.heap.size,3,Z5⟩=Z4 (Z8 .u8 (N:Int))/\w'.cell? ⟨B,A,Z5⟩=Z4 (Z7 (Z4 ⟨g,0,Z5⟩) n n)/\w'.cell? ⟨B,X,Z5⟩=Z4 (Z7 (Z4 ⟨g',0,Z5⟩) n n)) (first|exact ⟨b1,b2,b3,t,s1⟩|exact ⟨R,S,U,y4,y5⟩)
           (first
            | (go_at_call 91;refine kh.out.mono ?_;rintro e wc ⟨rfl,ke,o⟩
               have R:=o.cell z1 (by simp;omega);have S:=o.cell z2 (by simp;omega);have U:=o.cell z3 (by simp;omega);have y4:=o.cell z4 (by simp;omega);have y5:=o.cell z5 (by simp;omega)))
          go_wp2;go_roundw
          case rel=>
           obtain ⟨T',km⟩:=k5.out.write qq.out kc.out o ke (by rw [tV];exact kc.out) (GW kk.out qj) q5.out.1 q5.out.2;exact ⟨k+1,T',O,by omega,by go_num,km⟩
          case measure=>simp [intOf];omega
      . have x4:k=P.length:=(by omega);subst x4;have y:=hide Z;clear Z h hP Y;go_wp2;go_ret2;refine ⟨λ_ _=>⟨_,O,rfl,y.out.outs.weaken (by omega),?_⟩,λ_ M=>absurd ka.out M,λG=>absurd q8.out G,kp⟩;rw [HN.out,Tm];exact y.out.vals
   . have I:=ky F;subst I;have ka:=hide F;clear F kx ky;go_wp2;go_ret2;exact ⟨λ_ M=>absurd M ka.out,λ_ _=>rfl,λG=>absurd q8.out G,k7⟩
 . have I:=ks L;subst I;have HN:=hide L;clear L kr ks h0 h hP Y hx kf;go_wp2;go_ret2;exact ⟨λhp=>absurd hp HN.out,λhp=>absurd hp HN.out,λ_=>rfl,h5⟩
end
end Go.Proofs.YtfbmmcnpjhmjaaaGreatDoor
