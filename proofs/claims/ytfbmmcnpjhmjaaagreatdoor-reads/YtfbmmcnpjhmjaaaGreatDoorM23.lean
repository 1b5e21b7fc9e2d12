import Derived.Test.YtfbmmcnpjhmjaaaGreatDoorM19
import Derived.Test.YtfbmmcnpjhmjaaaGreatDoorM22
import Derived.Test.YtfbmmcnpjhmjaaaGreatDoorM21
set_option maxRecDepth 100000
set_option maxHeartbeats 8000000
open Go.IntKind renaming i64 -> Z9
open Go.Value renaming int -> Z8, pointer -> Z7
open Go.Operand renaming tmp -> Z6
open Option renaming none -> Z5, some -> Z4
open Go renaming World -> Z3, Value -> Z2
open Go.RowKit renaming Below -> Z1
open List renaming range -> Tm, mem_map -> Tn, getElem_mem -> To, mem_range -> Tp, eq_nil_of_length_eq_zero -> Ts, mem_append -> Tt, getD_cons_succ -> Tu, getElem?_eq_none -> Tv, length_map -> Tw, length_take -> Tx
open Nat renaming zero_add -> Tq, le_trans -> Tr
open Int renaming natCast_mul -> Ty
open Go.Proofs.Tryz renaming prog -> Z0
namespace Go.Proofs.YtfbmmcnpjhmjaaaGreatDoor
open Go.RowKit Go.Deep Gf
variable {F:bx} {M:List (List Nat)} {dl l:List Nat} {p r c n k D b t L base ps ho:Nat} {G:Nat->Nat} {S:Nat->Prop} {v u:Z2} {w w':Z3}
def oX (G:Nat->Nat) (i:Nat):List Nat:=(Tm 64).map λj=>G (i*64+j)
def lu (G:Nat->Nat) (n:Nat):List (List Nat):=(Tm n).map (oX G)
theorem ij (G:Nat->Nat) (i j:Nat):kO (oX G i) j=if j<64 then G (i*64+j) else 0:=by
 unfold kO oX;by_cases h:j<64
 . simp [h]
 . simp [h]
theorem fM (G:Nat->Nat) (n:Nat):(lu G n).length=n:=by simp [lu]
theorem fO (G:Nat->Nat) (n i:Nat) (h:i<(lu G n).length):(lu G n)[i]=oX G i:=by simp [lu]
theorem rR (a:∀ x,G x<256) (n:Nat):∀ l∈lu G n,∀ x∈l,x<256:=by
 intro l b x c;obtain ⟨i,_,rfl⟩:=Tn.1 b;obtain ⟨j,_,rfl⟩:=Tn.1 c;exact a _
def zP (G:Nat->Nat) (p r x:Nat):Nat:=if x/64=r then G (p*64+x%64) else if x/64=p then G (r*64+x%64) else G x
theorem xt (a:∀ x,G x<256) (p r x:Nat):zP G p r x<256:=by
 unfold zP;split
 . exact a _
 . split<;>exact a _
theorem Cv (G:Nat->Nat) (p r i j:Nat) (c:j<64):zP G p r (i*64+j)=if i=r then G (p*64+j) else if i=p then G (r*64+j) else G (i*64+j):=by
 have a:(i*64+j)/64=i:=by omega
 have b:(i*64+j)%64=j:=by omega
 unfold zP;rw [a,b]
def IJ (G:Nat->Nat) (p r c n:Nat):Nat->Nat:=wk (zP G p r) r c (gi (G (p*64+c))) (max n (r+1))
theorem IK (a:∀ x,G x<256) (p r c n x:Nat):IJ G p r c n x<256:=MM (xt a p r) _ _ _ _
theorem IL (G:Nat->Nat) (p r c n i j:Nat) (_hc:c<64) (d:j<64) (f:r<i) (e:i<n):IJ G p r c n (i*64+j)=if c<=j then zP G p r (i*64+j)^^^gm (gm (zP G p r (i*64+c)) (gi (G (p*64+c)))) (G (p*64+j)) else zP G p r (i*64+j):=by
 have a:(i*64+j)/64=i:=by omega
 have b:(i*64+j)%64=j:=by omega
 unfold IJ wk;rw [a,b,Cv G p r r j d,if_pos rfl];by_cases h:c<=j
 . rw [if_pos h,if_pos (by omega)]
 . rw [if_neg h,if_neg (by omega)]
theorem D9 {i:Nat} (d:∀ x,G x<256) (b:c<64) (o:p<n) (l:r<=p) (k:G (p*64+c)≠0) (q:∀ i,r<=i->i<n->∀ j,j<c->G (i*64+j)=0) (g:r<i) (e:i<n) :
 ∃ f,f<256/\kO (oX (IJ G p r c n) i)=cA (kO (oX G (if i=p then r else i))) f (kO (oX G p))/\kO (oX (IJ G p r c n) i) c=0:=by
 have m:∀ j,j<64->zP G p r (i*64+j)=G ((if i=p then r else i)*64+j):=by
  intro j a;rw [Cv G p r i j a,if_neg (by omega)];split<;>rfl
 refine ⟨gm (zP G p r (i*64+c)) (gi (G (p*64+c))),aU _ (xt d _ _ _),?_,?_⟩
 . funext j;show kO (oX (IJ G p r c n) i) j=kO (oX G (if i=p then r else i)) j^^^gm _ (kO (oX G p) j);rw [ij,ij,ij];by_cases a:j<64
   . rw [if_pos a,if_pos a,if_pos a,IL G p r c n i j b a g e,m j a];by_cases h:c<=j
     . rw [if_pos h]
     . rw [if_neg h,q p l o j (by omega),bk,Nat.xor_zero]
   . rw [if_neg a,if_neg a,if_neg a,bk];exact (Nat.xor_self 0).symm
 . rw [ij,if_pos b,IL G p r c n i c b b g e,if_pos lR];exact rJ (xt d _ _ _) (d _) k
theorem Cw {m:Nat} (a:∀ x,G x<256) (g:c<64) (l:p<n) (d:r<=p) (b:G (p*64+c)≠0) (u:∀ i,r<=i->i<n->∀ j,j<c->G (i*64+j)=0)
 (t:dE m (oU (lu (IJ G p r c n) n) (r+1)) (c+1) k):dE (m+1) (oU (lu G n) r) c (k+1):=by
 refine zF (p:=p) (T':=lu (IJ G p r c n) n) (rR a n) (rR (IK a p r c n) n) (by rw [fM,fM]) d (by rw [fM];exact l) ?_ ?_ t
 . rw [fO,ij,if_pos g];exact b
 . intro i h q;rw [fM] at h;obtain ⟨f,s,e,o⟩:=D9 a g l d b u q h;refine ⟨f,by rw [fM];split<;>omega,s,?_,?_⟩
   . rw [fO,fO,fO];exact e
   . rw [fO];exact o
structure GI (D:List (List Nat)) (c r n:Nat) (G:Nat->Nat):Prop where
 byt:∀ x,G x<256
 rle:r<=n
 zer:∀ i,r<=i->i<n->∀ j,j<c->G (i*64+j)=0
 tak:∀ k,dE (64-c) (oU (lu G n) r) c k->rL D (r+k)
theorem GI.skip {D:List (List Nat)} (h:GI D c r n G) (f:c<64) (d:∀ i,r<=i->i<n->G (i*64+c)=0):GI D (c+1) r n G:=
 { h with
  zer:=λi b a j l=>by
   by_cases e:j=c
   . subst e;exact d i b a
   . exact h.zer i b a j (by omega)
  tak:=λk g=>by
   refine h.tak k ?_;have e:64-c=64-(c+1)+1:=(by omega);rw [e];refine Cg (λi a b=>?_) g;rw [fO,ij,if_pos f];rw [fM] at a;exact d i b a }
theorem GI.pivot {D:List (List Nat)} (h:GI D c r n G) (b:c<64) (a:r<=p) (d:p<n) (o:G (p*64+c)≠0):GI D (c+1) (r+1) n (IJ G p r c n) where
 byt:=IK h.byt p r c n
 rle:=by omega
 zer:=λi y v j x=>by
  obtain ⟨f,_,e,l⟩:=D9 h.byt b d a o h.zer (show r<i by omega) v;by_cases s:j=c
  . subst s;rw [ij,if_pos b] at l;exact l
  . have g:=congrFun e j;have t:=h.zer (if i=p then r else i) (by split<;>omega) (by split<;>omega) j (by omega);have u:=h.zer p a d j (by omega);rw [ij,if_pos (by omega)] at g;rw [g];show kO (oX G (if i=p then r else i)) j^^^gm f (kO (oX G p) j)=0;generalize (if i=p then r else i)=q at *;have m:j<64:=(by omega);rw [ij,ij,if_pos m,if_pos m,t,u,bk];exact Nat.xor_self 0
 tak:=λk w=>by
  have e:r+1+k=r+(k+1):=by omega
  rw [e];refine h.tak (k+1) ?_;have e:64-c=64-(c+1)+1:=by omega
  rw [e];exact Cw h.byt b d a o h.zer w
theorem GI.done {D:List (List Nat)} (h:GI D 64 r n G):rL D r:=
 h.tak 0 rfl
theorem Fk {D:List (List Nat)} (a:∀ l∈D,∀ x∈l,x<256) (x:Nat):fL D x<256:=by
 unfold fL;by_cases h:x/64<D.length
 . have e:D.getD (x/64) []=D[x/64]:=(by simp [h]);rw [e];exact eA (a _ (To h)) _
 . have e:D.getD (x/64) []=[]:=(by simp [Tv (Nat.not_lt.1 h)]);rw [e];simp
theorem GI.start {D:List (List Nat)} (g:∀ l∈D,∀ x∈l,x<256) (h:ur D):GI D 0 0 D.length (fL D) where
 byt:=Fk g
 rle:=Nat.zero_le _
 zer:=λ_ _ _ j a=>absurd a (Nat.not_lt_zero _)
 tak:=λk c=>by
  rw [Tq];have e:oU (lu (fL D) D.length) 0=oU D 0:=Ff (by rw [fM]) (λi n b=>by
   rw [fO];funext j;rw [ij];have m:D.getD i []=D[i]:=(by simp [b]);by_cases a:j<64
   . rw [if_pos a];have d:(i*64+j)/64=i:=(by omega);have f:(i*64+j)%64=j:=(by omega);unfold fL kO;rw [d,f,m]
   . rw [if_neg a];have:=h.2 i b;unfold kO;simp [Tv (show (D[i]).length<=j by omega)]) 0
  rw [e] at c;exact c
theorem Cx (w:Z3) {ops:Array Oper} {rest:List Oper} {o:Oper} {a:Act} {Q:Exit->Act->Z3->Prop} (h:o.guard=Z5) (x y:Operand) (ho:o.op=.store 136 x y)
 (g:Nat) (f:Nat->Nat) (cs old:Array Z2) (l:a.eval x=Z7 (Z4 ⟨g,0,Z5⟩)) (m:a.eval y=.agg cs) (d:w.heap[g]?=Z4 (.cells old 136 (0,0))) (hold:old.size=4096) (b:cs.size=4096) (c:∀ j,j<4096->cs[j]?=Z4 (tv f j))
 (hK:∀ w2,w2.rowIs g 136 4096 (tv f)->w.grownBy w2 (Z4 g)->wpList Z0 ops Q rest (a.put o.dst undef) w2):wpList Z0 ops Q (o::rest) a w:=by
 refine wpList_store_row h 136 x y ho g cs l m 136 old d (by rw [Tryz.sizeGrid,b]) (by omega) (rQ b c) (hK _ ?_ ?_)
 . exact ⟨cs,setRow_heap w g old cs _ _ d,b,c⟩
 . refine ⟨rfl,rfl,rfl,by simp,λk n i=>?_⟩;have:g≠k:=λe=>i (by rw [e]);simp [World.setRow,Array.getElem?_modify,this]
theorem j1:∀ (a:List Z2) (o:Nat) (w:Z3) (f:Nat->Z2),w.rowIs b t n f->(w.setCells b o a).rowIs b t n (λx=>if o<=x/\x<o+a.length then a.getD (x-o) undef else f x)
 | [],o,w,f,h=>h.congr (λi _=>by rw [if_neg (by simp)])
 | v::a,o,w,f,h=>(j1 a (o+1) _ _ (h.set o v)).congr (λi _=>by
  by_cases c:o+1<=i/\i<o+1+a.length
  . have e:i-o=(i-(o+1))+1:=(by omega);rw [if_pos c,if_pos (by simp;omega),e];simp
  . rw [if_neg c];by_cases d:i=o
    . subst d;rw [if_pos rfl,if_pos (by simp)];simp
    . rw [if_neg d,if_neg (by simp;omega)])
theorem ik:∀ (a:List Z2) (o:Nat) (w w':Z3),w.grownBy w' (Z4 b)->w.grownBy (w'.setCells b o a) (Z4 b)
 | [],_,_,_,h=>h
 | v::a,o,w,_,h=>ik a (o+1) w _ (eX h o v)
def uU (G:Nat->Nat) (i:Nat):List Z2:=(Tm 64).map λj=>tv G (i*64+j)
theorem Sk (G:Nat->Nat) (i:Nat):(uU G i).length=64:=by simp [uU]
theorem zQ (G:Nat->Nat) (i j:Nat) (h:j<64):(uU G i).getD j undef=tv G (i*64+j):=by simp [uU,h]
theorem uV (h:w.rowIs b t 4096 (tv G)) {i:Nat} (d:i<64):w.rangeAt b (i*64) (uU G i):=by
 intro j v a;have c:j<64:=by
  obtain ⟨q,_⟩:=List.getElem?_eq_some_iff.1 a;rwa [Sk] at q
 simp [uU,c] at a;rw [h.cell (by omega),a]
theorem uW {f:Nat->Z2} (h:w.rowIs b t 4096 f) {i n:Nat} (a:i<64) (d:n<=64):w.there b (i*64) n:=λj c=>by
 rw [h.cell (by omega)];exact ⟨rfl,h.frozen _⟩
theorem Ea (G:Nat->Nat) (i:Nat):(uU G i).toArray.all (λv=>v.oneCell')=true:=by
 rw [Array.all_eq_true];intro j a;simp [uU,tv];rfl
theorem Nu (h:w.rowIs b t 4096 (tv G)) (p r:Nat):((w.setCells b (r*64) (uU G p)).setCells b (p*64) (uU G r)).rowIs b t 4096 (tv (zP G p r)):=by
 refine (j1 (uU G r) (p*64) _ _ (j1 (uU G p) (r*64) _ _ h)).congr (λx _=>?_);rw [Sk,Sk];by_cases e:p*64<=x/\x<p*64+64
 . have a:x/64=p:=(by omega);have c:x-p*64=x%64:=(by omega);rw [if_pos e,c,zQ _ _ _ (by omega)];unfold tv zP;rw [a];by_cases d:p=r
   . rw [if_pos d,d]
   . rw [if_neg d,if_pos rfl]
 . rw [if_neg e];by_cases f:r*64<=x/\x<r*64+64
   . have a:x/64=r:=(by omega);have c:x-r*64=x%64:=(by omega);rw [if_pos f,c,zQ _ _ _ (by omega)];unfold tv zP;rw [if_pos a]
   . rw [if_neg f];unfold tv zP;rw [if_neg (by omega),if_neg (by omega)]
def RD (G:Nat->Nat) (r c n:Nat) (rv iv:Z2):Prop:=∃ k:Nat,r<=k/\k<=n/\rv=Z8 Z9 (r:Nat)/\iv=Z8 Z9 (k:Nat)/\∀ i,r<=i->i<k->G (i*64+c)=0
def RE (w:Z3) (b:Nat) (D:List (List Nat)) (rv cv:Z2) (wr:Z3):Prop:=
 ∃ (r c:Nat) (G:Nat->Nat),c<=64/\rv=Z8 Z9 (r:Nat)/\cv=Z8 Z9 (c:Nat)/\GI D c r D.length G/\wr.rowIs b 136 4096 (tv G)/\Z1 w.heap.size w wr
theorem IQ (vd:Z2) (D:List (List Nat)) (w:Z3) (Q:Rd w vd D) (hb:∀ l∈D,∀ x∈l,x<256) :
 Calls Z0 42 #[vd] w λe w'=>Nq D w e w':=by
 have y:=hide Q;have kr:=zM;obtain ⟨ao,c,rfl,hl,hc⟩:=Q;clear hc;by_cases o:ur D
 . have hp:=o.1;have q:=hide o;clear o;go_enter Tryz.func42,Tryz.ntmps42;go_wp2;go_step3;go_wp2_with (first
    | (go_at_call 63;refine (zK _ D _ y.out).mono ?_;rintro e M ⟨f,_,rfl⟩;obtain rfl:=f q.out)
    | (go_at_call 64;refine (Lr _ D _ y.out q.out).mono ?_;rintro e L ⟨cs,rfl,k8,O,j⟩)
    | (refine Cx _ rfl (Z6 3) (Z6 11) rfl L.heap.size (fL D) cs _ rfl rfl (heap_alloc_last L _) (by simp) k8 O ?_;intro wb U X))
   have V:Z1 M.heap.size M wb:=iP (j.alloc j.size _) X (by rw [nblk_alloc];have:=j.size;omega) j.size;have T:=GI.start hb q.out;have kj:=j.size;have R:=hide T;clear O k8 j X kr T;generalize L.heap.size=d at *;go_step3;go_wp2;go_loopw [4,12] (λrv A wr=>RE M d D rv A wr) (λ_ A _=>64-(intOf A).toNat)
   case atStart=>exact ⟨0,0,fL D,by omega,rfl,rfl,R.out,U,V⟩
   case round=>
    clear U V R;rename Z3=>wo;obtain ⟨r,a,G,kk,rfl,rfl,g,P,J⟩:=hrel;have ko:=g.rle;by_cases t:a<64
    . have F:=hide g;have z:=hide P;have E:=hide J;clear g P J;go_wp2;go_loop [4,6] (λrv K=>RD G r a D.length rv K) (λ_ K=>D.length-(intOf K).toNat)
      case atStart=>exact ⟨r,Nat.le_refl _,ko,rfl,rfl,λi f s=>absurd f (by omega)⟩
      case round=>
       obtain ⟨p,kp,ks,rfl,rfl,u⟩:=hrel;by_cases km:p<D.length
       . have h8:wo.cell? ⟨d,p*64+a,Z5⟩=Z4 (Z8 .u8 ((G (p*64+a):Nat):Int)):=z.out.cell (by omega);have kg:=hide u;clear u;by_cases n:G (p*64+a)=0
         . rw [n] at h8;have HX:=hide n;clear n;go_wp2;go_round
           case rel=>
            refine ⟨p+1,by omega,by omega,rfl,by go_num,λi f s=>?_⟩;by_cases e:i=p
            . subst e;exact HX.out
            . exact kg.out i f (by omega)
           case measure=>simp [intOf];omega
         . have t0:(((G (p*64+a):Nat):Int)==0)=false:=(by rw [beq_eq_false_iff_ne];omega);have kb:=hide (F.out.pivot t kp km n);clear n;have I:wo.drew.rowIs d 136 4096 (tv G):=z.out;have Z:zP G p r (r*64+a)=G (p*64+a):=(by rw [Cv G p r r a t,if_pos rfl]);have hj:=hide Z;have ka:=hide (xt F.out.byt p r);have B:p<64:=(by omega);have C:r<64:=(by omega);clear Z;obtain ⟨v,k9,k7,k6⟩:∃ v,(wo.drew.setCells d (r*64) (uU G p)).setCells d (p*64) (uU G r)=v/\v.rowIs d 136 4096 (tv (zP G p r))/\wo.drew.grownBy v (Z4 d):=
            ⟨_,rfl,Nu I p r,ik (b:=d) (uU G r) (p*64) wo.drew _ (ik (b:=d) (uU G p) (r*64) wo.drew wo.drew (World.grownBy.refl _ _))⟩
           have kf:=hide k7;have kc:=hide k6;have S:=hide k9;have m:=hide I;clear k7 k6 k9 I;go_wp2;refine IP d p r (uU G p) (uU G r) (by kernel_rfl) (λ_ _ _ _ _ h=>h) rfl B C rfl rfl rfl (Sk _ _) (Sk _ _) (Ea _ _) (Ea _ _) (uV m.out B) (uV m.out C) (uW m.out C lR) (uW m.out B lR) ?_;rw [S.out];clear S m;unfold IN;generalize (uU G p).toArray=cp;generalize (uU G r).toArray=cr;go_wp2_with (go_at_call 65;refine (zL d r a D.length (zP G p r) _ ka.out kf.out (by omega) t hp).mono ?_;rintro e w2 ⟨rfl,H,Y⟩);have kh:w2.rowIs d 136 4096 (tv (IJ G p r a D.length)):=by
            rw [hj.out] at H;exact H
           have k:=gd kc.out Y;have ki:=iP E.out (w:=wo) ⟨k.os,k.tape,k.output,k.size,k.block⟩ E.out.size kj;clear H Y k;go_wp2;go_roundw
           case rel=>exact ⟨r+1,a+1,IJ G p r a D.length,by omega,by go_num,by go_num,kb.out,kh,ki⟩
           case measure=>simp [intOf];omega
       . have ke:=hide (F.out.skip t (λi f s=>u i f (by omega)));clear u;go_wp2;go_roundw
         case rel=>exact ⟨r,a+1,G,by omega,rfl,by go_num,ke.out,z.out,E.out⟩
         case measure=>simp [intOf];omega
    . have W:a=64:=(by omega);rw [W] at g;have HK:=hide g.done;clear g W;go_wp2;try rw [Exit.noGoto_ret]
      go_ret;exact ⟨λ_=>⟨r,by omega,rfl,HK.out⟩,λh=>absurd q.out h,J⟩
 . have N:=hide o;clear o;go_enter Tryz.func42,Tryz.ntmps42;go_wp2;go_step3;go_wp2_with (go_at_call 63;refine (zK _ D _ y.out).mono ?_;rintro e w' ⟨_,s,rfl⟩;obtain rfl:=s N.out);try rw [Exit.noGoto_ret]
   go_ret;exact ⟨λh=>absurd h N.out,λ_=>rfl,Below.refl _ _⟩
theorem iL.rdH {B:Nat} {T:List (Nat×Nat×List Nat)} (h:iL w B v T) (c:cZ T D M) (m:∀ r∈M,r.length=D) (o:M.length<=100000):Rd w v M:=by
 have a:T.length=M.length:=by simpa using congrArg List.length c
 obtain ⟨f,cap,rfl,j⟩:=h.slice;refine ⟨f,cap,by rw [a],by omega,λn=>?_⟩;obtain ⟨g,rfl⟩:=j (by intro e;rw [e] at a;exact n (Ts a.symm));refine ⟨g,0,rfl,λi d=>?_⟩;have b:i<T.length:=by omega
 refine ⟨lg T[i],by rw [Tq];exact h.cell_at b,?_⟩;have:=h.row_at b;have k:T[i].2=(D,M[i]):=by
  have:=congrArg (λl=>l[i]?) c;simpa [b,d] using this
 rw [k] at this;have e:(M[i]).take D=M[i]:=by rw [<- m _ (To d),List.take_length]
 rw [e] at this;exact this
theorem Rd.byte {D:List (List Nat)} (h:Rd w v D):∀ l∈D,∀ x∈l,x<256:=by
 rcases h.cases with ⟨rfl,_⟩|⟨b,off,c,rfl,_,d⟩
 . intro l a;simp at a
 . intro l a;obtain ⟨i,e,rfl⟩:=List.mem_iff_getElem.1 a;obtain ⟨u,_,f⟩:=d i e;exact f.lt
theorem de (D L G:Nat):(aL D L G).length=D+L+G:=by simp [aL];omega
theorem lZ (D L G:Nat):∀ r∈aL D L G,r.length=D:=by
 intro r a;simp only [aL,Tt,Tn,Tp] at a;rcases a with (⟨i,_,rfl⟩|⟨i,_,rfl⟩)|⟨i,_,rfl⟩
 . simp [dw]
 . simp [dO]
 . simp [cd]
theorem nO (D L G:Nat) (c:D<=12) (d:G<=4):∀ r∈aL D L G,∀ x∈r,x<256:=by
 intro r b x a;simp only [aL,Tt,Tn,Tp] at b;rcases b with (⟨i,_,rfl⟩|⟨i,_,rfl⟩)|⟨i,e,rfl⟩
 . rcases List.mem_or_eq_of_mem_set a with h|h
   . have:=List.eq_of_mem_replicate h;omega
   . omega
 . simp only [dO,Tn] at a;obtain ⟨j,_,rfl⟩:=a;split<;>decide
 . simp only [cd,Tn,Tp] at a;obtain ⟨j,f,rfl⟩:=a;exact cY (jU (by omega) (by omega))
def zR (D L G lost:Nat):Prop:=rM (oU (cB (aL D L G) lost (D+L+G)) 0) 0 D
theorem IR {G lost:Nat} (c:D<=12) (d:G<=4) (h:rL (cB (aL D L G) lost (D+L+G)) k):k=D↔zR D L G lost:=by
 have b:=rO (aL D L G) lost (D+L+G) (by rw [de];omega);exact Fg (λl a=>nO D L G c d l (b l a)) (λl a=>by rw [lZ D L G l (b l a)];omega) (by omega) h
theorem IS (D L G lost:Nat) (b:D<=12) (d:L<=4) (c:G<=4):ur (cB (aL D L G) lost (D+L+G)):=by
 refine ⟨Tr (nK _ _ _) (by omega),λi a=>?_⟩;rw [lZ D L G _ (rO (aL D L G) lost (D+L+G) (by rw [de];omega) _ (To a))];omega
def Nv (D L G lost:Nat) (w:Z3) (e:Ending) (w':Z3):Prop:=∃ b:Bool,e=.returned (.bool b)/\(b=true↔zR D L G lost)/\Z1 w.heap.size w w'
theorem kQ (D L G lost:Nat) (F:cn D L G=true) (h:D<=12) (u:1<=L) (o:L<=4) (i:G<=4) (t:D%L=0) (E:lost<18446744073709551616) (w:Z3) :
 Calls Z0 29 #[.agg #[Z8 Z9 D,Z8 Z9 L,Z8 Z9 G],Z8 .u64 lost] w λe w'=>Nv D L G lost w e w':=by
 go_enter Tryz.func29,Tryz.ntmps29;go_wp2_with fail;refine (jZ D L G F h u o i t _).mono ?_;rintro e w1 ⟨v,T,rfl,j,p,b⟩;rw [nblk_alloc] at j b;have B:=b.size;rw [nblk_alloc] at B;obtain ⟨l,I,J⟩:=fK b;have q:=j.rdH p (lZ D L G) (by rw [de];omega);have n:Z1 w.heap.size w w1:=(bA _ _).trans (b.mono (by omega));have z:=hide q;have y:=hide n;clear j p b I J q n;go_wp2;go_region_held (λw'=>w'.cell? ⟨w.heap.size,0,Z5⟩=Z4 (Z8 Z9 (D:Nat))) (first|assumption|exact l)
  (first
   | (go_at_call 43;refine (Iy _ (aL D L G) lost _ (show Rd w1.drew _ _ from z.out) E (by rw [de];omega)).mono ?_;rintro e w2 ⟨N,rfl,f⟩;rw [de] at f
      have d:w2.cell? ⟨w.heap.size,0,Z5⟩=Z4 (Z8 Z9 (D:Nat)):=(by rw [f.choose_spec.2.2.2.cell (block_lt_of_cell l)];exact l);have g:=hide f;clear f)
   | (go_at_call 42;refine (IQ _ _ _ (g.out.rd (Tr (nK _ _ _) (by omega))) (g.out.rd (Tr (nK _ _ _) (by omega))).byte).mono ?_
      rintro e K ⟨m,_,c⟩;obtain ⟨k,M,rfl,r⟩:=m (IS D L G lost h o i);have H:K.cell? ⟨w.heap.size,0,Z5⟩=Z4 (Z8 Z9 (D:Nat)):=(by rw [c.cell (block_lt_of_cell d)];exact d);have A:=hide r;have x:=hide c;clear m r c))
 go_wp2;go_ret;have a:=g.out.choose_spec.2.2.2;have c:=x.out;have C:=a.size;change w1.heap.size<=_ at C;have s:Z1 w.heap.size w w2:=y.out.trans ((show Z1 w1.heap.size w1 w2 from ⟨a.os,a.tape,a.output,a.size,a.block⟩).mono (by omega));refine ⟨((k:Int)==(D:Int)),rfl,?_,s.trans (c.mono (by omega))⟩;rw [<- IR h i A.out];simp;omega
section
open Go.Shelf
def aK (D L G:Nat) (dl:List Nat):List (List Nat):=dB (aL D L G) (di D dl) 44
theorem gv (D L G:Nat) (dl:List Nat):(aK D L G dl).length=D+L+G:=by unfold aK dB;rw [Tw,de]
theorem F9 (d:dl.length<=D*44) (f:1<=D):Pz (di D dl)/\((di D dl).getD 0 []).length=44:=by
 have a:((di D dl).getD 0 []).length=44:=by
  have e:(di D dl).getD 0 []=(di D dl)[0]'(by rw [dL];omega):=by simp [dL,show 0<D by omega]
  rw [e,oh];exact mb d (by omega)
 refine ⟨λi c=>?_,a⟩;have b:=c;rw [dL] at b;unfold Av;rw [a,oh c,mb d b];exact ⟨rfl,by decide⟩
noncomputable def Rb:Array Oper:=((Tryz.f141.body.bind (mD · 1))).getD #[]
def Qx:List (Op×Option Nat×List Nat):=[(Op.move (Z6 0),Z4 11,[]),
 (Op.nilCheck (Z6 11),Z4 12,[0]),
 (Op.fieldAddr 130 (Z6 12) 1,Z4 13,[1]),
 (Op.load 25 (Z6 13),Z4 14,[2]),
 (Op.move (Z6 0),Z4 15,[]),
 (Op.move (Z6 2),Z4 16,[]),
 (Op.call { callee:=Callee.value (Operand.func 164),args:=#[Z6 15,Z6 16],argTypes:=#[115,34] },Z4 17,[4,5]),
 (Op.call { callee:=Callee.value (Operand.func 163),args:=#[Z6 14,Z6 17],argTypes:=#[25,95] },Z4 18,[3,6,6]),
 (Op.move (Z6 18),Z4 10,[7]),
 (Op.extract (Z6 10) 0,Z4 19,[8]),
 (Op.extract (Z6 10) 1,Z4 20,[8]),
 (Op.assign (Z6 19),Z4 7,[9,7,0,1,2,3,4,5,6,7,8,9]),
 (Op.assign (Z6 20),Z4 8,[10,11,0,1,2,3,4,5,6,7,8,9,10,11])]
theorem Ga:aN Rb 7 21 Qx:=bt (by kernel_rfl) (by kernel_rfl)
def mO (w:Z3) (base:Nat) (M:List (List Nat)) (u:Z2):Prop:=∃ T,iL w base u T/\cZ T 44 M
theorem mO.mono (h:mO w base M u) (c:Z1 w.heap.size w w'):mO w' base M u:=by
 obtain ⟨T,a,b⟩:=h;exact ⟨T,a.below c,b⟩
def OZ (v D L G base:Nat) (vd:Z2) (dl:List Nat) (i:Nat) (u:Z2) (w:Z3):Prop:=match i with
 | 0|1|4=>u=Z7 (Z4 ⟨v,0,Z5⟩)
 | 2=>u=Z7 (Z4 ⟨v,1,Z5⟩)
 | 3=>u=.agg #[Z8 Z9 D,Z8 Z9 L,Z8 Z9 G]
 | 5=>u=vd
 | 6=>Rd w u (di D dl)
 | 7|8=>∃ x,u=.tuple #[x,.nilIface]/\mO w base (aK D L G dl) x
 | 9|11=>mO w base (aK D L G dl) u
 | 10|12=>u=.nilIface
 | _=>True
theorem AH {v G:Nat} {vd:Z2} (a:Z1 w.heap.size w w') (i:Nat) (u:Z2) (h:OZ v D L G base vd dl i u w):OZ v D L G base vd dl i u w':=by
 match i,h with
 | 0,h|1,h|2,h|3,h|4,h|5,h|10,h|12,h=>exact h
 | 6,h=>exact Rd.mono h a
 | 7,⟨x,h1,h2⟩=>exact ⟨x,h1,h2.mono a⟩
 | 8,⟨x,h1,h2⟩=>exact ⟨x,h1,h2.mono a⟩
 | 9,h|11,h=>exact mO.mono h a
 | i+13,_=>trivial
theorem nj {ops:Array Oper} {Q:Exit->Act->Z3->Prop} {a:Act} {v G:Nat} (R:Rb=ops) (A:bq w v p D L G ps ho) (hr:cn D L G=true) (H:1<=D) (C:D<=12) (V:1<=L) (he:L<=4) (S:G<=4) (O:D%L=0)
 (t:Z2) (dl:List Nat) (hd:Bs w t dl) (J:dl.length<=D*44) (hh:a.tmps.size=42) (F:a.eval (Z6 0)=Z7 (Z4 ⟨v,0,Z5⟩)) (M:a.eval (Z6 2)=t)
 (W:∀ (w':Z3) (K:List Z2) (x:Z2),K.length=11->mO w' w.heap.size (aK D L G dl) x->Z1 w.heap.size w w'->Q .normal (Act.putFrom a 7 (x::.nilIface::a.eval (Z6 9)::K)) w'):(Code.region 1 ops true).wp Z0 Q a w:=by
 subst R;obtain ⟨P,Z⟩:=F9 J H;refine cO (by kernel_rfl) Ga a w (by omega) (OZ v D L G w.heap.size t dl) (λ_ w'=>Z1 w.heap.size w w') ((Below.refl _ w).drew) ?_ ?_
 . intro i z;match i,z with
   | 0,_=>exact λo c w' l s ho g k m r h b d=>ab (ag ho ((k.slot 0 (by omega)).trans F) w') g ⟨b,rfl,kq⟩
   | 1,_=>
    intro o c w' l s ho g k m r h b d;have u0:c.eval (Z6 11)=Z7 (Z4 ⟨v,0,Z5⟩):=d 0 (h 0 (by decide));exact ab (dZ ho u0 w') g ⟨b,rfl,kq⟩
   | 2,_=>
    intro o c w' l s ho g k m r h b d;have u0:c.eval (Z6 12)=Z7 (Z4 ⟨v,0,Z5⟩):=d 1 (h 1 (by decide));exact ab (v:=Z7 (Z4 ⟨v,1,Z5⟩)) (by simp only [execOp,show o.op=Op.fieldAddr 130 (Z6 12) 1 from ho,u0];go_simp) g ⟨b,rfl,kq⟩
   | 3,_=>
    intro o c w' l s ho g k m r h b d;have u0:c.eval (Z6 13)=Z7 (Z4 ⟨v,1,Z5⟩):=d 2 (h 2 (by decide));obtain ⟨_,c1,c2,c3,_⟩:=(A.keep (b.block _ A.lt)).cells;exact ab (v:=.agg #[Z8 Z9 D,Z8 Z9 L,Z8 Z9 G]) (by simp only [execOp,show o.op=Op.load 25 (Z6 13) from ho,u0];go_simp) g ⟨b,rfl,kq⟩
   | 4,_=>exact λo c w' l s ho g k m r h b d=>ab (ag ho ((k.slot 0 (by omega)).trans F) w') g ⟨b,rfl,kq⟩
   | 5,_=>exact λo c w' l s ho g k m r h b d=>ab (ag ho ((k.slot 2 (by omega)).trans M) w') g ⟨b,rfl,kq⟩
   | 6,_=>
    intro o c w' l s ho g k m r h b d;have u0:c.eval (Z6 15)=Z7 (Z4 ⟨v,0,Z5⟩):=d 4 (h 4 (by decide));have u1:c.eval (Z6 16)=t:=d 5 (h 5 (by decide));refine dz (f:=164) (args:=#[Z7 (Z4 ⟨v,0,Z5⟩),t]) (w1:=w') (by simp only [execOp,show o.op=Op.call { callee:=Callee.value (Operand.func 164),args:=#[Z6 15,Z6 16],argTypes:=#[115,34] } from ho];go_simp;exact ⟨by simpa [Act.eval] using u0,by simpa [Act.eval] using u1⟩) g (NI (A.keep (b.block _ A.lt)) C t dl (hd.mono b) J) ?_;rintro e E ⟨u,rfl,X,y⟩;exact ⟨u,rfl,b.trans (y.mono b.size),X,λj u _ q=>AH y j u q⟩
   | 7,_=>
    intro o c w' l s ho g k m r h b d;have u0:c.eval (Z6 14)=.agg #[Z8 Z9 D,Z8 Z9 L,Z8 Z9 G]:=d 3 (h 3 (by decide));have u1:Rd w' (c.eval (Z6 17)) (di D dl):=d 6 (h 6 (by decide));have I:=Da D L G hr H C V he S O (c.eval (Z6 17)) (di D dl) w' u1 (dL D dl) P;rw [Z] at I;refine dz (f:=163) (args:=#[.agg #[Z8 Z9 D,Z8 Z9 L,Z8 Z9 G],c.eval (Z6 17)]) (w1:=w') (by simp only [execOp,show o.op=Op.call { callee:=Callee.value (Operand.func 163),args:=#[Z6 14,Z6 17],argTypes:=#[25,95] } from ho];go_simp;simpa [Act.eval] using u0) g I ?_;rintro e E ⟨x,T,rfl,Y,U,y⟩;exact ⟨_,rfl,b.trans (y.mono b.size),⟨x,rfl,T,Y.weaken b.size,U⟩,λj u _ q=>AH y j u q⟩
   | 8,_=>
    intro o c w' l s ho g k m r h b d;obtain ⟨x,u0,B⟩:OZ v D L G w.heap.size t dl 7 (c.eval (Z6 18)) w':=d 7 (h 7 (by decide));exact ab (ag ho u0 w') g ⟨b,⟨x,rfl,B⟩,kq⟩
   | 9,_=>
    intro o c w' l s ho g k m r h b d;obtain ⟨x,u0,B⟩:OZ v D L G w.heap.size t dl 8 (c.eval (Z6 10)) w':=d 8 (h 8 (by decide));exact ab (v:=x) (by simp only [execOp,show o.op=Op.extract (Z6 10) 0 from ho,u0];go_simp) g ⟨b,B,kq⟩
   | 10,_=>
    intro o c w' l s ho g k m r h b d;obtain ⟨x,u0,B⟩:OZ v D L G w.heap.size t dl 8 (c.eval (Z6 10)) w':=d 8 (h 8 (by decide));exact ab (v:=.nilIface) (by simp only [execOp,show o.op=Op.extract (Z6 10) 1 from ho,u0];go_simp) g ⟨b,rfl,kq⟩
   | 11,_=>
    intro o c w' l s ho g k m r h b d;have u0:mO w' w.heap.size (aK D L G dl) (c.eval (Z6 19)):=d 9 (h 9 (by decide));exact ab (v:=c.eval (Z6 19)) (by simp [execOp,show o.op=Op.assign (Z6 19) from ho]) g ⟨b,u0,kq⟩
   | 12,_=>
    intro o c w' l s ho g k m r h b d;have u0:c.eval (Z6 20)=.nilIface:=d 10 (h 10 (by decide));exact ab (v:=.nilIface) (by simp [execOp,show o.op=Op.assign (Z6 20) from ho,u0]) g ⟨b,rfl,kq⟩
   | n+13,hn=>exact absurd hn (by show ¬ n+13<13;omega)
 . rintro c w' hf N ⟨l,C,b⟩ d;have e:c=Act.putFrom a 7 (c.eval (Z6 7)::.nilIface::a.eval (Z6 9)::(Tm 11).map λi=>c.eval (.tmp (10+i))):=hf.out _ (by simp) (by omega) (λi z=>by
    simp at z;match i,z with
    | 0,_=>rfl
    | 1,_=>exact d 12 (by decide)
    | 2,_=>exact N 9 (by decide)
    | i+3,z=>
     rw [Tu,Tu,Tu,List.getD_eq_getElem?_getD,List.getElem?_map,List.getElem?_range (by omega),show 7+(i+3)=10+i by omega];rfl)
   rw [e];exact W w' _ _ (by rw [Tw,List.length_range]) (d 11 (by decide)) b
theorem ja {G:Nat} (c:D<=12) (d:G<=4) (dl:List Nat) (i:Nat) (a:i<(aK D L G dl).length):((aK D L G dl)[i]).length=44/\∀ x∈(aK D L G dl)[i],x<256:=by
 have b:i<(aL D L G).length:=by rw [de];rw [gv] at a;exact a
 have e:(aK D L G dl)[i]=cL (aL D L G)[i] (di D dl) 44 (di D dl).length:=by simp [aK,dB]
 rw [e];exact ⟨fR _ _ _ _,pt _ _ (nO D L G c d _ (To b)) _ _⟩
theorem mO.rows (h:mO w base M u) (v:M≠[]) (r:∀ i (d:i<M.length),M[i].length=44/\∀ x∈M[i],x<256):∃ g c,u=.slice (Z4 ⟨g,0,Z5⟩) M.length c/\K7 w base g M:=by
 obtain ⟨T,l,k⟩:=h;have f:T.length=M.length:=by simpa using congrArg List.length k
 rcases l.shape with ⟨_,q⟩|⟨g,cap,m,n,D,E,o,p,_,_⟩
 . exact absurd (Ts (by rw [<- f,q];rfl)) v
 . refine ⟨g,cap,by rw [m,f],n,o,λi d=>?_⟩;have a:i<T.length:=(by omega);have s:=k.at a d;obtain ⟨A,e,F,G,H⟩:=l.row T[i] (To a);have b:=p i a;unfold lg at b;rw [s] at b e;obtain ⟨B,C⟩:=r i d;refine ⟨T[i].1,0,M[i].length,b,A,e.lt,λj u z=>?_,B,C⟩;have y:=e.heapB;have t:(aH M[i]).toArray[j]?=Z4 u:=(by simpa using z);simp [World.cell?,y,t]
theorem Oa {vs:List Z2} (h:vs.length=11):∃ a b c d e f g i j k l,vs=[a,b,c,d,e,f,g,i,j,k,l]:=by
 match vs,h with
 | [a,b,c,d,e,f,g,i,j,k,l],_=>exact ⟨a,b,c,d,e,f,g,i,j,k,l,rfl⟩
def iH (A:aB) (D L G:Nat):Prop:=bS A (Tm A.n)≠0->zR D L G (bS A (Tm A.n))
theorem iH.here {A:aB} (h:∀ i,A.lost i=false) (D L G:Nat):iH A D L G:=λq=>absurd (pC λi _=>h i) q
theorem iH.congr {A B:aB} {G:Nat} (h:iH A D L G) (b:B.n=A.n) (a:B.lost=A.lost):iH B D L G:=by
 have e:bS B (Tm B.n)=bS A (Tm A.n):=by unfold bS;rw [b,a]
 unfold iH;rw [e];exact h
theorem kW {v G:Nat} {A:aB} (K:m6 w v p D L G ps ho A F) (hF:jI F p A.n v) (hf:A.fit) (hn:A.n=D+L+G) (hr:cn D L G=true) (hz:1<=D) (u:D<=12) (hL:1<=L) (I:L<=4) (y:G<=4) (Z:D%L=0) (H:D+L+G<=16)
 (b:Nat) (hb:b<A.nb) (hw:A.wait<0) (U:iH A D L G) (V:Z2) (dl:List Nat) (P:Bs w V dl) (k6:dl.length<=D*44) :
 Calls Z0 141 #[Z7 (Z4 ⟨v,0,Z5⟩),Z8 Z9 b,V] w λe w'=>e=.returned .nilIface/\aq w' p (A.putAt (Tm A.n) b (λi=>(aW.shard ((aK D L G dl).getD i [])).blk)) F/\aa (F.has p A.n) w w':=by
 have HD:=hide P;have a:=gv D L G dl;have E:=ja (L:=L) u y dl;obtain ⟨M,J⟩:=nM (aK D L G dl);rw [J] at a E;have h:=hide2 J a;clear J a;go_enter Tryz.func141,Tryz.ntmps141;go_wp2_with fail;refine nj (by kernel_rfl) K.vol hr hz u hL I y Z V dl HD.out k6 rfl rfl rfl ?_;intro w1 vs x hx N R;rw [h.out.1] at N;have a:=h.out.2;obtain ⟨x0,x1,x2,x3,x4,x5,x6,x7,x8,x9,xa,rfl⟩:=Oa hx;obtain ⟨g,c,rfl,hm⟩:=N.rows (λe=>by rw [e] at a;simp at a;omega) E;have hp:=K.below R lR;have f:=hide3 hp hm R;clear N hm hp R hx E a;rename_i hK
 refine hK _ _ ?_;clear hK;simp only [Act.putFrom,Act.put,List.setIfInBounds_toArray,List.set_cons_succ,List.set_cons_zero];go_wp2_with fail;refine (m7 f.out.1.vol u I y H).mono ?_;rintro e w2 ⟨rfl,j⟩;obtain ⟨S,z⟩:=nM (2^(D+L+G)-1);rw [z];have s:ae S=Tm A.n:=by rw [<- z,hn];exact nY H
 have k0:S<65536:=by
  have:2^(D+L+G)<=2^16:=Nat.pow_le_pow_right (by decide) H;omega
 have Q:=f.out.1.below j lR;have hj:K7 w2 w.heap.size g M:=f.out.2.1.keep j.size (λk _ T=>j.block k T);have t:=qN Q hF hf b S hb k0 (λi o=>by rw [s] at o;simpa using o) hw (m:=M.length) (c:=c) hj (λi o=>by have:=h.out.2;rw [s] at o;simp at o;omega) lR (λk T=>K.arr.has_lt T);rw [s] at t;have k7:bS A (Tm A.n)<65536:=oE A _ (λd P=>by have:=Tp.1 P;omega);obtain ⟨B,h5⟩:=nM (bS A (Tm A.n));unfold iH at U;rw [h5] at t U k7;have q:=hide4 t j z Q;clear Q hj t j s z h5;go_wp2_with fail;refine q.out.1.mono ?_;rintro e w3 ⟨rfl,hh,O⟩;have hO:aa (F.has p A.n) w w3:=(aa.of_all (f.out.2.2.trans (q.out.2.1.mono f.out.2.2.size)) _).trans O;have hq:=q.out.2.2.2.vol.keep (O.block _ q.out.2.2.2.vol.lt hF.v);obtain ⟨_,c1,X,Y,_⟩:=hq.cells;have r:=hide2 hh hO;clear hh O hO hq;by_cases C:B=0
 . subst C;clear c1 X Y;go_wp2;go_ret;have l:=r.out.1;rw [<- h.out.1] at l;exact ⟨rfl,l,r.out.2⟩
 . have hy:¬ (B:Int)=0:=(by omega);have k9:((B:Int) != 0)=true:=(by simpa using hy);have hv:=kQ D L G B hr u hL I y Z (by omega) w3;have k8:=U C;clear C;go_wp2_with fail;refine hv.mono ?_;rintro e w4 ⟨bb,rfl,k5,hs⟩;obtain rfl:bb=true:=k5.2 k8;have W:=hide hs;clear hs hv c1 X Y;go_wp2;go_ret;have l:=r.out.1;rw [<- h.out.1] at l;exact ⟨rfl,l.below W.out lR,r.out.2.trans (aa.of_all W.out _)⟩
end
section
open Go.Shelf
def fx (D:Nat) (P l:List Nat) (k:Nat):List Nat:=be (P.getD (k+1) 0) 4++(l.drop (k*(D*44-4))).take (D*44-4)
def aB.pagesTo (A:aB) (D L G:Nat) (P l:List Nat):Nat->aB
 | 0=>A
 | k+1=>(aB.pagesTo A D L G P l k).putAt (Tm A.n) (P.getD k 0) (λi=>(aW.shard ((aK D L G (fx D P l k)).getD i [])).blk)
theorem gX (A:aB) (D L G:Nat) (P l:List Nat):∀ k,(A.pagesTo D L G P l k).n=A.n/\(A.pagesTo D L G P l k).nb=A.nb/\(A.pagesTo D L G P l k).wait=A.wait/\(A.pagesTo D L G P l k).lost=A.lost
 | 0=>⟨rfl,rfl,rfl,rfl⟩
 | k+1=>gX A D L G P l k
theorem gw {A:aB} (h:A.fit) {D L G:Nat} (c:D<=12) (d:G<=4) (g:A.n=D+L+G) (P l:List Nat):∀ k,(A.pagesTo D L G P l k).fit
 | 0=>h
 | k+1=>(gw h c d g P l k).putAt _ _ _ λi f=>by
  rw [Tp,g] at f;have a:i<(aK D L G (fx D P l k)).length:=by rw [gv];exact f
  have e:(aK D L G (fx D P l k)).getD i []=(aK D L G (fx D P l k))[i]:=by simp [a]
  have b:(aW.shard ((aK D L G (fx D P l k)).getD i [])).ok:=by rw [e];exact ja c d _ i a
  exact ⟨ez b,jg b⟩
theorem vS (a:1<=D) (P l:List Nat) (k:Nat):(fx D P l k).length<=D*44:=by
 unfold fx;rw [List.length_append,bT,Tx];omega
theorem JT (b:∀ x∈l,x<256) (P:List Nat) (k:Nat):∀ x∈fx D P l k,x<256:=by
 intro x a;unfold fx at a;rw [Tt] at a;rcases a with a|a
 . exact rA _ _ x a
 . exact b x (List.mem_of_mem_drop (List.mem_of_mem_take a))
theorem AI {e:TypeId} {size:Nat} {xs:List Z2} (h:w.ownsRow base e size v n xs) (f:aa S w w') (i:∀ k,S k->k<base):w'.ownsRow base e size v n xs:=by
 refine ⟨h.1,?_⟩;rcases h.2 with d|⟨g,cap,cur,b,c,a,r⟩
 . exact .inl d
 . exact .inr ⟨g,cap,cur,b,c,(f.block g (Array.getElem?_eq_some_iff.1 a).1 (λq=>by have:=i g q;omega)).trans a,r⟩
theorem eM.of_outside (h:aa S w w'):eM (λk=>¬ S k) w w':=⟨h.size,λk a b=>h.block k a b⟩
theorem rj {K:Nat->Prop} (h:bK K w v l) (e:l≠[]):∃ b off c,v=.slice (Z4 ⟨b,off,Z5⟩) l.length c/\∀ i (g:i<l.length),w.cell? ⟨b,off+i,Z5⟩=Z4 (Z8 Z9 ((l[i]:Nat):Int)):=by
 obtain ⟨f,c,rfl,_,a⟩:=h;obtain ⟨b,off,rfl,_,_,d⟩:=a e;exact ⟨b,off,c,rfl,d⟩
theorem Tryz.infoByteP:(Z0.info? 5).map (λi=>(i.zero,i.size,i.bytes))=Z4 (Z4 (Z8 .u8 0),1,1):=by kernel_rfl
theorem sU {ar v G D' L' G' f nn:Nat} {pg ob:Z2} {off:Bool} {A:aB} (I:bJ w ar v D' L' G' t f nn pg ob off) (N:m6 w v p D L G ps ho A F) (hF:jI F p A.n v) (qm:¬ F.has p A.n ar) (hf:A.fit) (hn:A.n=D+L+G) (hr:cn D L G=true) (kc:1<=D) (hD:D<=12) (hL:1<=L) (qh:L<=4) (hG:G<=4) (kh:D%L=0) (qe:D+L+G<=16)
 (hw:A.wait<0) (k8:iH A D L G) (g cap base:Nat) (l:List Nat) (Y:w.ownsRow base 5 1 (.slice (Z4 ⟨g,0,Z5⟩) l.length cap) l.length (aH l)) (qq:∀ x∈l,x<256) (x4:l.length<=1000000) (k6:∀ k,F.has p A.n k->k<base)
 (vp:Z2) (P:List Nat) (M:bK (λk=>¬ F.has p A.n k) w vp P) (kr:∀ x∈P,x<A.nb) (qj:∀ k,k<P.length->k*(D*44-4)<=l.length) :
 Calls Z0 121 #[Z7 (Z4 ⟨ar,0,Z5⟩),.slice (Z4 ⟨g,0,Z5⟩) l.length cap,vp] w λe w'=>e=.returned .nilIface/\aq w' p (A.pagesTo D L G P l P.length) F/\aa (F.has p A.n) w w':=by
 obtain ⟨i0,kz,qa,qb,qc⟩:=info_parts Tryz.infoByteP;obtain ⟨pa,pc,rfl,kp,_⟩:=id M;have kk:=og I N.vol kc (by omega);obtain ⟨c,km⟩:=nM (D*44-4);have x1:40<=c/\c<=524:=by omega
 rw [km] at kk;have x5:=hf.nb;have H0:=hide4 I N Y M;clear I N Y M;go_enter Tryz.func121,Tryz.ntmps121;go_wp2_with fail;refine kk.mono ?_;rintro e w1 ⟨rfl,rfl⟩;clear kk;go_wp2;go_loopw [17] (λi wr=>∃ k:Nat,i=Z8 Z9 (k:Nat)/\k<=P.length/\aq wr p (A.pagesTo D L G P l k) F/\aa (F.has p A.n) w1 wr) (λi _=>P.length-(intOf i).toNat)
 case atStart=>exact ⟨0,rfl,Nat.zero_le _,H0.out.2.1.arr,aa.refl _ _⟩
 case round=>
  obtain ⟨k,rfl,hk,k0,C⟩:=hrel;by_cases Q:k<P.length
  . obtain ⟨I,N,Y,M⟩:=H0.out;have kv:=M.keep (eM.of_outside C);obtain ⟨b,bo,c',e1,kg⟩:=rj kv (λe=>by rw [e] at Q;simp at Q);simp only [Value.slice.injEq] at e1;obtain ⟨rfl,_,rfl⟩:=e1;have c1:=kg k Q;obtain ⟨y,hy⟩:=nM (P[k]);rw [hy] at c1;have ko:y<A.nb:=(by rw [<- hy];exact kr _ (To Q));obtain ⟨B,R⟩:=nM (P.getD (k+1) 0);have ki:(k+1<P.length/\wr.cell? ⟨b,bo+(k+1),Z5⟩=Z4 (Z8 Z9 (B:Nat)))\/(¬ k+1<P.length/\B=0):=by
     by_cases m:k+1<P.length
     . have:=kg (k+1) m;have e:P.getD (k+1) 0=P[k+1]:=(by simp [m]);rw [<- e,R] at this;exact .inl ⟨m,this⟩
     . exact .inr ⟨m,by rw [<- R];simp [show P.length<=k+1 by omega]⟩
    have qz:B<1000001:=by
     rcases Nat.lt_or_ge (k+1) P.length with m|m
     . have e:P.getD (k+1) 0=P[k+1]:=(by simp [m]);rw [<- R,e];have:=kr _ (To m);omega
     . rw [<- R];simp [m]
    have q0:=gX A D L G P l k;have kx:m6 wr v p D L G ps ho (A.pagesTo D L G P l k) F:=N.turn hF C k0;have hh:=AI Y C k6;have kf:=I.keep (C.block _ I.lt qm);obtain ⟨ca,_⟩:=kf.cells;have d:=hide8 k0 C kx hh q0 kf R hy;clear k0 C kx hh q0 kf R hy kg kv I N Y M;have kj:=qj k Q;rw [km] at kj;have qn:l.length<=cap:=by
     rcases d.out.2.2.2.1.2 with ⟨e,_⟩|⟨g',hb,cur,e,_,_,hc,_⟩
     . cases e
     . simp only [Value.slice.injEq] at e;omega
    have he:(k+1)*c=k*c+c:=Nat.succ_mul k c;have qs:(k:Int)*(c:Int)=((k*c:Nat):Int):=(by rw [Ty]);have qv:((k:Int)+1)*(c:Int)=(((k+1)*c:Nat):Int):=(by rw [Ty];rfl);obtain ⟨a,ke⟩:=nM (k*c);obtain ⟨r,hq⟩:=nM ((k+1)*c);rw [ke] at qs he kj;rw [hq] at qv he;obtain ⟨bb,ky⟩:=nM (min r l.length);have x2:a<=bb:=(by omega);have x3:bb<=cap:=(by omega);have E:bb-a<=524:=(by omega);have hp:((l.drop a).take c).length=bb-a:=(by rw [Tx,List.length_drop];omega);have qx:∀ T ty w,(Builtin.min_ T ty #[Z8 Z9 (r:Nat),Z8 Z9 (l.length:Nat)]).run Z0 w=.ok (Z8 Z9 (bb:Nat)) w:=λT ty w=>by
     rw [iR];by_cases m:((l.length:Nat):Int)<((r:Nat):Int)
     . rw [if_pos m,show bb=l.length by omega]
     . rw [if_neg m,show bb=r by omega]
    have hj:∀ W:Z3,W.ownsRow base 5 1 (.slice (Z4 ⟨g,0,Z5⟩) l.length cap) l.length (aH l)->Src Z0 1 34 (.slice (if cap=a then Z4 ⟨g,0,Z5⟩ else Z4 ⟨g,a,Z5⟩) (bb-a) (cap-a)) (bb-a) (aH ((l.drop a).take c)) W:=λW hW=>by
     have x0:W.rangeAt g 0 (aH l):=λj u h=>by have:=hW.cells (g:=g) rfl j u h;rw [mw] at this;rw [Tq];exact this
     by_cases O:cap=a
     . have h0:(l.drop a).take c=[]:=Ts (by omega);rw [if_pos O,h0,show bb-a=0 by omega];exact Src.ofSlice W Tryz.underlying34 ⟨g,0,Z5⟩ 0 (cap-a) (aH []) rfl (λj u h=>by simp [aH] at h) (λu h=>by simp [aH] at h)
     . rw [if_neg O];have q9:=mW c (fI a x0);rw [Tq] at q9;exact Src.ofSlice W Tryz.underlying34 ⟨g,a,Z5⟩ (bb-a) (cap-a) _ (by rw [bm,hp,Nat.mul_one]) (λj u h=>by rw [Addr.add_mid];exact q9 j u h) (λu h=>by unfold aH at h;rw [Tn] at h;obtain ⟨x,_,rfl⟩:=h;rfl)
    have hi:∀ (W:Z3) (u:Z2),W.ownsRow wr.heap.size 5 1 u (0+4+(bb-a)) ([]++aH (be B 4)++aH ((l.drop a).take c))->Bs W u (fx D P l k):=λW u h=>by
     have e:[]++aH (be B 4)++aH ((l.drop a).take c)=aH (fx D P l k):=by
      unfold fx;rw [km,ke,d.out.2.2.2.2.2.2.1,bU,List.nil_append]
     rw [e] at h;exact Bs.of_owns h (JT qq P k) (Tr (vS kc P l k) (by omega))
    have h8:∀ (W:Z3) (u:Z2),Z1 wr.heap.size wr W->Bs W u (fx D P l k)->Calls Z0 141 #[Z7 (Z4 ⟨v,0,Z5⟩),Z8 Z9 (y:Nat),u] W λe w'=>e=.returned .nilIface/\aq w' p (A.pagesTo D L G P l (k+1)) F/\aa (F.has p A.n) w1 w':=λW u hW h=>by
     obtain ⟨q1,q2,q3,q4,J,q6,q7,q8⟩:=d.out;have qk:=q3.below hW lR;have qg:jI F p (A.pagesTo D L G P l k).n v:=(by rw [J.1];exact hF);have hc:=kW qk qg (gw hf hD hG hn P l k) (by rw [J.1];exact hn) hr kc hD hL qh hG kh qe y (by rw [J.2.1];exact ko) (by rw [J.2.2.1];exact hw) (k8.congr J.1 J.2.2.2) u (fx D P l k) h (vS kc P l k);rw [J.1] at hc;refine hc.mono ?_;rintro e w' ⟨rfl,qf,qi⟩;refine ⟨rfl,?_,q2.trans ((aa.of_all hW _).trans qi)⟩;have ey:P.getD k 0=y:=(by rw [<- q8];simp [Q]);show aq w' p ((A.pagesTo D L G P l k).putAt (Tm A.n) (P.getD k 0) (λi=>(aW.shard ((aK D L G (fx D P l k)).getD i [])).blk)) F;rw [ey];exact qf
    have kb:=hide2 hi h8;clear hi h8;have HK:=hide6 ke hq ky hp kj he;have x6:IntKind.u64.wrap (B:Int)=(B:Int):=(by rw [IntKind.wrap_u64];omega);have qp:a<=1000000/\r<=1000524/\bb<=1000000:=(by omega);clear ke hq ky hp he;rcases ki with ⟨m,c2⟩|⟨m,qy⟩
    . have qd:(k:Int)+1<((P.length:Nat):Int):=(by omega);go_wp2_with fail;refine (eR wr.heap.size (.slice Z5 0 0) 0 [] B 4 wr (World.ownsRow_nil _ _ _ _) lR (by decide) (by decide)).mono ?_;rintro e w2 ⟨v2,rfl,k9,q,X⟩;have z:Z1 wr.heap.size wr w2:=⟨q.os,q.tape,q.output,q.size,λk hk=>q.block k hk (λe=>by simp [Value.ownBlock] at e)⟩;have H:=aA d.out.2.2.2.1 z;have U:=d.out.2.2.2.2.2.1.keep (z.block _ d.out.2.2.2.2.2.1.lt);obtain ⟨cb,_⟩:=U.cells;have Z:Src Z0 1 34 (.slice (if cap=a then Z4 ⟨g,0,Z5⟩ else Z4 ⟨g,a,Z5⟩) (bb-a) (cap-a)) (bb-a) (aH ((l.drop a).take c)) w2:=hj w2 H;have o:=hide5 k9 z Z H X;clear k9 q z Z H X U;go_wp2_with (
       at_builtin;
       refine af _ rfl (Z6 35) (Z6 47) 34 34 rfl wr.heap.size 5 i0 (Z8 .u8 0) 1 1 Tryz.underlying34 kz qa qb qc rfl v2 (0+4) ([]++aH (be B 4)) (by rfl) (by exact o.out.1) _ (by rfl) (bb-a) (aH ((l.drop a).take c)) (by exact o.out.2.2.1) (by unfold maxLen;omega) (by omega) (by exact o.out.2.1.size) ?_;
       intro v3 K ka k7 hm;
       have E:Z1 wr.heap.size wr K:=o.out.2.1.grown k7 o.out.2.1.size (λk e=>(o.out.1.lt k e).1);
       have V:=d.out.2.2.2.2.2.1.keep (E.block _ d.out.2.2.2.2.2.1.lt);
       obtain ⟨cc,_⟩:=V.cells;
       have S:=hide2 ka E;
       clear ka E k7 hm V)
      all_goals
       refine (kb.out.2 K v3 S.out.2 (kb.out.1 K v3 S.out.1)).mono ?_;rintro e w4 ⟨rfl,hz,k5⟩;have s:=hide2 hz k5;clear hz k5;go_wp2;first
        | exact ⟨⟨k+1,by go_num,by omega,s.out.1,s.out.2⟩,by simp only [intOf];omega⟩
        | (have O:cap=a:=by assumption
           subst O;go_roundw
           case rel=>exact ⟨k+1,by go_num,by omega,s.out.1,s.out.2⟩
           case measure=>
            show P.length-((k:Int)+1).toNat<P.length-((k:Nat):Int).toNat;omega)
    . have qd:¬ (k:Int)+1<((P.length:Nat):Int):=(by omega);subst qy;go_wp2_with fail;refine (eR wr.heap.size (.slice Z5 0 0) 0 [] 0 4 wr (World.ownsRow_nil _ _ _ _) lR (by decide) (by decide)).mono ?_;rintro e w2 ⟨v2,rfl,k9,q,X⟩;have z:Z1 wr.heap.size wr w2:=⟨q.os,q.tape,q.output,q.size,λk hk=>q.block k hk (λe=>by simp [Value.ownBlock] at e)⟩;have H:=aA d.out.2.2.2.1 z;have U:=d.out.2.2.2.2.2.1.keep (z.block _ d.out.2.2.2.2.2.1.lt);obtain ⟨cb,_⟩:=U.cells;have Z:Src Z0 1 34 (.slice (if cap=a then Z4 ⟨g,0,Z5⟩ else Z4 ⟨g,a,Z5⟩) (bb-a) (cap-a)) (bb-a) (aH ((l.drop a).take c)) w2:=hj w2 H;have o:=hide5 k9 z Z H X;clear k9 q z Z H X U;go_wp2_with (
       at_builtin;
       refine af _ rfl (Z6 35) (Z6 47) 34 34 rfl wr.heap.size 5 i0 (Z8 .u8 0) 1 1 Tryz.underlying34 kz qa qb qc rfl v2 (0+4) ([]++aH (be 0 4)) (by rfl) (by exact o.out.1) _ (by rfl) (bb-a) (aH ((l.drop a).take c)) (by exact o.out.2.2.1) (by unfold maxLen;omega) (by omega) (by exact o.out.2.1.size) ?_;
       intro v3 K ka k7 hm;
       have E:Z1 wr.heap.size wr K:=o.out.2.1.grown k7 o.out.2.1.size (λk e=>(o.out.1.lt k e).1);
       have V:=d.out.2.2.2.2.2.1.keep (E.block _ d.out.2.2.2.2.2.1.lt);
       obtain ⟨cc,_⟩:=V.cells;
       have S:=hide2 ka E;
       clear ka E k7 hm V)
      all_goals
       refine (kb.out.2 K v3 S.out.2 (kb.out.1 K v3 S.out.1)).mono ?_;rintro e w4 ⟨rfl,hz,k5⟩;have s:=hide2 hz k5;clear hz k5;go_wp2;first
        | exact ⟨⟨k+1,by go_num,by omega,s.out.1,s.out.2⟩,by simp only [intOf];omega⟩
        | (have O:cap=a:=by assumption
           subst O;go_roundw
           case rel=>exact ⟨k+1,by go_num,by omega,s.out.1,s.out.2⟩
           case measure=>
            show P.length-((k:Int)+1).toNat<P.length-((k:Nat):Int).toNat;omega)
  . have qo:k=P.length:=(by omega);subst qo;have d:=hide2 k0 C;clear k0 C;go_wp2;go_ret;exact ⟨rfl,d.out.1,d.out.2⟩
end
end Go.Proofs.YtfbmmcnpjhmjaaaGreatDoor
