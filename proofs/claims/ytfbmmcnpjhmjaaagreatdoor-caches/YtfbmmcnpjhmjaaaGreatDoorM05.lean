import Derived.Test.YtfbmmcnpjhmjaaaGreatDoorM04
import Derived.Deep.CutRange
import Derived.Sort.QuietIn
import Derived.Sort.QuietTacIn
import Derived.Deep.AppendLies
import Derived.Deep.RegionHeld3
import Derived.Lib.LaidTab
import Derived.Carry
set_option maxRecDepth 100000
set_option linter.defProp false
set_option maxHeartbeats 8000000
open Go.IntKind renaming i64 -> Z9, u64 -> Z8
open Go.Value renaming int -> Z7, pointer -> Z6, slice -> Z5, bool -> Z2, tuple -> Z0
open Go.Obj renaming cells -> Z4
open Go.Ending renaming returned -> Z3
open Go.Operand renaming tmp -> Z1
open Go renaming undef -> ZZ, World -> ZU, Value -> ZT, Calls -> ZS, Ending -> ZR, TypeId -> ZQ, Boxed -> ZP
open Option renaming none -> ZY, some -> ZX
open Bool renaming true -> ZW, false -> ZV
open List renaming range -> XG, mem_map -> XH, mem_range -> XM, length_map -> XN, size_toArray -> XO, mem_append -> XP, nil_append -> XQ, cons_append -> XR, length_cons -> XS, length_nil -> XT, push_toArray -> XY, append_toArray -> XZ, getElem_mem -> X0, mem_filter -> X1, range_succ -> X2, eq_nil_of_length_eq_zero -> X3, map_append -> X5, getElem?_eq_getElem -> X6, mem_cons_of_mem -> X7, mem_cons_self -> X8, nodup_range -> X9, getElem?_append_left -> Yb, getD_eq_getElem?_getD -> Yc, getElem?_eq_none -> Yd, nodup_append -> Ye, countP_append -> Yg, getElem?_eq_some_iff -> Yl, take_length -> Yn, replicate -> Yo, take_of_length_le -> Yp, prefix_append -> Yq, prefix_refl -> Yr, length_append -> Ys, mem_iff_getElem -> Yu, getElem?_append -> Yw, range_add -> Yx, countP_map -> Yy, length_range -> Yz, countP_eq_length_filter -> YA, getElem_append_left -> YC, getElem_append_right -> YD, getElem?_append_right -> YE, eq_of_mem_replicate -> YG, ext_getElem -> YH, take_prefix -> YI, take_add_one -> YJ, foldl_append -> YK, foldl_cons -> YL, getElem?_map -> YM, setIfInBounds_toArray -> YN, set_cons_succ -> YO, set_cons_zero -> YP, mem_of_mem_take -> YQ
open Nat renaming le_trans -> XI, le_refl -> XJ, zero_le -> XL, reduceAdd -> XU, reduceSub -> XV, zero_add -> Ya, lt_of_lt_of_le -> Yf, xor_self -> Yh, add_assoc -> Yi, mod_two_eq_zero_or_one -> Yj, not_lt -> Ym, div_le_self -> YB
open Array renaming getElem?_eq_some_iff -> XK, replicate_succ -> XW, replicate_zero -> XX, replicate -> X4, getElem?_eq_getElem -> Yk, all_eq_true -> YF
open Option.some renaming inj -> Yt
open Go.Proofs.Tryz renaming prog -> ZO
open Go.Proofs.Tryz
namespace Go.Proofs.YtfbmmcnpjhmjaaaGreatDoor
open Gf Go.RowKit Go.Deep Go.Shelf
variable {a:Act} {A:ay} {ops:Array Oper} {off:Bool} {R:ZR->ZU->Prop} {Q:Exit->Act->ZU->Prop} {F:bh} {O:List (Int×Nat×Nat×List Nat)} {K M:List (List Nat)} {T:List (Nat×Nat×List Nat)} {l:List Nat} {xs vs:List ZT} {v G b t n f N p r c i m k D B L base g ps ho D' L' G' nb ar nn b0 q count d S size:Nat} {o:Oper} {P:Program} {e:ZQ} {u pg ob:ZT} {X:ZT->Prop} {w0 w w' W:ZU}
def cj (M:List (List Nat)) (lost k:Nat):List (List Nat):=((XG k).filter (λi=>decide (lost/2^i%2=0))).map (λi=>M.getD i [])
def MD (M:List (List Nat)) (lost k:Nat) (h:lost/2^k%2=0):cj M lost (k+1)=cj M lost k++[M.getD k []]:=by
 simp [cj,X2,h]
def JV (M:List (List Nat)) (lost k:Nat) (h:lost/2^k%2≠0):cj M lost (k+1)=cj M lost k:=by
 simp [cj,X2,h]
def tg (M:List (List Nat)) (lost k:Nat) (c:k<=M.length):∀ l∈cj M lost k,l∈M:=by
 intro l a;simp [cj] at a;obtain ⟨i,⟨b,_⟩,rfl⟩:=a;rw [X6 (by omega)];exact X0 _
def oN (M:List (List Nat)) (lost k:Nat):(cj M lost k).length<=k:=by
 unfold cj;rw [XN];exact XI (List.length_filter_le _ _) (by simp)
theorem ME (T:List (List Nat)) (v:Nat->Nat):oe T 0 v↔∃ l∈T,v=lh l:=by
 constructor
 . rintro ⟨i,a,_,rfl⟩;exact ⟨_,X0 a,rfl⟩
 . rintro ⟨l,b,rfl⟩;obtain ⟨i,a,rfl⟩:=Yu.1 b;exact ⟨i,a,XL _,rfl⟩
theorem oO (M:List (List Nat)) (lost k:Nat) (v:Nat->Nat):oe (cj M lost k) 0 v↔∃ i,i<k/\lost/2^i%2=0/\v=lh (M.getD i []):=by
 rw [ME];constructor
 . rintro ⟨l,c,rfl⟩;simp only [cj,XH,X1,XM,decide_eq_true_eq] at c;obtain ⟨i,⟨b,a⟩,rfl⟩:=c;exact ⟨i,b,a,rfl⟩
 . rintro ⟨i,b,a,rfl⟩;refine ⟨_,?_,rfl⟩;simp only [cj,XH,X1,XM,decide_eq_true_eq];exact ⟨i,⟨b,a⟩,rfl⟩
def cnt (lost n:Nat):Nat:=(XG n).countP (λi=>decide (lost/2^i%2=1))
def JW (lost n:Nat):cnt lost (n+1)=cnt lost n+(if lost/2^n%2=1 then 1 else 0):=by
 simp [cnt,X2,Yg,List.countP_cons]
theorem JX (D i:Nat) (a:i<D):lh (dK D i)=dt i:=by
 funext j;unfold lh dK dt;by_cases e:j=i
 . subst e;simp [a]
 . rw [if_neg e];simp [Ne.symm e,List.getElem?_replicate];split<;>rfl
def DA (D i j:Nat):lh (cF D i) j=if j<D then gi ((D+i)^^^j) else 0:=by
 unfold lh cF;by_cases h:j<D
 . simp [h]
 . simp [h]
def JY (D L G i:Nat) (a:i<D):(aO D L G).getD i []=dK D i:=by
 simp [aO,Yw,a]
def DB (D L G i:Nat) (d:i<G):(aO D L G).getD (D+L+i) []=cF D i:=by
 have a:¬ D+L+i<D:=by omega
 have b:¬ D+L+i-D<L:=by omega
 have c:D+L+i-D-L=i:=by omega
 simp [aO,Yw,a,b,c,d]
theorem DC {R:(Nat->Nat)->Prop} (d:∀ r,R r->bq r) {v:Nat->Nat} (c:aM R v):∀ K:List Nat,(∀ k∈K,aM R (dt k))->aM R (λj=>if j∈K then 0 else v j)
 | [],_=>by simpa using c
 | k::K,h=>by
  by_cases i:k∈K
  . have e:(λj=>if j∈k::K then 0 else v j)=λj=>if j∈K then 0 else v j:=by
     funext j;by_cases a:j=k
     . subst a;simp [i]
     . simp [a]
    rw [e];exact DC d c K (λj f=>h j (X7 _ f))
  . have g:=c.byte k;have t:=aM.add d (DC d c K (λj f=>h j (X7 _ f))) g (h k X8);have e:cH (λj=>if j∈K then 0 else v j) (v k) (dt k)=λj=>if j∈k::K then 0 else v j:=by
     funext j;show (if j∈K then 0 else v j)^^^gm (v k) (if j=k then 1 else 0)=_;by_cases a:j=k
     . subst a;rw [if_neg i,if_pos rfl,cD _ g,Yh,if_pos X8]
     . rw [if_neg a,bm,Nat.xor_zero];by_cases b:j∈K
       . rw [if_pos b,if_pos (X7 _ b)]
       . rw [if_neg b,if_neg (by simp [a,b])]
    rwa [e] at t
theorem JZ (D L G lost:Nat) (y:D<=12) (z:G<=4) (m:∀ r,oe (cj (aO D L G) lost (D+L+G)) 0 r->bq r) (A:cnt lost (D+L+G)<=G) :
 mP (oe (cj (aO D L G) lost (D+L+G)) 0) 0 D:=by
 have kd:∀ j,j<D->lost/2^j%2=0->aM (oe (cj (aO D L G) lost (D+L+G)) 0) (dt j):=by
  intro j f d;have o:oe (cj (aO D L G) lost (D+L+G)) 0 (dt j):=(oO _ _ _ _).2 ⟨j,by omega,d,by rw [JY D L G j f,JX D j f]⟩;exact aM.mem (j9 j) o
 have w:cnt lost (D+L+G)=cnt lost D+((XG L).countP (λi=>decide (lost/2^(D+i)%2=1))+(XG G).countP (λi=>decide (lost/2^(D+L+i)%2=1))):=by
  unfold cnt;rw [Yx,Yg,Yx,Yg,Yy,Yy,Yi];rfl
 have s:=List.length_eq_countP_add_countP (λi=>decide (lost/2^(D+L+i)%2=1)) (l:=XG G);rw [Yz] at s;have u:(XG G).countP (λi=>decide ¬ (decide (lost/2^(D+L+i)%2=1))=ZW)=((XG G).filter (λi=>decide (lost/2^(D+L+i)%2=0))).length:=by
  rw [<- YA];congr 1;funext i;have:=Yj (lost/2^(D+L+i));rcases this with h|h<;>simp [h]
 have v:cnt lost D=((XG D).filter (λi=>decide (lost/2^i%2=1))).length:=by rw [cnt,YA]
 refine mP.Vz m λj f=>?_;rcases Yj (lost/2^j) with d|d
 . exact kd j f d
 . refine I5 _ m ((XG D).filter (λi=>decide (lost/2^i%2=1))) (((XG G).filter (λi=>decide (lost/2^(D+L+i)%2=0))).map (λi=>D+i)) (λ_=>1)
    (X9.filter _) ?_ ?_ ?_ ?_ ?_ j (by simp [f,d])
   . exact List.Pairwise.map _ (λa b h=>by omega) (X9.filter _)
   . rw [XN,<- v,<- u];omega
   . intro i n;simp at n;exact ⟨by omega,by decide,by decide⟩
   . intro x g;simp at g;obtain ⟨i,⟨n,_⟩,rfl⟩:=g;refine ⟨by omega,λk c=>?_⟩;simp at c;omega
   . intro x g;simp only [XH,X1,XM,decide_eq_true_eq] at g;obtain ⟨i,⟨n,q⟩,rfl⟩:=g;have o:oe (cj (aO D L G) lost (D+L+G)) 0 (lh (cF D i)):=(oO _ _ _ _).2 ⟨D+L+i,by omega,q,by rw [DB D L G i n]⟩;have t:=DC m (aM.mem (m _ o) o) ((XG D).filter (λi=>decide (lost/2^i%2=0))) (λk c=>by
      simp only [X1,XM,decide_eq_true_eq] at c;exact kd k c.1 c.2)
     have e:(λj=>if j∈(XG D).filter (λi=>decide (lost/2^i%2=0)) then 0 else lh (cF D i) j)=jt ((XG D).filter (λi=>decide (lost/2^i%2=1))) (λ_=>1) (D+i):=by
      funext k;unfold jt;rw [DA];simp only [X1,XM,decide_eq_true_eq];by_cases c:k<D
      . rcases Yj (lost/2^k) with p|p
        . rw [if_pos ⟨c,p⟩,if_neg (by omega)]
        . rw [if_neg (by omega),if_pos c,if_pos ⟨c,p⟩];have:=dh (a:=(D+i)^^^k) (j8 (by omega) (by omega));rw [bK (a:=1) (by decide) this,cD _ this]
      . rw [if_neg (by omega),if_neg c,if_neg (by omega)]
     rwa [e] at t
def Gw (M:List (List Nat)) (lost less k D:Nat) (d:∀ i,i<k->lost/2^i%2=0->less/2^i%2=0) (h:mP (oe (cj M lost k) 0) 0 D):mP (oe (cj M less k) 0) 0 D:=
 h.mono λr c=>by
  obtain ⟨i,a,b,e⟩:=(oO _ _ _ _).1 c;exact (oO _ _ _ _).2 ⟨i,a,d i a b,e⟩
def Fb (lost k:Nat) (a:lost<18446744073709551616):bits .and .u64 ((lost:Int)/2^k) 1=((lost/2^k%2:Nat):Int):=by
 have c:(lost:Int)/2^k=((lost/2^k:Nat):Int):=by simp
 have h:lost/2^k<18446744073709551616:=Nat.lt_of_le_of_lt (YB _ _) a;have e:=u64_and_nat (lost/2^k) 1 h (by decide);rw [Qm] at e;rw [c];exact e
def Rl (w0 w:ZU) (v:ZT) (K:List (List Nat)):Prop:=
 ∃ xs:List ZT,xs.length=K.length/\(∀ i (h:i<xs.length) (h':i<K.length),Bs w0 xs[i] K[i])/\w.ownsRow w0.heap.size 34 1 v xs.length xs/\bW w0 w
def Rl.nil (w:ZU):Rl w w (Z5 ZY 0 0) []:=⟨[],rfl,λi h=>absurd h (by simp),World.ownsRow_nil _ _ _ _,Below.refl _ _⟩
def Rl.rd {v:ZT} (h:Rl w0 w v K) (s:K.length<=100000):Rd w v K:=by
 obtain ⟨xs,e,f,b,j⟩:=h;rcases b.2 with ⟨d,r⟩|⟨g,cap,cur,a,l,m,n,o,p,q⟩
 . have:K=[]:=X3 (by omega);subst this;exact ⟨ZY,0,d,by simp,λh=>absurd rfl h⟩
 . refine ⟨ZX ⟨g,0,ZY⟩,cap,by rw [a,e],by omega,λ_=>⟨g,0,rfl,λi k=>?_⟩⟩;have c:i<xs.length:=(by omega);have:=b.cells (g:=g) (by rw [a];rfl) i xs[i] (by simp [c]);rw [mN] at this;exact ⟨xs[i],by rw [Ya];exact this,(f i c k).mono j⟩
def Rl.push {w1 w2:ZU} {v v':ZT} {o:Obj} (b:xs.length=K.length) (j:∀ i (h:i<xs.length) (d:i<K.length),Bs w0 xs[i] K[i])
 (g:w.ownsRow w0.heap.size 34 1 v xs.length xs) (a:bW w0 w) (q:w1=w.alloc o) (p:Bs w0 u l)
 (m:w1.grownBy w2 v.ownBlock) (f:w2.ownsRow w0.heap.size 34 1 v' (xs.length+1) (xs++[u])):Rl w0 w2 v' (K++[l]):=by
 subst q;refine ⟨xs++[u],by simp [b],λi h d=>?_,by simpa using f,(a.alloc a.size o).grown m (by rw [nblk_alloc];have:=a.size;omega) λk n=>(g.lt k n).1⟩;by_cases c:i<xs.length
 . rw [YC c,YC (by omega)];exact j i c (by omega)
 . have e:i=xs.length:=(by simp at h;omega);subst e;rw [YD lR,YD (by omega)];simpa [b] using p
def Bs.one (h:Bs w u l):u.oneCell'=ZW:=by
 obtain ⟨ao,c,rfl,_⟩:=h;rfl
def Td (w:ZU) (M:List (List Nat)) (lost:Nat) (v i:ZT) (wr:ZU):Prop:=∃ k:Nat,k<=M.length/\i=Z7 Z9 k/\Rl w wr v (cj M lost k)
theorem J0 (D:ZT) (M:List (List Nat)) (lost:Nat) (w:ZU) (z:Rd w D M) (Q:lost<18446744073709551616) (Z:M.length<=64) :
 ZS ZO 43 #[D,Z7 Z8 lost] w λe w'=>∃ v,e=Z3 v/\Rl w w' v (cj M lost M.length):=by
 obtain ⟨V,O,S,T,U⟩:=info_parts Tryz.Uc;rcases z.cases with ⟨rfl,ao,c,rfl⟩|⟨b,off,c,rfl,_,f⟩
 . go_enter func43,ntmps43;go_wp2;refine wp_loop_rounds 1 ?_;rw [rounds_succ];go_wp2;go_ret;exact ⟨_,rfl,Rl.nil _⟩
 . clear z;go_enter func43,ntmps43;go_wp2;go_loopw [5,10] (λv i wr=>Td w M lost v i wr) (λ_ i _=>M.length-(intOf i).toNat)
   case atStart=>exact ⟨0,XL _,rfl,Rl.nil _⟩
   case round=>
    rename ZU=>wo;obtain ⟨k,Y,rfl,a⟩:=hrel;by_cases B:k<M.length
    . obtain ⟨u,g,m⟩:=f k B;have R:wo.cell? ⟨b,off+k,ZY⟩=ZX u:=(by rw [a.choose_spec.2.2.2.cell (block_lt_of_cell g)];exact g);obtain ⟨H,I,rfl,_⟩:=id m;have s:=Fb lost k Q;have E:=hide (oN M lost k);have W:=hide f;have n:=hide m;have X:=hide g;have t:M.getD k []=M[k]:=(by simp [B]);have J:=hide t;clear f m g t;by_cases d:lost/2^k%2=0
      . rw [d] at s;have K:=hide (MD M lost k d);clear d;obtain ⟨xs,h,A,j,l⟩:=a;have G:=hide A;have N:=hide h;have hx:xs.length<=64:=(by rw [h];exact XI E.out (by omega));have hs:=l.size;clear A h;go_wp2_with (at_builtin;refine wpList_append_own _ rfl (Z1 20) (Z1 22) 95 rfl w.heap.size 34 V (Z5 ZY 0 0) 1 24 underlying95 O S T U rfl (by decide) _ xs.length xs rfl (aB j (bA _ _)) ⟨wo.heap.size,0,ZY⟩ 1 1 [.slice H (M[k]).length I] rfl rfl (Mk _ _ rfl _ _) (by intro q C;simp at C;rw [C];exact n.out.one) (by unfold maxLen;omega) (by omega) (by rw [nblk_alloc];omega) ?_;intro v' w2 r o P);have x:=Rl.push N.out G.out j l rfl n.out o r;rw [<- J.out,<- K.out] at x;clear j r o P l R;go_wp2;go_roundw
        case rel=>exact ⟨k+1,by omega,by go_num,x⟩
        case measure=>simp [intOf];omega
      . have p:lost/2^k%2=1:=(by omega);rw [p] at s;have L:=hide (JV M lost k d);clear d p;have F:=hide a;clear a;go_wp2;go_roundw
        case rel=>exact ⟨k+1,by omega,by go_num,by rw [L.out];exact F.out⟩
        case measure=>simp [intOf];omega
    . have y:k=M.length:=(by omega);rw [y] at a;clear f y;go_wp2;go_ret;exact ⟨_,rfl,a⟩
def vz (D:List (List Nat)):Prop:=D.length<=64/\∀ i (hi:i<D.length),(D[i]).length<=64
def O2 (D:List (List Nat)) (w:ZU) (e:ZR) (w':ZU):Prop:=(vz D->∃ k:Nat,k<=64/\e=Z3 (Z7 Z9 k)/\sB D k)/\(¬ vz D->e=Z3 (Z7 Z9 (-1)))/\bW w w'
def O6 (D:List (List Nat)) (w:ZU) (e:ZR) (w':ZU):Prop:=(vz D->e=Z3 (Z2 ZW))/\(¬ vz D->e=Z3 (Z2 ZV))/\w'=w
def Th (D:List (List Nat)) (i:ZT):Prop:=∃ k:Nat,k<=D.length/\i=Z7 Z9 (k:Nat)/\∀ j (hj:j<D.length),j<k->(D[j]).length<=64
theorem AX (s:ZT) (D:List (List Nat)) (w:ZU) (m:Rd w s D) :
 ZS ZO 63 #[s] w λe w'=>O6 D w e w':=by
 by_cases F:64<D.length
 . obtain ⟨ao,c,rfl,A,_⟩:=m;go_enter func63,ntmps63;go_wp2;go_ret;exact ⟨λh=>absurd h.1 (by omega),λ_=>rfl,rfl⟩
 rcases m.cases with ⟨rfl,ao,c,rfl⟩|⟨b,off,c,rfl,A,l⟩
 . go_enter func63,ntmps63;go_wp2;refine wp_loop_rounds 1 ?_;rw [rounds_succ];go_wp2;go_ret;exact ⟨λ_=>rfl,λh=>absurd ⟨by simp,λi d=>by simp at d⟩ h,rfl⟩
 have t:=hide l;clear l;go_enter func63,ntmps63;go_wp2;go_loop [10] (λi=>Th D i) (λi=>D.length-(intOf i).toNat)
 case atStart=>exact ⟨0,XL _,rfl,λj _ h=>absurd h (by omega)⟩
 case round=>
  obtain ⟨k,I,rfl,a⟩:=hrel;by_cases g:k<D.length
  . obtain ⟨u,J,z⟩:=t.out k g;obtain ⟨E,C,rfl,o,p,q,r⟩:=z;by_cases f:(D[k]).length<=64
    . have y:Hid (∀ j (n:j<D.length),j<k+1->(D[j]).length<=64):=by
       intro j n G;by_cases e:j=k
       . subst e;exact f
       . exact a j n (by omega)
      clear a o p q r;generalize (D[k]).length=B at *;go_wp2;go_round
      case rel=>exact ⟨k+1,by omega,by go_num,y.out⟩
      case measure=>simp [intOf];omega
    . have x:Hid (¬ vz D):=λh=>f (h.2 k g);have H:(D[k]).length<=140737488355328:=(by omega);clear a o p q r;generalize (D[k]).length=B at *;go_wp2;go_ret;exact ⟨λh=>absurd h x.out,λ_=>rfl,rfl⟩
  . have v:Hid (vz D):=⟨by omega,λi d=>a i d (by omega)⟩;clear a;go_wp2;go_ret;exact ⟨λ_=>rfl,λh=>absurd v.out h,rfl⟩
def wk (G:Nat->Nat) (top c iv k x:Nat):Nat:=if top<x/64/\x/64<k/\c<=x%64 then G x^^^gm (gm (G (x/64*64+c)) iv) (G (top*64+x%64)) else G x
theorem J7 (G:Nat->Nat) (top c a:Nat):wk G top c a (top+1)=G:=by
 funext x;unfold wk;rw [if_neg (by omega)]
theorem N5 {G:Nat->Nat} (h:∀ x,G x<256) {iv:Nat} (top c k x:Nat):wk G top c iv k x<256:=by
 unfold wk;split
 . exact j8 (h x) (aV _ (aV _ (h _)))
 . exact h x
def O7 (G:Nat->Nat) (top c a k j:Nat) (b:j<64):wk G top c a k (top*64+j)=G (top*64+j):=by
 unfold wk;rw [if_neg (by omega)]
def MG (G:Nat->Nat) (top c a k j:Nat) (b:j<64):wk G top c a k (k*64+j)=G (k*64+j):=by
 unfold wk;rw [if_neg (by omega)]
theorem MH (G:Nat->Nat) (top c a k:Nat) (g:top<k) (f:c<64):gQ (wk G top c a k) (λi=>G (top*64+c+i)) (gm (G (k*64+c)) a) (k*64+c) (64-c)=wk G top c a (k+1):=by
 funext x;unfold gQ;by_cases h:k*64+c<=x/\x<k*64+c+(64-c)
 . have d:x/64=k:=(by omega);have e:top*64+c+(x-(k*64+c))=top*64+x%64:=(by omega);rw [if_pos h];unfold wk;rw [if_neg (by omega),if_pos (by omega),d];show _^^^gm _ (G (top*64+c+(x-(k*64+c))))=_;rw [e]
 . rw [if_neg h];unfold wk;by_cases b:top<x/64/\x/64<k/\c<=x%64
   . rw [if_pos b,if_pos (by omega)]
   . rw [if_neg b,if_neg (by omega)]
theorem tq (w:ZU) (b o c:Nat) (g:c<64):(Instr.sliceAt 134 (Z6 (ZX ⟨b,o,ZY⟩)) (ZX (Z7 Z9 (c:Int))) ZY ZY).run ZO w=.ok (Z5 (ZX ⟨b,o+c,ZY⟩) (64-c) (64-c)) w:=by
 have a:ZO.arrayLen 134=64:=by kernel_rfl
 have f:ZO.underlying 134=ZX (.array (ZO.arrayLen 134) (ZO.elem 134)):=by kernel_rfl
 have e:∀ w,(sizeOf (ZO.elem 134)).run ZO w=.ok 1 w:=by
  have d:ZO.elem 134=5:=by kernel_rfl
  rw [d];intro w;go_simp
 rw [run_sliceAt_array_l w 134 _ f .i64 (c:Int) (by omega) (by rw [a];omega),e,a];simp [slicedAt,Result.andThen];rw [if_neg (by omega)];simp [Addr.add]
def Ti (w:ZU) (b t top c iv n:Nat) (G:Nat->Nat) (i:ZT) (wr:ZU):Prop:=
 ∃ k:Nat,top<k/\k<=max n (top+1)/\i=Z7 Z9 (k:Nat)/\wr.rowIs b t 4096 (tv (wk G top c iv k))/\w.grownBy wr (ZX b)
theorem AY (b top c n:Nat) (G:Nat->Nat) (w:ZU) (f:∀ x,G x<256) (h:w.rowIs b 136 4096 (tv G)) (O:top<64) (g:c<64) (L:n<=64) :
 ZS ZO 65 #[Z6 (ZX ⟨b,0,ZY⟩),Z7 Z9 top,Z7 Z9 c,Z7 Z9 n] w λe w'=>e=Z3 (Z0 #[])/\w'.rowIs b 136 4096 (tv (wk G top c (gi (G (top*64+c))) (max n (top+1))))/\w.grownBy w' (ZX b):=by
 have E:w.cell? ⟨b,top*64+c,ZY⟩=ZX (Z7 .u8 ((G (top*64+c):Nat):Int)):=h.cell (by omega);have z:=f (top*64+c);generalize hv:G (top*64+c)=y at *;go_enter func65,ntmps65;go_wp2_with (go_at_call 90;refine (rT y z _).mono ?_;rintro e l ⟨rfl,rfl⟩);have t:l.rowIs b 136 4096 (tv (wk G top c (gi y) (top+1))):=by rw [J7];exact h
 go_loopw [9] (λi wr=>Ti l b 136 top c (gi y) n G i wr) (λi _=>n-(intOf i).toNat)
 case atStart=>exact ⟨top+1,by omega,by omega,by go_num,t,World.grownBy.refl _ _⟩
 case round=>
  clear t h E;rename ZU=>wo;obtain ⟨k,J,M,rfl,d,p⟩:=hrel;by_cases N:k<n
  . have F:wo.cell? ⟨b,k*64+c,ZY⟩=ZX (Z7 .u8 ((wk G top c (gi y) k (k*64+c):Nat):Int)):=d.cell (by omega);rw [MG _ _ _ _ _ _ g] at F;have v:=f (k*64+c);have o:∀ i,i<64-c->wo.cell? ⟨b,top*64+c+i,ZY⟩=ZX (Z7 .u8 ((G (top*64+c+i):Nat):Int)):=by
     intro i K;have m:wo.cell? ⟨b,top*64+c+i,ZY⟩=ZX (Z7 .u8 ((wk G top c (gi y) k (top*64+c+i):Nat):Int)):=d.cell (by omega);rw [Yi,O7 _ _ _ _ _ _ (by omega),<- Yi] at m;exact m
    have u:=MH G top c (gi y) k J g;have H:gm (G (k*64+c)) (gi y)<256:=aV _ v;have C:=hide o;have D:=hide u;clear o u;generalize G (k*64+c)=x at *;have A:=λw=>tq w b (k*64) c g;have B:=λw=>tq w b (top*64) c g;go_wp2;go_region_with (first
     | (go_at_call 92;refine (mn x (gi y) v (dh z) _).mono ?_;rintro e w' ⟨rfl,rfl⟩)
     | (go_at_call 91;refine (jy b 136 4096 (k*64+c) (64-c) (64-c) b (top*64+c) (64-c) (gm x (gi y)) (wk G top c (gi y) k) (λi=>G (top*64+c+i)) _ H (by exact d) (N5 f top c k) (λj=>f _) (by omega) (by omega) (by exact C.out) (.inr (.inl (by omega)))).mono ?_;rintro e w' ⟨rfl,r,a⟩))
    all_goals
     have s:=r;rw [D.out] at s;have I:l.grownBy w' (ZX b):=gu p ⟨a.os,a.tape,a.output,a.size,a.block⟩;clear r a A B;go_wp2;go_roundw
     case rel=>exact ⟨k+1,by omega,by omega,by go_num,s,I⟩
     case measure=>simp [intOf];omega
  . have q:k=max n (top+1):=(by omega);rw [q] at d;clear q;go_wp2;go_end0
    exact ⟨rfl,d,p⟩
def fV (D:List (List Nat)) (x:Nat):Nat:=(D.getD (x/64) []).getD (x%64) 0
def lL (D:List (List Nat)) (k x:Nat):Nat:=if x/64<k then fV D x else 0
def Tryz.U5:(ZO.info? 136).map (λi=>(i.zero,i.size,i.bytes))=ZX (ZX (.agg (X4 4096 (Z7 .u8 0))),4096,4096):=by kernel_rfl
def Tryz.Uy:(ZO.info? 136).map (λi=>i.size)=ZX 4096:=by kernel_rfl
def AZ (w:ZU):(zeroValue 136).run ZO w=.ok (.agg (X4 4096 (Z7 .u8 0))) w:=by
 obtain ⟨c,a,b,_,_⟩:=info_parts Tryz.U5;simp [zeroValue,typeInfo,Sem.run_bind,a,b]
def A0 (w:ZU):(w.alloc (Z4 (X4 4096 (Z7 .u8 0)) 136)).rowIs w.heap.size 136 4096 (λ_=>Z7 .u8 0):=by
 have h:=World.rowIs_alloc w (X4 4096 (Z7 .u8 0)) 136 (λ_=>Z7 .u8 0) (λi a=>by simp at a;simp [a]);simpa using h
theorem J8 {f:Nat->ZT} (h:w.rowIs b t n f):w.heap[b]?=ZX (Z4 ((XG n).map f).toArray t (0,0)):=by
 obtain ⟨c,d,g,e⟩:=h;have:c=((XG n).map f).toArray:=by
  apply Array.ext
  . simp [g]
  . intro i a j;have:=e i (by omega);rw [Yk a] at this;simp at this;simp [this]
 rw [<- this];exact d
theorem DG {rest:List Oper} (C:o.guard=ZY) (d s:Operand)
 (ho:o.op=.call { callee:=.builtin .copy,args:=#[d,s],argTypes:=#[34,34] }) (g off n cap N t:Nat) (v:ZT) (hd:a.eval d=Z5 (ZX ⟨g,off,ZY⟩) n cap) (hs:a.eval s=v)
 (F:Nat->Nat) (src:List Nat) (hB:w.rowIs g t N (tv F)) (hS:Bs w v src) (h8:src.length<=n) (hn:off+n<=N)
 (h:∀ w',w'.rowIs g t N (tv (λx=>if off<=x/\x<off+src.length then src.getD (x-off) 0 else F x))->Below g w w'->wpList ZO ops Q rest (a.put o.dst (goInt src.length)) w'):wpList ZO ops Q (o::rest) a w:=by
 obtain ⟨ao,c,rfl,K,L,M,A⟩:=hS;refine wpList_copy_splice C d s 34 34 ho 5 underlying34 (by kernel_rfl) (ZX ⟨g,off,ZY⟩) ao n cap src.length c hd hs g off _ t (J8 hB) (src.map (λx=>Value.int .u8 ((x:Nat):Int))) ?_ ?_ ?_ ?_ g w (Below.refl _ _) lR ?_
 . rw [XN];show src.length=min src.length n;omega
 . intro l;rw [XN] at l;obtain ⟨b,off,rfl,E⟩:=A (by intro e;rw [e] at l;simp at l);refine ⟨rfl,_,rfl,λj u k=>?_⟩;have f:j<src.length:=by
    have:=Yl.1 k;obtain ⟨q,_⟩:=this;simpa using q
   rw [Addr.add_mid,E j f];simp [f] at k;simp [f,k]
 . simp;omega
 . intro u G;obtain ⟨x,_,rfl⟩:=XH.1 G;rfl
 . intro w' D B;have H:=D.out;rw [XN];refine h w' ⟨_,H,?_,λi m=>?_⟩ B
   . rw [XO,length_splice _ _ _ (by simp;omega)];simp
   . unfold splice;rw [List.getElem?_toArray];by_cases p:i<off
     . rw [Yb (by simp;omega)];have I:¬ (off<=i/\i<off+src.length):=(by omega);simp only [tv,if_neg I];simp [p,m,tv]
     . rw [YE (by simp;omega)];have y:(((XG N).map (tv F)).take off).length=off:=(by simp;omega);rw [y];by_cases r:i<off+src.length
       . rw [Yb (by simp;omega)];have J:i-off<src.length:=(by omega);simp [J,tv,r,Ym.1 p]
       . rw [YE (by simp;omega)];simp only [XN];rw [List.getElem?_drop];have z:off+src.length+(i-off-src.length)=i:=(by omega);rw [z];simp [m,tv,r]
def Tj (w:ZU) (B:Nat) (D:List (List Nat)) (i:ZT) (wr:ZU):Prop:=
 ∃ k:Nat,k<=D.length/\i=Z7 Z9 (k:Nat)/\wr.rowIs (B+1) 136 4096 (tv (lL D k))/\wr.rowIs B 136 4096 (λ_=>Z7 .u8 0)/\Below B w wr
theorem A3 (D:List (List Nat)) (k:Nat) (f:k<D.length) (g:(D[k]).length<=64):(λx=>if k*64<=x/\x<k*64+(D[k]).length then (D[k]).getD (x-k*64) 0 else lL D k x)=lL D (k+1):=by
 have b:D.getD k []=D[k]:=by simp [f]
 funext x;unfold lL fV;by_cases h:k*64<=x/\x<k*64+(D[k]).length
 . rw [if_pos h,if_pos (by omega)];have c:x/64=k:=(by omega);have d:x%64=x-k*64:=(by omega);rw [c,b,d]
 . rw [if_neg h];by_cases a:x/64<k
   . rw [if_pos a,if_pos (by omega)]
   . rw [if_neg a];by_cases e:x/64=k
     . rw [if_pos (by omega),e,b,Yc,Yd (by omega)];rfl
     . rw [if_neg (by omega)]
def DH (D:List (List Nat)) (x:Nat):lL D D.length x=fV D x:=by
 unfold lL;by_cases h:x/64<D.length
 . rw [if_pos h]
 . rw [if_neg h];unfold fV;simp [Yd (Ym.1 h)]
def ts {cs:Array ZT} {f:Nat->Nat} (b:cs.size=N) (h:∀ j,j<N->cs[j]?=ZX (tv f j)):cs.all (λv=>v.oneCell')=ZW:=by
 rw [YF];intro i a;have:=h i (by omega);rw [Yk a] at this;simp at this;rw [this];rfl
theorem MI (K:ZT) (D:List (List Nat)) (w:ZU) (G:Rd w K D) (q:vz D) :
 ZS ZO 64 #[K] w λe w'=>∃ cs:Array ZT,e=Z3 (.agg cs)/\cs.size=4096/\(∀ j,j<4096->cs[j]?=ZX (tv (fV D) j))/\bW w w':=by
 have M:=hide q;have Y:=q.1;have U:=G;obtain ⟨ao,c,rfl,X,F⟩:=G;have s:=hide F;clear F q U;have V:=AZ;go_enter func64,ntmps64;go_wp2;clear V;go_loopw [8] (λi wr=>Tj w w.heap.size D i wr) (λi _=>D.length-(intOf i).toNat)
 case atStart=>
  refine ⟨0,XL _,rfl,?_,?_,?_⟩
  . have h:=A0 (w.alloc (Z4 (X4 4096 (Z7 .u8 0)) 136));try change Below _ _ _ at h
    rw [nblk_alloc] at h;exact h.congr λj Q=>by unfold tv lL;simp
  . exact (A0 w).alloc _
  . exact (bA _ _).alloc (by rw [nblk_alloc];omega) _
 case round=>
  rename ZU=>wo;obtain ⟨k,W,rfl,f,C,m⟩:=hrel;by_cases a:k<D.length
  . obtain ⟨b,off,rfl,z⟩:=s.out (by intro e;rw [e] at a;simp at a);obtain ⟨u,r,x⟩:=z k a;have S:=x.mono m;have E:=M.out.2 k a;have H:=A3 D k a E;have Z:wo.cell? ⟨b,off+k,ZY⟩=ZX u:=(by rw [m.cell (block_lt_of_cell r)];exact r);have R:=hide H;clear z H r x s;generalize D[k]=l at *;go_wp2_with (refine DG rfl (Z1 15) (Z1 16) rfl (w.heap.size+1) (k*64) 64 64 4096 136 u rfl rfl (lL D k) l f S E (by omega) ?_;intro w2 d y);rw [R.out] at d;have T:=World.rowIs.of_block C (y.block w.heap.size (by omega));go_wp2;go_roundw
    case rel=>exact ⟨k+1,by omega,by go_num,d,T,m.trans (y.mono (by omega))⟩
    case measure=>simp [intOf];omega
  . have B:k=D.length:=(by omega);rw [B] at f;clear B;have d:=f.congr (g:=tv (fV D)) (λj Q=>by unfold tv;rw [DH]);obtain ⟨cs,A,p,o⟩:=d;obtain ⟨L,I,hx,_⟩:=C;have O:=ts p o;have N:=hide o;have J:(ZO.info? 136).map (λi=>i.size)=ZX cs.size:=(by rw [Tryz.Uy,p]);have n:=hide J;have P:=hide A;have t:=hide I;clear o f J A I;go_wp2_with (first
     | refine wpList_load_row rfl 136 (Z1 3) rfl (w.heap.size+1) rfl 136 cs (0,0) _ P.out underlying136 rfl n.out ?_
     | refine wpList_store_row rfl 136 (Z1 2) (Z1 19) rfl w.heap.size cs rfl rfl 136 L t.out n.out (by omega) O ?_)
    exact bodyPost_ret (v:=.agg cs) (results_cell_row results64 _ _ w.heap.size 136 cs (0,0) _ rfl (setRow_heap _ _ L cs _ _ t.out) underlying136 rfl n.out) rfl ⟨cs,rfl,p,N.out,below_setRow m lR cs⟩
def ql (G:Nat->Nat) (i:Nat):List Nat:=(XG 64).map λj=>G (i*64+j)
def lM (G:Nat->Nat) (n:Nat):List (List Nat):=(XG n).map (ql G)
def iO (G:Nat->Nat) (i j:Nat):lh (ql G i) j=if j<64 then G (i*64+j) else 0:=by
 unfold lh ql;by_cases h:j<64
 . simp [h]
 . simp [h]
def fW (G:Nat->Nat) (n:Nat):(lM G n).length=n:=by simp [lM]
def fX (G:Nat->Nat) (n i:Nat) (h:i<(lM G n).length):(lM G n)[i]=ql G i:=by simp [lM]
def tu {G:Nat->Nat} (a:∀ x,G x<256) (n:Nat):∀ l∈lM G n,∀ x∈l,x<256:=by
 intro l b x c;obtain ⟨i,_,rfl⟩:=XH.1 b;obtain ⟨j,_,rfl⟩:=XH.1 c;exact a _
def A4 (G:Nat->Nat) (p r x:Nat):Nat:=if x/64=r then G (p*64+x%64) else if x/64=p then G (r*64+x%64) else G x
theorem za {G:Nat->Nat} (a:∀ x,G x<256) (p r x:Nat):A4 G p r x<256:=by
 unfold A4;split
 . exact a _
 . split<;>exact a _
def DI (G:Nat->Nat) (p r i j:Nat) (c:j<64):A4 G p r (i*64+j)=if i=r then G (p*64+j) else if i=p then G (r*64+j) else G (i*64+j):=by
 have a:(i*64+j)/64=i:=by omega
 have b:(i*64+j)%64=j:=by omega
 unfold A4;rw [a,b]
def J9 (G:Nat->Nat) (p r c n:Nat):Nat->Nat:=wk (A4 G p r) r c (gi (G (p*64+c))) (max n (r+1))
def Ka {G:Nat->Nat} (a:∀ x,G x<256) (p r c n x:Nat):J9 G p r c n x<256:=N5 (za a p r) _ _ _ _
def Kb (G:Nat->Nat) (p r c n i j:Nat) (_hc:c<64) (d:j<64) (f:r<i) (e:i<n):J9 G p r c n (i*64+j)=if c<=j then A4 G p r (i*64+j)^^^gm (gm (A4 G p r (i*64+c)) (gi (G (p*64+c)))) (G (p*64+j)) else A4 G p r (i*64+j):=by
 have a:(i*64+j)/64=i:=by omega
 have b:(i*64+j)%64=j:=by omega
 unfold J9 wk;rw [a,b,DI G p r r j d,if_pos rfl];by_cases h:c<=j
 . rw [if_pos h,if_pos (by omega)]
 . rw [if_neg h,if_neg (by omega)]
theorem Fg {G:Nat->Nat} (d:∀ x,G x<256) (b:c<64) (o:p<n) (l:r<=p) (k:G (p*64+c)≠0) (q:∀ i,r<=i->i<n->∀ j,j<c->G (i*64+j)=0) (g:r<i) (e:i<n) :
 ∃ f,f<256/\lh (ql (J9 G p r c n) i)=cH (lh (ql G (if i=p then r else i))) f (lh (ql G p))/\lh (ql (J9 G p r c n) i) c=0:=by
 have m:∀ j,j<64->A4 G p r (i*64+j)=G ((if i=p then r else i)*64+j):=by
  intro j a;rw [DI G p r i j a,if_neg (by omega)];split<;>rfl
 refine ⟨gm (A4 G p r (i*64+c)) (gi (G (p*64+c))),aV _ (za d _ _ _),?_,?_⟩
 . funext j;show lh (ql (J9 G p r c n) i) j=lh (ql G (if i=p then r else i)) j^^^gm _ (lh (ql G p) j);rw [iO,iO,iO];by_cases a:j<64
   . rw [if_pos a,if_pos a,if_pos a,Kb G p r c n i j b a g e,m j a];by_cases h:c<=j
     . rw [if_pos h]
     . rw [if_neg h,q p l o j (by omega),bm,Nat.xor_zero]
   . rw [if_neg a,if_neg a,if_neg a,bm];exact (Yh 0).symm
 . rw [iO,if_pos b,Kb G p r c n i c b b g e,if_pos lR];exact sA (za d _ _ _) (d _) k
theorem DJ {G:Nat->Nat} (a:∀ x,G x<256) (g:c<64) (l:p<n) (d:r<=p) (b:G (p*64+c)≠0) (u:∀ i,r<=i->i<n->∀ j,j<c->G (i*64+j)=0)
 (t:dI m (oe (lM (J9 G p r c n) n) (r+1)) (c+1) k):dI (m+1) (oe (lM G n) r) c (k+1):=by
 refine Ah (p:=p) (T':=lM (J9 G p r c n) n) (tu a n) (tu (Ka a p r c n) n) (by rw [fW,fW]) d (by rw [fW];exact l) ?_ ?_ t
 . rw [fX,iO,if_pos g];exact b
 . intro i h q;rw [fW] at h;obtain ⟨f,s,e,o⟩:=Fg a g l d b u q h;refine ⟨f,by rw [fW];split<;>omega,s,?_,?_⟩
   . rw [fX,fX,fX];exact e
   . rw [fX];exact o
structure GI (D:List (List Nat)) (c r n:Nat) (G:Nat->Nat):Prop where
 byt:∀ x,G x<256
 rle:r<=n
 zer:∀ i,r<=i->i<n->∀ j,j<c->G (i*64+j)=0
 tak:∀ k,dI (64-c) (oe (lM G n) r) c k->sB D (r+k)
def GI.skip {D:List (List Nat)} {G:Nat->Nat} (h:GI D c r n G) (f:c<64) (d:∀ i,r<=i->i<n->G (i*64+c)=0):GI D (c+1) r n G:=
 { h with
  zer:=λi b a j l=>by
   by_cases e:j=c
   . subst e;exact d i b a
   . exact h.zer i b a j (by omega)
  tak:=λk g=>by
   refine h.tak k ?_;have e:64-c=64-(c+1)+1:=(by omega);rw [e];refine CJ (λi a b=>?_) g;rw [fX,iO,if_pos f];rw [fW] at a;exact d i b a }
theorem GI.VT {D:List (List Nat)} {G:Nat->Nat} (h:GI D c r n G) (b:c<64) (a:r<=p) (d:p<n) (o:G (p*64+c)≠0):GI D (c+1) (r+1) n (J9 G p r c n) where
 byt:=Ka h.byt p r c n
 rle:=by omega
 zer:=λi y v j x=>by
  obtain ⟨f,_,e,l⟩:=Fg h.byt b d a o h.zer (show r<i by omega) v;by_cases s:j=c
  . subst s;rw [iO,if_pos b] at l;exact l
  . have g:=congrFun e j;have t:=h.zer (if i=p then r else i) (by split<;>omega) (by split<;>omega) j (by omega);have u:=h.zer p a d j (by omega);rw [iO,if_pos (by omega)] at g;rw [g];show lh (ql G (if i=p then r else i)) j^^^gm f (lh (ql G p) j)=0;generalize (if i=p then r else i)=q at *;have m:j<64:=(by omega);rw [iO,iO,if_pos m,if_pos m,t,u,bm];exact Yh 0
 tak:=λk w=>by
  have e:r+1+k=r+(k+1):=by omega
  rw [e];refine h.tak (k+1) ?_;have e:64-c=64-(c+1)+1:=by omega
  rw [e];exact DJ h.byt b d a o h.zer w
def GI.done {D:List (List Nat)} {G:Nat->Nat} (h:GI D 64 r n G):sB D r:=
 h.tak 0 rfl
def GC {D:List (List Nat)} (a:∀ l∈D,∀ x∈l,x<256) (x:Nat):fV D x<256:=by
 unfold fV;by_cases h:x/64<D.length
 . have e:D.getD (x/64) []=D[x/64]:=(by simp [h]);rw [e];exact eG (a _ (X0 h)) _
 . have e:D.getD (x/64) []=[]:=(by simp [Yd (Ym.1 h)]);rw [e];simp
theorem GI.start {D:List (List Nat)} (g:∀ l∈D,∀ x∈l,x<256) (h:vz D):GI D 0 0 D.length (fV D) where
 byt:=GC g
 rle:=XL _
 zer:=λ_ _ _ j a=>absurd a (Nat.not_lt_zero _)
 tak:=λk c=>by
  rw [Ya];have e:oe (lM (fV D) D.length) 0=oe D 0:=FM (by rw [fW]) (λi n b=>by
   rw [fX];funext j;rw [iO];have m:D.getD i []=D[i]:=(by simp [b]);by_cases a:j<64
   . rw [if_pos a];have d:(i*64+j)/64=i:=(by omega);have f:(i*64+j)%64=j:=(by omega);unfold fV lh;rw [d,f,m]
   . rw [if_neg a];have:=h.2 i b;unfold lh;simp [Yd (show (D[i]).length<=j by omega)]) 0
  rw [e] at c;exact c
theorem DK (w:ZU) {ops:Array Oper} {rest:List Oper} {o:Oper} {a:Act} {Q:Exit->Act->ZU->Prop} (h:o.guard=ZY) (x y:Operand) (ho:o.op=.store 136 x y)
 (g:Nat) (f:Nat->Nat) (cs old:Array ZT) (l:a.eval x=Z6 (ZX ⟨g,0,ZY⟩)) (m:a.eval y=.agg cs) (d:w.heap[g]?=ZX (Z4 old 136 (0,0))) (hold:old.size=4096) (b:cs.size=4096) (c:∀ j,j<4096->cs[j]?=ZX (tv f j))
 (hK:∀ w2,w2.rowIs g 136 4096 (tv f)->w.grownBy w2 (ZX g)->wpList ZO ops Q rest (a.put o.dst ZZ) w2):wpList ZO ops Q (o::rest) a w:=by
 refine wpList_store_row h 136 x y ho g cs l m 136 old d (by rw [Tryz.Uy,b]) (by omega) (ts b c) (hK _ ?_ ?_)
 . exact ⟨cs,setRow_heap w g old cs _ _ d,b,c⟩
 . refine ⟨rfl,rfl,rfl,by simp,λk n i=>?_⟩;have:g≠k:=λe=>i (by rw [e]);simp [World.setRow,Array.getElem?_modify,this]
theorem kH:∀ (vs:List ZT) (o:Nat) (w:ZU) (f:Nat->ZT),w.rowIs b t n f->(w.setCells b o vs).rowIs b t n (λx=>if o<=x/\x<o+vs.length then vs.getD (x-o) ZZ else f x)
 | [],o,w,f,h=>h.congr (λi _=>by rw [if_neg (by simp)])
 | v::vs,o,w,f,h=>(kH vs (o+1) _ _ (h.set o v)).congr (λi _=>by
  by_cases a:o+1<=i/\i<o+1+vs.length
  . have e:i-o=(i-(o+1))+1:=(by omega);rw [if_pos a,if_pos (by simp;omega),e];simp
  . rw [if_neg a];by_cases c:i=o
    . subst c;rw [if_pos rfl,if_pos (by simp)];simp
    . rw [if_neg c,if_neg (by simp;omega)])
def iP:∀ (vs:List ZT) (o:Nat) (w w':ZU),w.grownBy w' (ZX b)->w.grownBy (w'.setCells b o vs) (ZX b)
 | [],_,_,_,h=>h
 | v::vs,o,w,_,h=>iP vs (o+1) w _ (fp h o v)
def wI (G:Nat->Nat) (i:Nat):List ZT:=(XG 64).map λj=>tv G (i*64+j)
def oQ (G:Nat->Nat) (i:Nat):(wI G i).length=64:=by simp [wI]
def A5 (G:Nat->Nat) (i j:Nat) (h:j<64):(wI G i).getD j ZZ=tv G (i*64+j):=by simp [wI,h]
def wJ {G:Nat->Nat} (h:w.rowIs b t 4096 (tv G)) {i:Nat} (d:i<64):w.rangeAt b (i*64) (wI G i):=by
 intro j v a;have c:j<64:=by
  obtain ⟨q,_⟩:=Yl.1 a;rwa [oQ] at q
 simp [wI,c] at a;rw [h.cell (by omega),a]
def wK {f:Nat->ZT} (h:w.rowIs b t 4096 f) {i n:Nat} (a:i<64) (d:n<=64):w.there b (i*64) n:=λj c=>by
 rw [h.cell (by omega)];exact ⟨rfl,h.frozen _⟩
def Fh (G:Nat->Nat) (i:Nat):(wI G i).toArray.all (λv=>v.oneCell')=ZW:=by
 rw [YF];intro j a;simp [wI,tv];rfl
theorem O8 {G:Nat->Nat} (h:w.rowIs b t 4096 (tv G)) (p r:Nat):((w.setCells b (r*64) (wI G p)).setCells b (p*64) (wI G r)).rowIs b t 4096 (tv (A4 G p r)):=by
 refine (kH (wI G r) (p*64) _ _ (kH (wI G p) (r*64) _ _ h)).congr (λx _=>?_);rw [oQ,oQ];by_cases e:p*64<=x/\x<p*64+64
 . have a:x/64=p:=(by omega);have c:x-p*64=x%64:=(by omega);rw [if_pos e,c,A5 _ _ _ (by omega)];unfold tv A4;rw [a];by_cases d:p=r
   . rw [if_pos d,d]
   . rw [if_neg d,if_pos rfl]
 . rw [if_neg e];by_cases f:r*64<=x/\x<r*64+64
   . have a:x/64=r:=(by omega);have c:x-r*64=x%64:=(by omega);rw [if_pos f,c,A5 _ _ _ (by omega)];unfold tv A4;rw [if_pos a]
   . rw [if_neg f];unfold tv A4;rw [if_neg (by omega),if_neg (by omega)]
def Tk (G:Nat->Nat) (r c n:Nat) (rv iv:ZT):Prop:=∃ k:Nat,r<=k/\k<=n/\rv=Z7 Z9 (r:Nat)/\iv=Z7 Z9 (k:Nat)/\∀ i,r<=i->i<k->G (i*64+c)=0
def Tl (w:ZU) (b:Nat) (D:List (List Nat)) (rv cv:ZT) (wr:ZU):Prop:=
 ∃ (r c:Nat) (G:Nat->Nat),c<=64/\rv=Z7 Z9 (r:Nat)/\cv=Z7 Z9 (c:Nat)/\GI D c r D.length G/\wr.rowIs b 136 4096 (tv G)/\bW w wr
theorem Kc (vd:ZT) (D:List (List Nat)) (w:ZU) (P:Rd w vd D) (hb:∀ l∈D,∀ x∈l,x<256) :
 ZS ZO 42 #[vd] w λe w'=>O2 D w e w':=by
 have y:=hide P;have kr:=AZ;obtain ⟨ao,c,rfl,hl,hc⟩:=P;clear hc;by_cases o:vz D
 . have hp:=o.1;have q:=hide o;clear o;go_enter func42,ntmps42;go_wp2;go_step3;go_wp2_with (first
    | (go_at_call 63;refine (AX _ D _ y.out).mono ?_;rintro e wv ⟨f,_,rfl⟩;obtain rfl:=f q.out)
    | (go_at_call 64;refine (MI _ D _ y.out q.out).mono ?_;rintro e L ⟨cs,rfl,k8,N,j⟩)
    | (refine DK _ rfl (Z1 3) (Z1 11) rfl L.heap.size (fV D) cs _ rfl rfl (heap_alloc_last L _) (by simp) k8 N ?_;intro wb T W))
   have U:bW wv wb:=iZ (j.alloc j.size _) W (by rw [nblk_alloc];have:=j.size;omega) j.size;have S:=GI.start hb q.out;have kj:=j.size;have Q:=hide S;clear N k8 j W kr S;generalize L.heap.size=d at *;go_step3;go_wp2;go_loopw [4,12] (λrv A wr=>Tl wv d D rv A wr) (λ_ A _=>64-(intOf A).toNat)
   case atStart=>exact ⟨0,0,fV D,by omega,rfl,rfl,Q.out,T,U⟩
   case round=>
    clear T U Q;rename ZU=>wo;obtain ⟨r,a,G,kk,rfl,rfl,g,O,J⟩:=hrel;have ko:=g.rle;by_cases t:a<64
    . have F:=hide g;have z:=hide O;have E:=hide J;clear g O J;go_wp2;go_loop [4,6] (λrv K=>Tk G r a D.length rv K) (λ_ K=>D.length-(intOf K).toNat)
      case atStart=>exact ⟨r,XJ _,ko,rfl,rfl,λi f s=>absurd f (by omega)⟩
      case round=>
       obtain ⟨p,kp,ks,rfl,rfl,u⟩:=hrel;by_cases km:p<D.length
       . have h8:wo.cell? ⟨d,p*64+a,ZY⟩=ZX (Z7 .u8 ((G (p*64+a):Nat):Int)):=z.out.cell (by omega);have kg:=hide u;clear u;by_cases n:G (p*64+a)=0
         . rw [n] at h8;have HX:=hide n;clear n;go_wp2;go_round
           case rel=>
            refine ⟨p+1,by omega,by omega,rfl,by go_num,λi f s=>?_⟩;by_cases e:i=p
            . subst e;exact HX.out
            . exact kg.out i f (by omega)
           case measure=>simp [intOf];omega
         . have t0:(((G (p*64+a):Nat):Int)==0)=ZV:=(by rw [beq_eq_false_iff_ne];omega);have kb:=hide (F.out.VT t kp km n);clear n;have I:wo.drew.rowIs d 136 4096 (tv G):=z.out;have Y:A4 G p r (r*64+a)=G (p*64+a):=(by rw [DI G p r r a t,if_pos rfl]);have hj:=hide Y;have ka:=hide (za F.out.byt p r);have B:p<64:=(by omega);have C:r<64:=(by omega);clear Y;obtain ⟨v,k9,k7,Z⟩:∃ v,(wo.drew.setCells d (r*64) (wI G p)).setCells d (p*64) (wI G r)=v/\v.rowIs d 136 4096 (tv (A4 G p r))/\wo.drew.grownBy v (ZX d):=
            ⟨_,rfl,O8 I p r,iP (b:=d) (wI G r) (p*64) wo.drew _ (iP (b:=d) (wI G p) (r*64) wo.drew wo.drew (World.grownBy.refl _ _))⟩
           have kf:=hide k7;have kc:=hide Z;have R:=hide k9;have m:=hide I;clear k7 Z k9 I;go_wp2;refine JR d p r (wI G p) (wI G r) (by kernel_rfl) (λ_ _ _ _ _ h=>h) rfl B C rfl rfl rfl (oQ _ _) (oQ _ _) (Fh _ _) (Fh _ _) (wJ m.out B) (wJ m.out C) (wK m.out C lR) (wK m.out B lR) ?_;rw [R.out];clear R m;unfold JQ;generalize (wI G p).toArray=cp;generalize (wI G r).toArray=cr;go_wp2_with (go_at_call 65;refine (AY d r a D.length (A4 G p r) _ ka.out kf.out (by omega) t hp).mono ?_;rintro e w2 ⟨rfl,H,X⟩);have kh:w2.rowIs d 136 4096 (tv (J9 G p r a D.length)):=by
            rw [hj.out] at H;exact H
           have k:=gu kc.out X;have ki:=iZ E.out (w:=wo) ⟨k.os,k.tape,k.output,k.size,k.block⟩ E.out.size kj;clear H X k;go_wp2;go_roundw
           case rel=>exact ⟨r+1,a+1,J9 G p r a D.length,by omega,by go_num,by go_num,kb.out,kh,ki⟩
           case measure=>simp [intOf];omega
       . have ke:=hide (F.out.skip t (λi f s=>u i f (by omega)));clear u;go_wp2;go_roundw
         case rel=>exact ⟨r,a+1,G,by omega,rfl,by go_num,ke.out,z.out,E.out⟩
         case measure=>simp [intOf];omega
    . have V:a=64:=(by omega);rw [V] at g;have HK:=hide g.done;clear g V;go_wp2;try rw [Exit.noGoto_ret]
      go_ret;exact ⟨λ_=>⟨r,by omega,rfl,HK.out⟩,λh=>absurd q.out h,J⟩
 . have M:=hide o;clear o;go_enter func42,ntmps42;go_wp2;go_step3;go_wp2_with (go_at_call 63;refine (AX _ D _ y.out).mono ?_;rintro e w' ⟨_,s,rfl⟩;obtain rfl:=s M.out);try rw [Exit.noGoto_ret]
   go_ret;exact ⟨λh=>absurd h M.out,λ_=>rfl,Below.refl _ _⟩
theorem iV.Wk {v:ZT} (h:iV w B v T) (c:di T D M) (k:∀ r∈M,r.length=D) (n:M.length<=100000):Rd w v M:=by
 have a:T.length=M.length:=by simpa using congrArg List.length c
 obtain ⟨ao,cap,rfl,f⟩:=h.slice;refine ⟨ao,cap,by rw [a],by omega,λm=>?_⟩;obtain ⟨g,rfl⟩:=f (by intro e;rw [e] at a;exact m (X3 a.symm));refine ⟨g,0,rfl,λi d=>?_⟩;have b:i<T.length:=by omega
 refine ⟨lB T[i],by rw [Ya];exact h.Uo b,?_⟩;have:=h.UB b;have j:T[i].2=(D,M[i]):=by
  have:=congrArg (λl=>l[i]?) c;simpa [b,d] using this
 rw [j] at this;have e:(M[i]).take D=M[i]:=by rw [<- k _ (X0 d),Yn]
 rw [e] at this;exact this
def Rd.byte {v:ZT} {D:List (List Nat)} (h:Rd w v D):∀ l∈D,∀ x∈l,x<256:=by
 rcases h.cases with ⟨rfl,_⟩|⟨b,off,c,rfl,_,d⟩
 . intro l a;simp at a
 . intro l a;obtain ⟨i,e,rfl⟩:=Yu.1 a;obtain ⟨u,_,f⟩:=d i e;exact f.lt
def dj (D L G:Nat):(aO D L G).length=D+L+G:=by simp [aO];omega
def mx (D L G:Nat):∀ r∈aO D L G,r.length=D:=by
 intro r a;simp only [aO,XP,XH,XM] at a;rcases a with (⟨i,_,rfl⟩|⟨i,_,rfl⟩)|⟨i,_,rfl⟩
 . simp [dK]
 . simp [fa]
 . simp [cF]
theorem oR (D L G:Nat) (c:D<=12) (d:G<=4):∀ r∈aO D L G,∀ x∈r,x<256:=by
 intro r b x a;simp only [aO,XP,XH,XM] at b;rcases b with (⟨i,_,rfl⟩|⟨i,_,rfl⟩)|⟨i,e,rfl⟩
 . rcases List.mem_or_eq_of_mem_set a with h|h
   . have:=YG h;omega
   . omega
 . simp only [fa,XH] at a;obtain ⟨j,_,rfl⟩:=a;split<;>decide
 . simp only [cF,XH,XM] at a;obtain ⟨j,f,rfl⟩:=a;exact dh (j8 (by omega) (by omega))
def qt (D L G lost:Nat):Prop:=mP (oe (cj (aO D L G) lost (D+L+G)) 0) 0 D
def Ke {lost:Nat} (c:D<=12) (d:G<=4) (h:sB (cj (aO D L G) lost (D+L+G)) k):k=D↔qt D L G lost:=by
 have b:=tg (aO D L G) lost (D+L+G) (by rw [dj];omega);exact FN (λl a=>oR D L G c d l (b l a)) (λl a=>by rw [mx D L G l (b l a)];omega) (by omega) h
def Kf (D L G lost:Nat) (b:D<=12) (d:L<=4) (c:G<=4):vz (cj (aO D L G) lost (D+L+G)):=by
 refine ⟨XI (oN _ _ _) (by omega),λi a=>?_⟩;rw [mx D L G _ (tg (aO D L G) lost (D+L+G) (by rw [dj];omega) _ (X0 a))];omega
def Kg (D L G lost:Nat) (w:ZU) (e:ZR) (w':ZU):Prop:=∃ b:Bool,e=Z3 (Z2 b)/\(b=ZW↔qt D L G lost)/\bW w w'
theorem gI (D L G lost:Nat) (F:bU D L G=ZW) (i:D<=12) (x:1<=L) (o:L<=4) (j:G<=4) (u:D%L=0) (E:lost<18446744073709551616) (w:ZU) :
 ZS ZO 29 #[.agg #[Z7 Z9 D,Z7 Z9 L,Z7 Z9 G],Z7 Z8 lost] w λe w'=>Kg D L G lost w e w':=by
 go_enter func29,ntmps29;go_wp2_with fail;refine (kA D L G F i x o j u _).mono ?_;rintro e w1 ⟨v,T,rfl,g,p,b⟩;try change Below _ _ _ at g
 try change Below _ _ _ at b
 rw [nblk_alloc] at g b;have s:=b.size;try change Below _ _ _ at s
 rw [nblk_alloc] at s;obtain ⟨l,I,J⟩:=fT b;have q:=g.Wk p (mx D L G) (by rw [dj];omega);have n:bW w w1:=(bA _ _).trans (b.mono (by omega));have A:=hide q;have z:=hide n;clear g p b I J q n;go_wp2;go_region_held (λw'=>w'.cell? ⟨w.heap.size,0,ZY⟩=ZX (Z7 Z9 (D:Nat))) (first|assumption|exact l)
  (first
   | (go_at_call 43;refine (J0 _ (aO D L G) lost _ (show Rd w1.drew _ _ from A.out) E (by rw [dj];omega)).mono ?_;rintro e w2 ⟨N,rfl,f⟩;rw [dj] at f
      have d:w2.cell? ⟨w.heap.size,0,ZY⟩=ZX (Z7 Z9 (D:Nat)):=(by rw [f.choose_spec.2.2.2.cell (block_lt_of_cell l)];exact l);have h:=hide f;clear f)
   | (go_at_call 42;refine (Kc _ _ _ (h.out.rd (XI (oN _ _ _) (by omega))) (h.out.rd (XI (oN _ _ _) (by omega))).byte).mono ?_
      rintro e K ⟨m,_,c⟩;obtain ⟨k,M,rfl,r⟩:=m (Kf D L G lost i o j);have H:K.cell? ⟨w.heap.size,0,ZY⟩=ZX (Z7 Z9 (D:Nat)):=(by rw [c.cell (block_lt_of_cell d)];exact d);have B:=hide r;have y:=hide c;clear m r c))
 go_wp2;go_ret;have a:=h.out.choose_spec.2.2.2;have c:=y.out;have C:=a.size;change w1.heap.size<=_ at C;have t:bW w w2:=z.out.trans ((show bW w1 w2 from ⟨a.os,a.tape,a.output,a.size,a.block⟩).mono (by omega));refine ⟨((k:Int)==(D:Int)),rfl,?_,t.trans (c.mono (by omega))⟩;rw [<- Ke i j B.out];simp;omega
theorem vA (h ao:Option Addr) (cap a c:Nat) (w:ZU) (n:c<256) :
 ZS ZO 91 #[.slice h 0 cap,.slice ao 0 a,Z7 .u8 c] w λe w'=>e=Z3 (Z0 #[])/\bW w w':=by
 by_cases d:c=0
 . subst d;go_enter func91,ntmps91;go_wp2;exact bodyPost_ret (v:=Z0 #[]) (by simp [results,results91]) rfl ⟨rfl,Below.refl _ _⟩
 . have p:((c:Int)==0)=ZV:=(by rw [beq_eq_false_iff_ne];omega);clear d;go_enter func91,ntmps91;go_wp2_with fail;refine (lH c n _).mono ?_;rintro e w1 ⟨cs,rfl,m,f,b⟩;have l:=b.size;go_wp2_with (refine nB _ rfl (Z1 6) (Z1 11) rfl w1.heap.size c cs _ rfl rfl (heap_alloc_last w1 _) rfl m f ?_;intro w2 i g);have j:bW w w2:=by
    refine (b.trans ((Below.refl _ _).alloc l _)).grown g (by rw [nblk_alloc];omega) (λk o=>by simp at o;omega)
   clear g i f b;refine wp_loop_rounds 1 ?_;rw [rounds_succ];go_wp2;go_end0
   exact ⟨rfl,j⟩
def yX (b ao:Option Addr) (n m cap a c:Nat) (w:ZU) (g:n=0) (f:m=0) (d:c<256) :
 ZS ZO 91 #[.slice b n cap,.slice ao m a,Z7 .u8 c] w λe w'=>e=Z3 (Z0 #[])/\bW w w':=by
 subst g f;exact vA b ao cap a c w d
def MF (row:List Nat) (D:List (List Nat)):Nat->Nat->Nat
 | 0,_=>0
 | t+1,k=>MF row D t k^^^gm (row.getD t 0) ((D.getD t []).getD k 0)
def cQ (row:List Nat) (D:List (List Nat)) (n t:Nat):List Nat:=(XG n).map (MF row D t)
def fU (row:List Nat) (D:List (List Nat)) (n t:Nat):(cQ row D n t).length=n:=by simp [cQ]
theorem AS (row:List Nat) (D:List (List Nat)) (n:Nat):cQ row D n 0=Yo n 0:=by
 unfold cQ;apply YH
 . simp
 . intro j a b;simp [MF]
def O3 (row:List Nat) (D:List (List Nat)) (a:∀ x∈row,x<256) (t k:Nat):MF row D t k<256:=by
 induction t with
 | zero=>exact (by decide:(0:Nat)<256)
 | succ t ih=>exact j8 ih (aV _ (eG a t))
def pX (row:List Nat) (D:List (List Nat)) (a:∀ x∈row,x<256) (n t:Nat):∀ x∈cQ row D n t,x<256:=by
 intro x b;obtain ⟨k,_,rfl⟩:=XH.1 b;exact O3 row D a t k
def th (row:List Nat) (D:List (List Nat)) (n t k:Nat) (a:k<n):(cQ row D n t).getD k 0=MF row D t k:=by simp [cQ,a]
def AT (row:List Nat) (D:List (List Nat)) (n t j:Nat) (a:j<n) :
 tv (gQ (λi=>(cQ row D n t).getD i 0) (λi=>(D.getD t []).getD i 0) (row.getD t 0) 0 n) j=vb (cQ row D n (t+1)) j:=by
 unfold tv vb gQ;rw [if_pos (by omega),th _ _ _ _ _ a];show Value.int .u8 (((cQ row D n t).getD j 0^^^gm (row.getD t 0) ((D.getD t []).getD (j-0) 0):Nat):Int)=_;rw [th _ _ _ _ _ a,Nat.sub_zero];rfl
def Te (w:ZU) (row:List Nat) (D:List (List Nat)) (n:Nat) (i:ZT) (wr:ZU):Prop:=
 ∃ t:Nat,t<=row.length/\i=Z7 Z9 t/\aL wr w.heap.size (cQ row D n t)/\bW w wr
theorem AU (vr vd:ZT) (row:List Nat) (D:List (List Nat)) (n:Nat) (w:ZU) (U:Bs w vr row) (hd:Rd w vd D) (hn:n<=4096) (v:∀ i (T:i<D.length),(D[i]).length=n) (q:row.length=D.length) (z:0<D.length) :
 ZS ZO 181 #[vr,vd] w λe w'=>∃ b,e=Z3 (Z5 (ZX ⟨b,0,ZY⟩) n n)/\w.heap.size<=b/\aL w' b (cQ row D n D.length)/\bW w w':=by
 have kc:=U.lt;obtain ⟨ao,cr,rfl,h1,h2,_,N⟩:=U;obtain ⟨rb,k,rfl,kb⟩:=N (by intro e;rw [e] at q;simp at q;omega);rcases hd.cases with ⟨rfl,_⟩|⟨b,off,c,rfl,hl,A⟩
 . simp at z
 have km:row.length<=140737488355328:=by omega
 obtain ⟨u0,F,kf⟩:=A 0 z;obtain ⟨kp,c0,rfl,l1,l2,_,_⟩:=kf;have f:=v 0 z;rw [f] at F;have HR:=hide kb;have HC:=hide A;have I:=hide v;have O:=hide q;clear kb A v q h1 h2 N f l1 l2;rw [Nat.add_zero] at F;go_enter func181,ntmps181;go_wp2_with (at_make;refine eH _ rfl (Z1 11) (Z1 11) rfl _ n rfl rfl rfl (by omega) ?_;intro w1 y P hz;clear hz);rw [<- AS row D n] at y;clear F;go_loopw [15] (λi wr=>Te w row D n i wr) (λi _=>row.length-(intOf i).toNat)
 case atStart=>exact ⟨0,XL _,rfl,y,P⟩
 case round=>
  clear y P;rename ZU=>wo;obtain ⟨t,ht,rfl,d,g⟩:=hrel;have ko:=d.lt;by_cases k9:t<row.length
  . have r:t<D.length:=(by rw [<- O.out];exact k9);have c1:=HR.out t k9;have kr:wo.cell? ⟨rb,k+t,ZY⟩=ZX (Z7 .u8 ((row.getD t 0:Nat):Int)):=(by rw [g.cell (block_lt_of_cell c1)];exact c1);obtain ⟨u,G,kg⟩:=HC.out t r;obtain ⟨fo,M,rfl,q1,q2,q3,H⟩:=kg;have kk:wo.cell? ⟨b,off+t,ZY⟩=ZX (.slice fo (D[t]).length M):=(by rw [g.cell (block_lt_of_cell G)];exact G);rw [I.out t r] at kk;have k5:=eG kc t;have k7:D.getD t []=D[t]:=(by simp [r]);have o:=AT row D n t;rw [k7] at o;have Y:=I.out t r;have h:=hide Y;generalize D[t]=l at *;generalize kj:row.getD t 0=x at *;clear c1 G k7 kj Y;by_cases f:n=0
    . have Q:aL wo w.heap.size (cQ row D n (t+1)):=(by rw [f] at d ⊢;exact d);have K:=hide f;clear o H d f;go_wp2_with fail;refine (yX _ _ _ _ _ _ x _ K.out K.out k5).mono ?_;rintro e w2 ⟨rfl,C⟩;have B:=Q.below C;have E:=g.trans (C.mono (by omega));clear Q C;go_wp2;go_roundw
      case rel=>exact ⟨t+1,by omega,by go_num,B,E⟩
      case measure=>simp [intOf];omega
    . obtain ⟨m,a,rfl,s⟩:=H (by intro e;rw [e] at h;exact f h.out.symm);rw [h.out] at s;have ki:0<l.length:=(by rw [h.out];omega);have kh:m<w.heap.size:=block_lt_of_cell (s 0 (by omega));have R:∀ i,i<n->wo.cell? ⟨m,a+i,ZY⟩=ZX (Z7 .u8 ((l.getD i 0:Nat):Int)):=λi T=>by
       rw [g.cell (p:=⟨m,a+i,ZY⟩) kh];exact s i T
      have S:wo.rowIs w.heap.size 5 n (tv (λi=>(cQ row D n t).getD i 0)):=by
       have:=d;unfold aL at this;rw [fU] at this;exact this
      have L:=hide o;have J:=hide R;have X:=hide S;have k8:=λj=>eG (pX row D kc n t) j;have Z:=λj=>eG q3 j;have W:=hide k8;have V:=hide Z;clear o s R S d H k8 Z ki h;go_wp2_with fail;refine (jy w.heap.size 5 n 0 n n m a M x (λi=>(cQ row D n t).getD i 0) (λi=>l.getD i 0) wo k5 X.out W.out V.out (by omega) (by omega) J.out (.inl (by omega))).mono ?_;rintro e w2 ⟨rfl,ka,k6⟩;have B:aL w2 w.heap.size (cQ row D n (t+1)):=by
       unfold aL;rw [fU];exact ka.congr (λj hj=>L.out j hj)
      have E:=iZ g k6 (by omega) lR;clear ka k6 L J X W V;go_wp2;go_roundw
      case rel=>exact ⟨t+1,by omega,by go_num,B,E⟩
      case measure=>simp [intOf];omega
  . have ke:t=D.length:=(by rw [<- O.out];omega);rw [ke] at d;clear ke;go_wp2;go_ret;exact ⟨w.heap.size,rfl,XJ _,d,g⟩
def dF (M:List (List Nat)) (D:List (List Nat)) (n:Nat):List (List Nat):=M.map λrow=>cQ row D n D.length
theorem m0 (w:ZU) {ops:Array Oper} {rest:List Oper} {o:Oper} {a:Act} {Q:Exit->Act->ZU->Prop}
 (h:o.guard=ZY) (l c:Operand) (e:o.op=Op.makeSlice 95 l c) (C:Int) (n:Nat) (i:a.eval l=Z7 Z9 C) (g:a.eval c=Z7 Z9 C) (f:C=(n:Int)) (j:n<=1000000)
 (hK:∀ w',w'.rowIs w.heap.size 34 n (λ_=>Z5 ZY 0 0)->bW w w'->w'.heap.size=w.heap.size+1->wpList ZO ops Q rest (a.put o.dst (Z5 (ZX ⟨w.heap.size,0,ZY⟩) n n)) w') :
 wpList ZO ops Q (o::rest) a w:=by
 refine wpList_plain h λK d=>?_;have b:=run_make_row' (P:=ZO) 95 34 (Z5 ZY 0 0) 24 underlying95 Tryz.Uc rfl .i64 .i64 n (by omega) (by omega) w;subst f;unfold Oper.wp;simp [execOp,e,i,g,b,Result.andThen];exact d _ _ (hK _ (World.rowIs_made w _ n _) (bA _ _) (nblk_alloc _ _))
def shv (T:List (Nat×Nat×List Nat)) (i:Nat):ZT:=if i<T.length then lB (T.getD i (0,0,[])) else Z5 ZY 0 0
structure oP (w:ZU) (base g N:Nat) (T:List (Nat×Nat×List Nat)):Prop where
 TQ:w.rowIs g 34 N (shv T)
 row:∀ p∈T,base<=p.1/\aL w p.1 p.2.2/\p.2.1<=p.2.2.length/\(p.2.1<=140737488355328/\p.2.2.length<=9223372036854775807)/\∀ x∈p.2.2,x<256
 nodup:(T.map (λp=>p.1)).Nodup
def oP.below (h:oP w base g N T) (d:bW w w'):oP w' base g N T:=
 ⟨h.TQ.of_block (d.block g h.TQ.lt),λp e=>by obtain ⟨a,b,c⟩:=h.row p e;exact ⟨a,b.below d,c⟩,h.nodup⟩
theorem oP.push (h:oP w base g N T) (A:base<=b) (s:aL w b l) (B:n<=l.length) (F:l.length<=140737488355328) (j:∀ x∈l,x<256) (v:∀ p∈T,p.1≠b) :
 oP (w.setCell ⟨g,T.length,ZY⟩ (Z5 (ZX ⟨b,0,ZY⟩) n l.length)) base g N (T++[(b,n,l)]):=by
 have r:∀ c m,aL w c m->c≠g:=by
  intro c m f e;obtain ⟨x,j,_⟩:=f;obtain ⟨y,D,_⟩:=h.TQ;rw [e,D] at j;simp at j
 refine ⟨?_,λp d=>?_,?_⟩
 . refine (h.TQ.set T.length (Z5 (ZX ⟨b,0,ZY⟩) n l.length)).congr λi E=>?_;unfold shv;by_cases e:i=T.length
   . subst e;simp [lB]
   . rw [if_neg e];by_cases k:i<T.length
     . rw [if_pos k,if_pos (by simp;omega)];simp [Yb k]
     . rw [if_neg k,if_neg (by simp;omega)]
 . rcases XP.1 d with d|d
   . obtain ⟨t,o,u⟩:=h.row p d;exact ⟨t,o.other (r _ _ o) _,u⟩
   . simp at d;subst d;exact ⟨A,s.other (r _ _ s) _,B,⟨by show n<=140737488355328;omega,by show l.length<=9223372036854775807;omega⟩,j⟩
 . rw [X5,Ye];refine ⟨h.nodup,by simp,?_⟩;intro a z c f;obtain ⟨q,C,rfl⟩:=XH.1 z;simp at f;subst f;exact v q C
theorem oP.done (h:oP w base g N T) (d:N=T.length) (f:base<=g) (j:N<=maxLen):iV w base (Z5 (ZX ⟨g,0,ZY⟩) N N) T:=by
 subst d;refine ⟨⟨by simp,.inr ?_⟩,h.row,h.nodup⟩;obtain ⟨c,e,l,k⟩:=h.TQ;refine ⟨g,T.length,c,rfl,f,e,XJ _,j,by omega,?_⟩;apply YH
 . simp;omega
 . intro i b a;simp at b a;have:=k i a;rw [Yk (by omega)] at this;simp at this;simp [this,shv,a]
def oP.lt (h:oP w base g N T):g<w.heap.size:=h.TQ.lt
def Tf (w:ZU) (B g N n:Nat) (M D:List (List Nat)) (i:ZT) (wr:ZU):Prop:=
 ∃ k T,k<=N/\i=Z7 Z9 (k:Nat)/\oP wr B g N T/\di T n (dF (M.take k) D n)/\Below B w wr/\B<=wr.heap.size
def O4 (w:ZU) (n:Nat) (M D:List (List Nat)) (x:ZT) (e:ZR) (w':ZU):Prop:=∃ v T,e=Z3 (Z0 #[v,x])/\iV w' w.heap.size v T/\di T n (dF M D n)/\bW w w'
def di.at (h:di T D M) {i:Nat} (a:i<T.length) (b:i<M.length):T[i].2=(D,M[i]):=by
 have:=List.getElem_of_eq h (i:=i) (by simpa using a);simpa using this
def J1 (D L G:Nat):(aO D L G).length=D+L+G:=by simp [aO];omega
def J2 (D L G:Nat) {i:Nat} (b:i<(aO D L G).length):((aO D L G)[i]).length=D:=by
 have a:(aO D L G)[i]∈aO D L G:=X0 b;unfold aO at a;rcases XP.1 a with a|a
 . rcases XP.1 a with a|a
   . obtain ⟨j,_,e⟩:=XH.1 a;unfold aO;rw [<- e];simp [dK]
   . obtain ⟨j,_,e⟩:=XH.1 a;unfold aO;rw [<- e];simp [fa]
 . obtain ⟨j,_,e⟩:=XH.1 a;unfold aO;rw [<- e];simp [cF]
def Gx (M D:List (List Nat)) (n k:Nat) (a:k<M.length):dF (M.take (k+1)) D n=dF (M.take k) D n++[cQ M[k] D n D.length]:=by
 unfold dF;rw [List.take_succ_eq_append_getElem a,X5];rfl
theorem DD (D L G:Nat) (hr:bU D L G=ZW) (qf:1<=D) (hD:D<=12) (hL:1<=L) (q0:L<=4) (hG:G<=4) (ka:D%L=0) (vd:ZT) (Dt:List (List Nat)) (w:ZU) (V:Rd w vd Dt) (A:Dt.length=D) (s:QD Dt) :
 ZS ZO 163 #[.agg #[Z7 Z9 D,Z7 Z9 L,Z7 Z9 G],vd] w λe w'=>O4 w (Dt.getD 0 []).length (aO D L G) Dt .nilIface e w':=by
 have qh:(((Dt.length:Nat):Int) != (D:Int))=ZV:=by rw [A];simp
 have C:0<Dt.length:=by omega
 obtain ⟨ao,c,rfl,hl,q7⟩:=id V;have qb:(Dt.getD 0 []).length<=4096:=by
  have:=(s 0 C);have Q:=this.2;rw [this.1] at Q;exact Q
 have X:∀ i (l:i<Dt.length),(Dt[i]).length=(Dt.getD 0 []).length:=λi l=>(s i l).1;generalize hn:(Dt.getD 0 []).length=n at *;have hv:=hide X;have HF:=hide s;have hy:=hide A;clear q7 hn X s A;go_enter func163,ntmps163;go_wp2_with fail;refine (kA D L G hr hD hL q0 hG ka _).mono ?_;rintro e wa ⟨v,T,rfl,t,E,m⟩;try change Below _ _ _ at t
 try change Below _ _ _ at m
 rw [nblk_alloc] at t m;have qc:=m.size;try change Below _ _ _ at qc
 rw [nblk_alloc] at qc;obtain ⟨p0,p1,p2⟩:=fT m;have q:bW w wa:=(bA _ _).trans (m.mono (by omega));have kk:=V.mono q;go_wp2_with fail;refine (JN _ Dt _ kk C).mono ?_;rintro e g ⟨r,rfl,kr,rfl⟩;obtain rfl:r=ZW:=kr.2 HF.out;obtain ⟨mo,hb,rfl,kp⟩:=t.slice;have h:=E.length;rw [J1] at h;obtain ⟨mg,rfl⟩:=kp (by intro e;rw [e] at h;simp at h;omega);have q2:T.length<=20:=by omega
 have qe:=hide h;clear h kp kr;go_wp2_with (at_make;refine m0 _ rfl (Z1 31) (Z1 31) rfl _ T.length rfl rfl rfl (by omega) ?_;intro wc W O hz;clear hz);have kf:oP wc g.heap.size g.heap.size T.length []:=⟨W.congr (λi _=>by simp [shv]),λp F=>by simp at F,by simp⟩;have ks:=O.size;generalize hM:aO D L G=M at *;have HM:Hid (∀ i (l:i<M.length),(M[i]).length=D):=by intro i l;subst hM;exact J2 D L G l
 have P:=hide E;have kx:=hide hM;clear W hM E p0 p1 p2;go_loopw [35] (λi wr=>Tf g g.heap.size g.heap.size T.length n M Dt i wr) (λi _=>T.length-(intOf i).toNat)
 case atStart=>exact ⟨0,[],XL _,rfl,kf,rfl,O,ks⟩
 case round=>
  clear kf O ks;rename ZU=>wo;obtain ⟨k,S,hk,rfl,a,d,f,qd⟩:=hrel;have R:=P.out.length;have y:=d.length;unfold dF at y;rw [XN,List.length_take] at y;by_cases j:k<T.length
  . have B:k<M.length:=(by omega);have K:=t.below f;have km:=kk.mono f;have z:=K.Uo j;have b:=K.UB j;have N:=P.out.at j B;have J:=HM.out k B;obtain ⟨⟨rb,rn,rl⟩,kj⟩:∃ p,p=T[k]:=⟨_,rfl⟩;rw [<- kj] at z b N;simp only [lB,Prod.mk.injEq] at z b N;obtain ⟨rfl,rfl⟩:=N;rw [Yp (by omega)] at b;rw [J] at z b;have kh:S.length=k:=(by omega);have q5:=a.TQ.cell (i:=k) j;have q8:=a.TQ.frozen k;have U:=Gx M Dt n k B;have Z:=hide U;have Y:=hide d;have ky:=hide kh;have H:=hide J;clear U d kh J R y kj;go_wp2_with fail;refine (AU _ _ M[k] Dt n wo (by rw [H.out] at *;exact b) km qb hv.out (by rw [H.out,hy.out]) C).mono ?_;rintro e w2 ⟨b2,rfl,qg,ke,o⟩;have u:=a.below o;have q6:=u.TQ.cell (i:=k) j;have q9:=u.TQ.frozen k;have qj:=o.size;have qi:=a.lt;have kg:=u.push (n:=n) (by omega) ke (by rw [fU];omega) (by rw [fU];omega) (pX _ _ (λx hx=>b.lt x hx) _ _) (λp F=>by have:=(a.row p F).2.1.lt;omega);rw [fU,ky.out] at kg;have q3:=(f.trans (o.mono qd)).setCell (p:=⟨g.heap.size,k,ZY⟩) lR (Z5 (ZX ⟨b2,0,ZY⟩) n n);have I:=Y.out.push b2 (cQ M[k] Dt n Dt.length);rw [<- Z.out] at I;have kv:=hide I;generalize shv S k=ov at *;clear a u ke o f b z K km I q5 q8 Z Y H;go_wp2;go_roundw
    case rel=>exact ⟨k+1,_,by omega,by go_num,kg,kv.out,q3,by rw [nblk_setCell];omega⟩
    case measure=>simp [intOf];omega
  . have qa:k=T.length:=(by omega);have ko:k=M.length:=(by omega);have kz:di S n (dF M Dt n):=(by rw [ko,Yn] at d;exact d);have ki:=a.done (by omega) lR (by unfold maxLen;omega);have q4:=q.trans (f.mono q.size);have q1:=ki.weaken (base':=w.heap.size) q.size;clear d a f ki qa ko R y;go_wp2;go_ret2;exact ⟨_,S,rfl,q1,by rw [kx.out];exact kz,q4⟩
section
attribute [local go_sem] Oper.semAt_some
def G2 {m':Nat} {l:Nat} {args:Array ZT} (h:YieldAt Fence.wide m P l args w R):YieldAt Fence.wide m' P l args w R:=by
 obtain ⟨fn,tmps,assign,body,a,b⟩:=h;exact ⟨fn,tmps,assign,body,a,vU b⟩
theorem lV (ao:Option Addr) (m c:Nat) (w:ZU) :
 ZS ZO 125 #[.slice ao m c] w λe w'=>e=Z3 (.func (.func 150) #[] #[Z6 (ZX ⟨w.heap.size,0,ZY⟩)])/\w'=w.alloc (Z4 #[.slice ao m c] 119):=by
 have a:∀ (fn:Fn) (first cap:Array ZT) (w:ZU),(Instr.makeFunc fn first cap).run ZO w=.ok (.func fn first cap) w:=λ_ _ _ _=>rfl;go_enter func125,ntmps125;go_wp2;go_ret;exact ⟨rfl,rfl⟩
theorem tL (ar:Nat) (w:ZU) :
 ZS ZO 86 #[Z6 (ZX ⟨ar,0,ZY⟩)] w λe w'=>e=Z3 (.func (.func 124) #[] #[Z6 (ZX ⟨w.heap.size,0,ZY⟩)])/\w'=w.alloc (Z4 #[Z6 (ZX ⟨ar,0,ZY⟩)] 90):=by
 have a:∀ (fn:Fn) (first cap:Array ZT) (w:ZU),(Instr.makeFunc fn first cap).run ZO w=.ok (.func fn first cap) w:=λ_ _ _ _=>rfl;go_enter func86,ntmps86;go_wp2;go_ret;exact ⟨rfl,rfl⟩
theorem tM (K:Nat->Prop) (n l b1 ar:Nat) (v D L G t f nn:Nat) (pg ob:ZT) (off:Bool) (P:List Nat) (os:List Ob) (hv:K b1) (hs:K ar) (J M:List Nat->ZU->Prop) (hn:∀ pre A B,J pre A->bW A B->J pre B)
 (hY:∀ pre x W,J pre W->pre++[x]<+:P++ah os->YieldAt Fence.wide (n-1) ZO l (pT x) W λe j=>(e=Z3 (Z2 ZW)/\J (pre++[x]) j/\eR K W j)\/(e=Z3 (Z2 ZV)/\M (pre++[x]) j))
 (W:ZU) (a:ZP W b1 90 (Z6 (ZX ⟨ar,0,ZY⟩))) (g:bM W ar v D L G t f nn pg ob off) (u:bN K W pg P) (s:gE K W ob os) (w:J [] W) :
 CallsIn Fence.wide n ZO 124 #[.func (.yield l) #[] #[],Z6 (ZX ⟨b1,0,ZY⟩)] W λe j=>(∃ v,e=Z3 v) /\
  ((∃ ys,ys=P++ah os/\J ys j)\/(∃ pre,pre<+:P++ah os/\M pre j)):=by
 obtain ⟨ao,c,rfl,k0,z⟩:=id u;obtain ⟨c0,_,_,c7,U⟩:=g.cells;have V:=a.cell;refine callsIn_of_wp func124 rfl trivial ?_ rfl;simp only [ntmps124,XO,XS,XT,XU,XV,XW,XX,XY,XZ,XQ,XR];have H:=hide5 a g u s w;clear a g u s w z;gi_wp2;gi_loopw [10] (λp wr=>∃ k:Nat,p=Z7 Z9 (k:Nat)/\k<=P.length/\J (P.take k) wr/\eR K W wr)
  (λp _=>P.length-(intOf p).toNat)
 case atStart=>
  exact ⟨0,rfl,XL _,H.out.2.2.2.2,eR.refl _ _⟩
 case round=>
  clear c0 c7 U V;obtain ⟨k,rfl,hk,m,d⟩:=hrel;by_cases r:k<P.length
  . obtain ⟨hb,c',X,_,z⟩:=H.out.2.2.1.keep d;obtain ⟨b,bo,e2,hx,k6,hr⟩:=z (λe=>by rw [e] at r;simp at r);simp only [Value.slice.injEq] at X;obtain ⟨rfl,_,rfl⟩:=X;subst e2;have g1:=hr k r;obtain ⟨y,F⟩:=nM (P[k]);rw [F] at g1;obtain ⟨fn,tmps,assign,body,k5,hR⟩:=hY _ y _ m (by
     have a:=(YI (k+1) P).trans (Yq P (ah os));rwa [YJ,X6 r,F] at a)
    unfold pT at k5;have I:=hide4 m d hR F;clear m d hR z hr F;gi_wp2;refine ⟨λh=>(by cases h),I.out.2.2.1.mono ?_⟩;have C:P.take k++[y]=P.take (k+1):=(by rw [YJ,X6 r,I.out.2.2.2];rfl);rintro e W3 (⟨rfl,R,hq⟩|⟨rfl,O⟩)
    . rw [C] at R;have i:=hide2 R (I.out.2.1.trans hq);clear R hq C;gi_wp2;go_roundw
      case rel=>exact ⟨k+1,by go_num,by omega,i.out.1,i.out.2⟩
      case measure=>simp only [intOf];omega
    . rw [C] at O;have i:=hide O;clear O C;gi_wp2;refine bodyPost_ret (results_none rfl _ _ _) rfl ?_;exact ⟨⟨_,rfl⟩,.inr ⟨_,(YI (k+1) P).trans (Yq _ _),i.out⟩⟩
  . have hz:k=P.length:=(by omega);subst hz;rw [Yn] at m;obtain ⟨a,g,u,s,w⟩:=H.out;have hg:ZP wr b1 90 (Z6 (ZX ⟨ar,0,ZY⟩)):=(d.2 _ a.lt hv).trans a;have hh:=g.keep (d.2 _ g.lt hs);have Q:=s.keep d;obtain ⟨_,_,_,_,U⟩:=hh.cells;have V:=hg.cell;obtain ⟨q,o,rfl,hol,_⟩:=id Q;have T:=hide3 m d Q;clear m d a g u s w hg hh Q;gi_wp2;refine de (lV q os.length o wr) ?_;rintro e w2 ⟨rfl,rfl⟩;have E:bW wr (wr.alloc (Z4 #[.slice q os.length o] 119)):=bA wr _;have N:(wr.alloc (Z4 #[.slice q os.length o] 119)).cell? ⟨wr.heap.size,0,ZY⟩=ZX (.slice q os.length o):=(Boxed.new wr _ _).cell;obtain ⟨w2,S⟩:=nM (wr.alloc (Z4 #[.slice q os.length o] 119));rw [S] at E N;have hm:=hn _ _ _ T.out.1 E;have hi:=T.out.2.2.keep (eR.TF E);have Y:=lI K (n-1) l wr.heap.size (.slice q os.length o) os J M hn (P++ah os) (λpre x W1 hj hp=>G2 (hY pre x W1 hj hp)) P (Yr _) w2 N hi hm;have H2:=hide Y;clear E N hm hi Y;rw [S];clear S;gi_wp2;refine ⟨trivial,λh=>(by cases h),H2.out.mono ?_⟩;rintro e W3 ⟨⟨x,rfl⟩,Z⟩;have i:=hide Z;clear Z;gi_wp2;go_end0
    refine ⟨⟨_,rfl⟩,?_⟩;rcases i.out with h|⟨pre,a,h2⟩
    . exact .inl ⟨_,rfl,h⟩
    . exact .inr ⟨_,(List.prefix_append_right_inj _).2 a,h2⟩
def qF (K:Nat->Prop) (n b1 ar v D L G t f nn:Nat) (pg ob:ZT) (off:Bool) (P:List Nat) (os:List Ob) (m:K b1) (j:K ar) (w:ZU) (c:ZP w b1 90 (Z6 (ZX ⟨ar,0,ZY⟩))) (d:bM w ar v D L G t f nn pg ob off) (q:bN K w pg P) (o:gE K w ob os) :
 SeqStopsK Fence.wide n ZO 124 #[Z6 (ZX ⟨b1,0,ZY⟩)] pT (eR K) (λz=>z=P++ah os) (λpre=>pre<+:P++ah os) (P++ah os).length w:=λl J g W b p _ s i=>
 tM K n l b1 ar v D L G t f nn pg ob off P os m j J g (λpre A B h a=>p pre A B ZY h ⟨a.os,a.tape,a.output,a.size,λk u _=>a.block k u⟩ (λr e=>by cases e)) (λpre x W h y=>s pre x W h (N3 y)) W
  ((b.block _ c.lt).trans c) (d.keep (b.block _ d.lt)) (q.keep (eR.TF b)) (o.keep (eR.TF b)) i
end
theorem DE (h:aq w p A F):ZS ZO 66 #[Z6 (ZX ⟨p,0,ZY⟩)] w λe w'=>e=Z3 (Z7 Z9 A.n)/\w'=w:=by
 obtain ⟨a,c1,_,_⟩:=h.TS;go_enter func66,ntmps66;go_wp2;go_ret;exact ⟨rfl,rfl⟩
theorem ti (h:aq w p A F) (a:0<A.n):ZS ZO 39 #[Z6 (ZX ⟨p,0,ZY⟩)] w λe w'=>e=Z3 (Z7 Z9 A.nb)/\w'=w:=by
 obtain ⟨b,c1,_,_⟩:=h.TS;obtain ⟨c,d1,d,f⟩:=h.Ud 0 a;have g:¬ (A.n:Int)=0:=by omega
 have i:¬ A.n=0:=by omega
 have j:(0:Int)<(A.n:Int):=by omega
 rw [Nat.zero_mul,Ya] at d1;go_enter func39,ntmps39;go_wp2;go_ret;exact ⟨rfl,rfl⟩
theorem J3 (h:aA w p A F) (b:A.fit) (d:Nat) (a:d<A.n):ZS ZO 8 #[Z6 (ZX ⟨p,0,ZY⟩),Z7 Z9 d] w λe w'=>e=Z3 (Z0 #[])/\aA w' p (A.TP d ZW) F/\aa (F.has p A.n) w w':=by
 obtain ⟨c,c1,_,_⟩:=h.TS;obtain ⟨f,d1,g,i⟩:=h.Ud d a;have o:=b.n;have m:=h.Ug (d*4);have j:¬ (d:Int)<0:=by omega
 have k:(0:Int)<=(d:Int):=by omega
 have l:(d:Int)<(A.n:Int):=by omega
 go_enter func8,ntmps8;go_wp2;first|go_end0|skip
 exact ⟨rfl,h.TP d ZW,aa.setCell _ _ _ (.inr (.inl rfl))⟩
def J4 (h:aq w p A F) (_hf:A.fit) (d:Nat) (i:d<A.n):ZS ZO 8 #[Z6 (ZX ⟨p,0,ZY⟩),Z7 Z9 d] w λe w'=>e=Z3 (Z0 #[])/\aq w' p (A.TP d ZW) F/\aa (F.has p A.n) w w':=by
 obtain ⟨R,f,b,a⟩:=h;refine (J3 f b d (by rw [a.n];exact i)).mono ?_;rintro e w' ⟨rfl,g,c⟩;rw [a.n] at c;exact ⟨rfl,⟨_,g,b.TP _ _,a.V3 d⟩,c⟩
theorem tN (n m:Nat) (g:n<=1000000000) (c:1<=m/\m<=1000000) (w:ZU):ZS ZO 118 #[Z7 Z9 n,Z7 Z9 m] w λe w'=>e=Z3 (Z7 Z9 (((n+m-1)/m:Nat):Int))/\w'=w:=by
 obtain ⟨h,i⟩:=c;have a:(((n+m-1)/m:Nat):Int)=((n:Int)+m-1)/(m:Int):=by rw [Int.natCast_ediv,show ((n+m-1:Nat):Int)=(n:Int)+m-1 by omega]
 have d:Int.tdiv ((n:Int)+m-1) (m:Int)=((n:Int)+m-1)/(m:Int):=Int.tdiv_eq_ediv_of_nonneg (by omega);have f:¬ (m:Int)=0:=by omega
 have b:wrap64 (((n:Int)+m-1)/(m:Int))=((n:Int)+m-1)/(m:Int):=by rw [<- a];exact nj (XI (YB _ _) (by omega))
 rw [a];go_enter func118,ntmps118;go_wp2;go_ret;exact ⟨congrArg (λx=>Ending.returned (Z7 Z9 x)) b,rfl⟩
def pgs (D m:Nat):Nat:=max 1 ((m+(D*44-4)-1)/(D*44-4))
theorem jj {a:Nat} (r:bM w a v D' L' G' t f n pg ob off) (h:bt w v p D L G ps ho) (l:1<=D) (o:D<=1000) (m:Nat) (s:m<=1000000000):ZS ZO 83 #[Z6 (ZX ⟨a,0,ZY⟩),Z7 Z9 m] w λe w'=>e=Z3 (Z7 Z9 (pgs D m:Nat))/\w'=w:=by
 have c:=tN m (D*44-4) s ⟨by omega,by omega⟩ w;obtain ⟨q,d⟩:=nM ((m+(D*44-4)-1)/(D*44-4));rw [d] at c;have i:pgs D m=max 1 q:=by unfold pgs;rw [d]
 rw [i];have u:∀ b k w,(Builtin.max_ b k #[Z7 Z9 1,Z7 Z9 (q:Nat)]).run ZO w=.ok (Z7 Z9 ((max 1 q:Nat):Int)) w:=λb k w=>by
  rw [lE];by_cases g:(q:Int)>1
  . rw [if_pos g,Nat.max_eq_right (by omega)]
  . rw [if_neg g,Nat.max_eq_left (by omega)];rfl
 have j:=oL r h l o;have H:=hide2 c j;clear c j i d;go_enter func83,ntmps83;go_wp2_with fail;refine H.out.2.mono ?_;rintro e w' ⟨rfl,rfl⟩;generalize ((D*44-4:Nat):Int)=x at *;go_wp2_with fail;refine H.out.1.mono ?_;rintro e w' ⟨rfl,rfl⟩;go_wp2;go_ret;exact ⟨rfl,rfl⟩
theorem m6 (f:bt w v p D L G ps ho) (h:aq w p A F) (c:A.fit) (d:0<A.n):ZS ZO 139 #[Z6 (ZX ⟨v,0,ZY⟩)] w λe w'=>e=Z3 (Z7 Z9 A.nb)/\w'=w:=by
 obtain ⟨i,_⟩:=f.cells;have g:=c.nb;have a:=ti h d;obtain ⟨nb,b⟩:=nM (A.nb);rw [b] at a g ⊢;clear h c d b;have j:¬ (2147483647:Int)<(nb:Int):=by omega
 go_enter func139,ntmps139;go_wp2_with fail;refine a.mono ?_;rintro e w' ⟨rfl,rfl⟩;go_wp2;go_ret;exact ⟨rfl,rfl⟩
section
attribute [local go_sem] Oper.semAt_some
def jI (nb:Nat) (s:(Nat->Bool)×Bool) (x:Nat):(Nat->Bool)×Bool:=if x<2\/nb<=x\/s.1 x=ZW then (s.1,ZV) else (λj=>if j=x then ZW else s.1 j,s.2)
def tk (nb:Nat) (l:List Nat):(Nat->Bool)×Bool:=l.foldl (jI nb) (λ_=>ZV,ZW)
def sj (nb:Nat) (l:List Nat) (x:Nat):tk nb (l++[x])=jI nb (tk nb l) x:=by simp [tk]
def Tryz.UU:(ZO.info? 4).map (λi=>(i.zero,i.size,i.bytes))=ZX (ZX (Z2 ZV),1,1):=by kernel_rfl
theorem qG (w:ZU) {F:Fence} {m:Nat} {ops:Array Oper} {rest:List Oper} {o:Oper} {a:Act} {Q:Exit->Act->ZU->Prop}
 (i:o.guard=ZY) (l c:Operand) (b:o.op=Op.makeSlice 59 l c) (C:Int) (n:Nat) (j:a.eval l=Z7 Z9 C) (g:a.eval c=Z7 Z9 C) (f:C=(n:Int)) (k:n<=1000000000)
 (hK:∀ w',w'.rowIs w.heap.size 4 n (λ_=>Z2 ZV)->bW w w'->w'.heap.size=w.heap.size+1->wpListIn F m ZO ops Q rest (a.put o.dst (Z5 (ZX ⟨w.heap.size,0,ZY⟩) n n)) w') :
 wpListIn F m ZO ops Q (o::rest) a w:=by
 refine wpListIn_plain i λK e=>?_;have d:=run_make_row' (P:=ZO) 59 4 (Z2 ZV) 1 underlying59 Tryz.UU rfl .i64 .i64 n (by omega) (by omega) w;subst f;unfold Oper.wpIn;refine ⟨by simp [Oper.about,b],?_⟩;rw [Oper.semAt_plain F _ _ (by rw [b];intro c h;cases h)];simp [execOp,b,j,g,d,Result.andThen];exact e _ _ (hK _ (World.rowIs_made w _ n _) (bA _ _) (nblk_alloc _ _))
structure Py (w:ZU) (g nb B:Nat) (pre:List Nat) (X:ZU):Prop where
 row:X.rowIs g 4 nb (λj=>Z2 ((tk nb pre).1 j))
 box:ZP X (g+1) 59 (Z5 (ZX ⟨g,0,ZY⟩) nb nb)
 ok:ZP X (g+1+1) 4 (Z2 (tk nb pre).2)
 below:bW w X
 size:B<=X.heap.size
def Py.own (l:g+3<=B) (m:w.heap.size<=B):OwnFrom B (Py w g nb B):=by
 rintro pre X Y row ⟨f,h,i,c,j⟩ b d;have a:∀ k,k<B->Y.heap[k]?=X.heap[k]?:=λk a=>b.block k (by omega) (λe=>by have:=(d k e.symm).1;omega);exact ⟨f.of_block (a _ (by omega)),(a _ (by omega)).trans h,(a _ (by omega)).trans i,c.grown b c.size (λk e=>by have:=(d k e).1;omega),XI j b.size⟩
def tP {fn:Func} {Z:ZU} {u:Nat} {x y:ZT} (f:fn.results=#[.tmp t,.tmp u]) (b:a.defers=[{ target:=.collected D',args:=#[] }]) (hx:a.tmps.getD t ZZ=x) (hy:a.tmps.getD u ZZ=y)
 (hK:Z.heap[D']?=ZX (.deferred (ZX []))) (hR:R (Z3 (Z0 #[x,y])) (Z.putObj D' (.deferred ZY))):bodyPostM Fence.wide n ZO fn R .ret a Z:=by
 obtain ⟨c,g⟩:=a;simp only at b hx hy;subst b;refine ⟨by simp,.inl ⟨_,_,rfl,run_takeDeferred hK,?_⟩⟩;refine ⟨Z0 #[x,y],?_,hR⟩;have d:c[t]?.getD ZZ=x:=by simpa using hx
 have e:c[u]?.getD ZZ=y:=by simpa using hy
 simp [results,f,d,e]
theorem G3 (O:bM w ar v D' L' G' t f nn pg ob off) (hV:bt w v p D L G ps ho) (h:aq w p A F) (hf:A.fit) (hn:0<A.n) (P:List Nat) (os:List Ob) (hP:bN (λk=>k<w.heap.size) w pg P) (hC:gE (λk=>k<w.heap.size) w ob os) :
 ZS ZO 148 #[Z6 (ZX ⟨ar,0,ZY⟩)] w λe w'=>∃ g,e=Z3 (Z0 #[Z5 (ZX ⟨g,0,ZY⟩) A.nb A.nb,Z2 (tk A.nb (P++ah os)).2])/\w.heap.size<=g/\w'.rowIs g 4 A.nb (λj=>Z2 ((tk A.nb (P++ah os)).1 j))/\bW w w':=by
 obtain ⟨n,HN⟩:∃ n:Nat,Hid (9<=n):=⟨9,XJ _⟩;obtain ⟨c0,_⟩:=O.cells;have R:=m6 hV h hf hn;have kc:=hf.nb;obtain ⟨nb,h7⟩:=nM (A.nb);rw [h7] at R kc ⊢;clear h7;have C:=hide4 O hP hC R;clear O hP hC R;refine (callsIn_wide (n:=n)).1 ?_;refine callsIn_of_wp_marks func148 rfl trivial ?_ rfl;simp only [ntmps148,XO,XS,XT,XU,XV,XW,XX,XY,XZ,XQ,XR];gi_wp2;refine de C.out.2.2.2 ?_;rintro e w1 ⟨rfl,rfl⟩;gi_wp2_with (gi_at_make;refine qG _ rfl (Z1 11) (Z1 11) rfl _ nb (by rfl) (by rfl) rfl (by omega) ?_;intro w2 h6 hs J)
 obtain ⟨d,B⟩:=nM ((w2.alloc (Z4 #[Z5 (ZX ⟨w1.heap.size,0,ZY⟩) nb nb] 59)).alloc (Z4 #[Z2 ZW] 4));have k6:d.heap.size=w1.heap.size+3:=by rw [<- B];simp [J]
 have hv:bW w1 d:=by rw [<- B];exact (hs.alloc (by omega) _).alloc (by simp;omega) _
 have hr:d.rowIs w1.heap.size 4 nb (λ_=>Z2 ZV):=by rw [<- B];exact (h6.alloc _).alloc _
 have hm:ZP d (w1.heap.size+1) 59 (Z5 (ZX ⟨w1.heap.size,0,ZY⟩) nb nb):=by
  rw [<- B];have:=Boxed.new w2 59 (Z5 (ZX ⟨w1.heap.size,0,ZY⟩) nb nb);rw [J] at this;exact this.alloc _
 have hq:ZP d (w1.heap.size+1+1) 4 (Z2 ZW):=by
  rw [<- B];have:=Boxed.new (w2.alloc (Z4 #[Z5 (ZX ⟨w1.heap.size,0,ZY⟩) nb nb] 59)) 4 (Z2 ZW);rw [World.size_alloc,J] at this;exact this
 rw [B];clear B h6 hs J c0 hV h;refine de (tL ar d) ?_;rintro e w' ⟨rfl,rfl⟩;have h5:ZP (d.alloc (Z4 #[Z6 (ZX ⟨ar,0,ZY⟩)] 90)) d.heap.size 90 (Z6 (ZX ⟨ar,0,ZY⟩)):=Boxed.new d _ _;have k7:(d.alloc (Z4 #[Z6 (ZX ⟨ar,0,ZY⟩)] 90)).heap.size=d.heap.size+1:=by simp
 have H:Py w1 w1.heap.size nb (d.heap.size+1) [] (d.alloc (Z4 #[Z6 (ZX ⟨ar,0,ZY⟩)] 90)):=⟨hr.alloc _,hm.alloc _,hq.alloc _,hv.alloc (by omega) _,by omega⟩;obtain ⟨s,hy⟩:=nM (d.alloc (Z4 #[Z6 (ZX ⟨ar,0,ZY⟩)] 90));have I:=hide4 h5 H k6 k7;clear h5 H k6 k7 hr hm hq hv;gi_wp2;rw [hy] at I;clear hy;obtain ⟨kg,kh,ki,kj⟩:d.heap.size<=w1.heap.size+3/\w1.heap.size+3<=d.heap.size/\s.heap.size<=d.heap.size+1/\d.heap.size+1<=s.heap.size:=by have:=I.out.2.2;omega
 have H:Py w1 w1.heap.size nb s.heap.size [] s:=by have:=I.out.2.1;exact ⟨this.row,this.box,this.ok,this.below,XJ _⟩
 have Q:∀ {v:ZT} {l:List Nat},bN (λk=>k<w1.heap.size) w1 v l->bN (λk=>k<w1.heap.size\/k=d.heap.size) w1 v l:=λ⟨ao,c,T,U,V⟩=>⟨ao,c,T,U,λK=>by obtain ⟨b,off,Y,Z,r3⟩:=V K;exact ⟨b,off,Y,.inl Z,r3⟩⟩;have ka:=Q C.out.2.1;have k8:gE (λk=>k<w1.heap.size\/k=d.heap.size) w1 ob os:=by
  obtain ⟨ao,c,T,U,V⟩:=C.out.2.2.1;refine ⟨ao,c,T,U,λK=>?_⟩;obtain ⟨b,off,Y,Z,r3,r4⟩:=V K;refine ⟨b,off,Y,.inl Z,r3,λi a=>?_⟩;obtain ⟨sv,s1,s2,s3,s4⟩:=r4 i a;exact ⟨sv,s1,s2,s3,Q s4⟩
 have N:=H.below;have HI:=hide H;clear H Q;refine wpIn_rangeFunc_ownG rfl (by have:=HN.out;omega) (gf:=124) (lb:=#[Z6 (ZX ⟨d.heap.size,0,ZY⟩)]) rfl trivial (enters_of func124 (by kernel_rfl) rfl)
  (qF (λk=>k<w1.heap.size\/k=d.heap.size) (n-1) d.heap.size ar v D' L' G' t f nn pg ob off P os (.inr rfl) (.inl C.out.1.lt) s I.out.1 (C.out.1.keep (N.block _ C.out.1.lt)) (ka.keep (eR.TF N)) (k8.keep (eR.TF N)))
  (λh k=>h.trans k) (λW l o o' K _ _ _=>⟨by simp [World.putObj],λk _ r=>World.putObj_heap_other (by rcases r with r|r<;>omega)⟩) (Below.refl _ _) (λ_=>rfl)
  (Py w1 w1.heap.size nb s.heap.size) (λ_ _ _=>False) (Py.own (by omega) (by omega)) (λ_ _ _ _ _ h _ _=>h.elim) HI.out
  (λx=>{ tmps:=#[Z6 (ZX ⟨ar,0,ZY⟩),ZZ,Z5 ZY 0 0,Z2 ZV,Z6 (ZX ⟨w1.heap.size+1,0,ZY⟩),Z6 (ZX ⟨w1.heap.size+1+1,0,ZY⟩),Z7 Z9 (x:Nat),Z6 (ZX ⟨ar,0,ZY⟩),Z6 (ZX ⟨ar,0,ZY⟩),Z6 (ZX ⟨ar,0,ZY⟩),Z6 (ZX ⟨v,0,ZY⟩),Z7 Z9 (nb:Nat),Z5 (ZX ⟨w1.heap.size,0,ZY⟩) nb nb,Z6 (ZX ⟨ar,0,ZY⟩),.func (.func 124) #[] #[Z6 (ZX ⟨d.heap.size,0,ZY⟩)],Z7 Z9 (x:Nat),ZZ,ZZ,ZZ,ZZ,ZZ,ZZ,ZZ,ZZ,ZZ,ZZ,ZZ,ZZ,ZZ,ZZ,ZZ,ZZ,ZZ,ZZ,ZZ],defers:=[] }) ?assign ?body ?done ?stop
 case assign=>
  intro l2 x X Kk hK;unfold pT;gi_wp2;exact hK
 case body=>
  rintro l2 pre x X a kb;have c1:=a.box.cell;have c2:=a.ok.cell;have f2:=a.ok.frozen;have E:=hide a;have hg:=a.size;have h1:tk nb (pre++[x])=((tk nb pre).1,ZV)->KeepsFrom s.heap.size X (X.setCell ⟨w1.heap.size+1+1,0,ZY⟩ (Z2 ZV))/\eR (λk=>k<w1.heap.size\/k=d.heap.size) X (X.setCell ⟨w1.heap.size+1+1,0,ZY⟩ (Z2 ZV))/\Py w1 w1.heap.size nb s.heap.size (pre++[x]) (X.setCell ⟨w1.heap.size+1+1,0,ZY⟩ (Z2 ZV)):=λm=>by
   have a:=E.out;refine ⟨(KeepsOthers.setCell _ _ _).from _,⟨by simp [World.setCell],λk _ r=>blk_setCell_other _ _ _ _ (by show k≠w1.heap.size+1+1;rcases r with r|r<;>omega)⟩,?_,?_,?_,?_,?_⟩
   . rw [m];exact a.row.of_block (blk_setCell_other _ _ _ _ (by show w1.heap.size≠w1.heap.size+1+1;omega))
   . exact (blk_setCell_other _ _ _ _ (by show w1.heap.size+1≠w1.heap.size+1+1;omega)).trans a.box
   . rw [m];exact a.ok.set _
   . exact a.below.setCell (p:=⟨w1.heap.size+1+1,0,ZY⟩) (by show w1.heap.size<=w1.heap.size+1+1;omega) _
   . simpa [World.setCell] using a.size
  have M:=hide h1;clear a h1 hg;by_cases hz:x<2
  . have e1:(x:Int)<2:=(by omega);have m:tk nb (pre++[x])=((tk nb pre).1,ZV):=(by rw [sj];unfold jI;rw [if_pos (.inl hz)]);have z:=hide m;clear m;gi_wp2;exact M.out z.out
  . have e1:¬ (x:Int)<2:=(by omega);by_cases k0:nb<=x
    . have e2:(x:Int)≥(nb:Int):=(by omega);have m:tk nb (pre++[x])=((tk nb pre).1,ZV):=(by rw [sj];unfold jI;rw [if_pos (.inr (.inl k0))]);have z:=hide m;clear m;gi_wp2;exact M.out z.out
    . have e2:¬ (x:Int)≥(nb:Int):=(by omega);have kf:x<nb:=(by omega);have c3:=E.out.row.cell (i:=x) kf;have f3:=E.out.row.frozen x;cases h9:(tk nb pre).1 x with
      | true=>
       rw [h9] at c3;have m:tk nb (pre++[x])=((tk nb pre).1,ZV):=(by rw [sj];unfold jI;rw [if_pos (.inr (.inr h9))]);have z:=hide m;clear m;gi_wp2;exact M.out z.out
      | false=>
       rw [h9] at c3;have m:tk nb (pre++[x])=(λj=>if j=x then ZW else (tk nb pre).1 j,(tk nb pre).2):=by
        rw [sj];unfold jI;rw [if_neg];rintro (q|q|q)
        . exact hz q
        . exact k0 q
        . rw [h9] at q;cases q
       have z:=hide m;clear m;gi_wp2;have m:=z.out;have a:=E.out;refine ⟨(KeepsOthers.setCell _ _ _).from _,⟨by simp [World.setCell],λk _ r=>blk_setCell_other _ _ _ _ (by show k≠w1.heap.size;rcases r with r|r<;>omega)⟩,?_,?_,?_,?_,?_⟩
       . rw [m];refine (a.row.set x (Z2 ZW)).congr λj hj=>?_;by_cases e:j=x
         . simp [e]
         . simp [e]
       . exact (blk_setCell_other _ _ _ _ (by show w1.heap.size+1≠w1.heap.size;omega)).trans a.box
       . rw [m];exact (blk_setCell_other _ _ _ _ (by show w1.heap.size+1+1≠w1.heap.size;omega)).trans a.ok
       . exact a.below.setCell (p:=⟨w1.heap.size,x,ZY⟩) lR _
       . simpa [World.setCell] using a.size
 case done=>
  rintro D1 xs X k9 k5 a hK;rw [k5] at a;have c1:=a.box.cell;have c2:=a.ok.cell;have E:=hide2 a hK;clear a hK k5;obtain ⟨tb,S⟩:=nM ((tk nb (P++ah os)).2);rw [S] at c2;have HT:=hide S;clear S;gi_wp2;gi_region
  gi_wp2;obtain ⟨a,hK⟩:=E.out;have hp:X.drew.heap[D1]?=ZX (.deferred (ZX [])):=hK;refine tP (t:=2) (u:=3) (x:=Z5 (ZX ⟨w1.heap.size,0,ZY⟩) nb nb) (y:=Z2 tb) results148 rfl rfl rfl hp ⟨w1.heap.size,by rw [HT.out],XJ _,?_,?_⟩
  . exact a.row.of_block (World.putObj_heap_other (w:=X.drew) (by omega))
  . exact Below.TO a.below.drew (by omega) (XK.1 hp).1 _
 case stop=>
  rintro D1 cc pre X k9 ke hx hK;exact hx.elim
end
section
attribute [local go_sem] Oper.semAt_some
def bj (T:Nat->Bool) (k:Nat):List Nat:=(XG k).filter (λj=>decide (2<=j) && !T j)
def qH (T:Nat->Bool):bj T 2=[]:=by simp [bj,X2]
theorem nL (T:Nat->Bool) (k:Nat):bj T (k+1)=bj T k++(if 2<=k/\T k=ZV then [k] else []):=by
 unfold bj;rw [X2,List.filter_append];congr 1;by_cases h:2<=k/\T k=ZV
 . rw [if_pos h];simp [h.1,h.2]
 . rw [if_neg h];by_cases a:2<=k
   . have:T k=ZW:=by cases q:T k<;>simp_all
     simp [this]
   . simp [a]
def kO (T:Nat->Bool) {k m:Nat} (h:k<=m):bj T k<+:bj T m:=by
 induction m with
 | zero=>rw [show k=0 by omega];exact Yr _
 | succ m ih=>
  by_cases e:k=m+1
  . rw [e];exact Yr _
  . rw [nL];exact (ih (by omega)).trans (Yq _ _)
theorem Bv (ar:Nat) (w:ZU) :
 ZS ZO 117 #[Z6 (ZX ⟨ar,0,ZY⟩)] w λe w'=>e=Z3 (.func (.func 147) #[] #[Z6 (ZX ⟨w.heap.size,0,ZY⟩)])/\w'=w.alloc (Z4 #[Z6 (ZX ⟨ar,0,ZY⟩)] 90):=by
 have a:∀ (fn:Fn) (first cap:Array ZT) (w:ZU),(Instr.makeFunc fn first cap).run ZO w=.ok (.func fn first cap) w:=λ_ _ _ _=>rfl;go_enter func117,ntmps117;go_wp2;go_ret;exact ⟨rfl,rfl⟩
def N9 (b0:Nat) (W W':ZU):Prop:=W.heap.size<=W'.heap.size/\∀ k o,b0<=k->W.heap[k]?=ZX o->o.isCells=ZW->W'.heap[k]?=ZX o
def N9.trans {a b c:ZU} (h:N9 b0 a b) (k:N9 b0 b c):N9 b0 a c:=⟨XI h.1 k.1,λi o d f e=>k.2 i o d (h.2 i o d f e) e⟩
def N9.row {W':ZU} (h:N9 b0 W W') {g n:Nat} {t:ZQ} {f:Nat->ZT} (d:b0<=g) (b:W.rowIs g t n f):W'.rowIs g t n f:=by
 obtain ⟨c,a,_⟩:=id b;exact b.of_block ((h.2 g _ d a rfl).trans a.symm)
theorem KW (Q:bM W ar v D' L' G' t f nn pg ob off) (V:bt W v p D L G ps ho) (h:aq W p A F) (y:A.fit) (Y:0<A.n) (P:List Nat) (os:List Ob) (S:bN (λk=>k<W.heap.size) W pg P) (R:gE (λk=>k<W.heap.size) W ob os)
 (n l b1 b0:Nat) (hq:b0<=W.heap.size) (J C:List Nat->ZU->Prop) (hc:∀ pre A B,J pre A->bW A B->J pre B)
 (s:∀ pre x W,J pre W->pre.length<(bj (tk A.nb (P++ah os)).1 A.nb).length->YieldAt Fence.wide (n-1) ZO l (pT x) W λe o=>(e=Z3 (Z2 ZW)/\J (pre++[x]) o/\N9 b0 W o)\/(e=Z3 (Z2 ZV)/\C (pre++[x]) o))
 (h1:W.cell? ⟨b1,0,ZY⟩=ZX (Z6 (ZX ⟨ar,0,ZY⟩))) (E:J [] W) :
 CallsIn Fence.wide n ZO 147 #[.func (.yield l) #[] #[],Z6 (ZX ⟨b1,0,ZY⟩)] W λe o=>(∃ v,e=Z3 v) /\
  ((∃ Z,Z=bj (tk A.nb (P++ah os)).1 A.nb/\J Z o)\/(∃ pre,pre<+:bj (tk A.nb (P++ah os)).1 A.nb/\C pre o)):=by
 have q:=G3 Q V h y Y P os S R;have hj:=y.nb;obtain ⟨nb,I⟩:=nM (A.nb);rw [I] at q hj s ⊢;obtain ⟨T,U⟩:=nM (tk nb (P++ah os));rw [U] at q s ⊢;obtain ⟨a,tr⟩:=T;simp only at q s ⊢;clear I U Q V h y Y S R;refine callsIn_of_wp func147 rfl trivial ?_ rfl;simp only [ntmps147,XO,XS,XT,XU,XV,XW,XX,XY,XZ,XQ,XR];gi_wp2;refine de q ?_;rintro e w1 ⟨g,rfl,hg,b,O⟩;have K:=hc _ _ _ E O;have z:=hide2 b K;clear b O K q E h1;gi_wp2;gi_loopw [5] (λp wr=>∃ k:Nat,p=Z7 Z9 (k:Nat)/\2<=k/\(k<=nb\/k=2)/\J (bj a k) wr/\wr.rowIs g 4 nb (λj=>Z2 (a j)))
  (λp _=>nb-(intOf p).toNat)
 case atStart=>
  exact ⟨2,rfl,XJ _,.inr rfl,by rw [qH];exact z.out.2,z.out.1⟩
 case round=>
  obtain ⟨k,rfl,hh,u,d,b⟩:=hrel;by_cases hi:k<nb
  . have c1:=b.cell (i:=k) hi;cases hm:a k with
    | true=>
     rw [hm] at c1;have c:bj a (k+1)=bj a k:=(by rw [nL,if_neg (by rw [hm];simp),List.append_nil]);rw [<- c] at d;have m:=hide2 d b;clear d b c hm;gi_wp2;refine ⟨λ_ h=>(by cases h),?_⟩;gi_wp2;go_roundw
     case rel=>exact ⟨k+1,by go_num,by omega,.inl (by omega),m.out.1,m.out.2⟩
     case measure=>simp only [intOf];omega
    | false=>
     rw [hm] at c1;have c:bj a k++[k]=bj a (k+1):=(by rw [nL,if_pos ⟨hh,hm⟩]);have X:(bj a k).length<(bj a nb).length:=by
      have:=(kO a (show k+1<=nb by omega)).length_le;rw [<- c,Ys] at this;simp at this;omega
     obtain ⟨fn,tmps,assign,body,hp,w⟩:=s _ k _ d X;unfold pT at hp;rw [c] at w;have m:=hide2 b w;clear d b w c hm X;gi_wp2;refine ⟨λh=>(by cases h),m.out.2.mono ?_⟩;rintro e W3 (⟨rfl,M,N⟩|⟨rfl,H⟩)
     . have r:=hide2 M (N.row (by omega) m.out.1);clear M N;gi_wp2;go_roundw
       case rel=>exact ⟨k+1,by go_num,by omega,.inl (by omega),r.out.1,r.out.2⟩
       case measure=>simp only [intOf];omega
     . have r:=hide H;clear H;gi_wp2;refine bodyPost_ret (results_none rfl _ _ _) rfl ?_;exact ⟨⟨_,rfl⟩,.inr ⟨_,kO a (show k+1<=nb by omega),r.out⟩⟩
  . have c:bj a k=bj a nb:=by
     rcases u with u|u
     . rw [show k=nb by omega]
     . subst u;rw [qH];exact (List.prefix_nil.1 (by have:=kO a (show nb<=2 by omega);rwa [qH] at this)).symm
    rw [c] at d;have m:=hide d;clear d c b;gi_wp2;go_end0
    exact ⟨⟨_,rfl⟩,.inl ⟨_,rfl,m.out⟩⟩
theorem D6 (y:bM w ar v D' L' G' t f nn pg ob off) (z:bt w v p D L G ps ho) (h:aq w p A F) (Q:A.fit) (T:0<A.n) (P:List Nat) (os:List Ob) (N:bN (λk=>k<w.heap.size) w pg P) (K:gE (λk=>k<w.heap.size) w ob os)
 (n b1:Nat) (d:b1<w.heap.size) (H:w.cell? ⟨b1,0,ZY⟩=ZX (Z6 (ZX ⟨ar,0,ZY⟩))) :
 SeqStopsK Fence.wide n ZO 147 #[Z6 (ZX ⟨b1,0,ZY⟩)] pT (N9 w.heap.size) (λys=>ys=bj (tk A.nb (P++ah os)).1 A.nb) (λpre=>pre<+:bj (tk A.nb (P++ah os)).1 A.nb) (bj (tk A.nb (P++ah os)).1 A.nb).length w:=λl J C W a M _ O E=>by
 have x:∀ {v:ZT} {l:List Nat},bN (λk=>k<w.heap.size) W v l->bN (λk=>k<W.heap.size) W v l:=λ⟨ao,c,j,m,o⟩=>⟨ao,c,j,m,λg=>by obtain ⟨b,off,q,s,u⟩:=o g;exact ⟨b,off,q,Yf s a.size,u⟩⟩;have I:gE (λk=>k<W.heap.size) W ob os:=by
  obtain ⟨ao,c,j,m,o⟩:=K.keep (eR.TF a);refine ⟨ao,c,j,m,λg=>?_⟩;obtain ⟨b,off,q,s,u,U⟩:=o g;refine ⟨b,off,q,Yf s a.size,u,λi R=>?_⟩;obtain ⟨sv,V,X,Y,Z⟩:=U i R;exact ⟨sv,V,X,Y,x Z⟩
 exact KW (y.keep (a.block _ y.lt)) (z.keep (a.block _ z.lt)) (h.below a lR) Q T P os (x (N.keep (eR.TF a))) I n l b1 w.heap.size a.size J C (λpre A B h d=>M pre A B ZY h ⟨d.os,d.tape,d.output,d.size,λk S _=>d.block k S⟩ (λr e=>by cases e)) O ((a.cell (p:=⟨b1,0,ZY⟩) d).trans H) E
end
section
attribute [local go_sem] Oper.semAt_some
def Aa (l:List Nat):List ZT:=l.map λ(x:Nat)=>Value.int .i64 (x:Int)
def Tryz.Uu:(ZO.info? 3).map (λi=>(i.zero,i.size,i.bytes))=ZX (ZX (Z7 Z9 0),1,8):=by kernel_rfl
structure Pz (w:ZU) (q count B:Nat) (pre:List Nat) (X:ZU):Prop where
 cnt:ZP X w.heap.size 3 (Z7 Z9 (count:Nat))
 box:ZP X q 41 (Z5 (ZX ⟨w.heap.size+1,0,ZY⟩) pre.length count)
 own:X.ownsRow (w.heap.size+1) 3 1 (Z5 (ZX ⟨w.heap.size+1,0,ZY⟩) pre.length count) pre.length (Aa pre)
 below:bW w X
 size:B<=X.heap.size
 le:pre.length<=count
def Pz.UW (l:w.heap.size+3<=B) (m:q<B):OwnFrom B (Pz w q count B):=by
 rintro pre X Y row ⟨f,g,h,d,i,j⟩ a c;have b:∀ k,k<B->Y.heap[k]?=X.heap[k]?:=λk b=>a.block k (by omega) (λe=>by have:=(c k e.symm).1;omega);exact ⟨(b _ (by omega)).trans f,(b _ (by omega)).trans g,lK h a λr e=>(c r e).2,d.grown a d.size (λk e=>by have:=(c k e).1;omega),XI i a.size,j⟩
def Rq (w:ZU) (q count B id:Nat) (c:Code) (pre':List Nat) (X:ZU):Prop:=c=.exit id/\∃ pre x,pre'=pre++[x]/\pre.length=count/\Pz w q count B pre X
def Rq.UW {id:Nat} (g:w.heap.size+3<=B) (i:q<B) (c:Code):OwnFrom B (Rq w q count B id c):=by
 rintro a X Y row ⟨b,pre,x,d,e,f⟩ h j;exact ⟨b,pre,x,d,e,Pz.UW g i pre X Y row f h j⟩
theorem lW (K:bM w ar v D' L' G' t f nn pg ob off) (M:bt w v p D L G ps ho) (h:aq w p A F) (hf:A.fit) (hn:0<A.n) (P:List Nat) (os:List Ob) (R:bN (λk=>k<w.heap.size) w pg P) (Q:gE (λk=>k<w.heap.size) w ob os) (count:Nat) (k7:count<=1000000) :
 ZS ZO 82 #[Z6 (ZX ⟨ar,0,ZY⟩),Z7 Z9 (count:Nat)] w λe w'=>∃ u,e=Z3 (Z0 #[u,Z2 (decide (count<=(bj (tk A.nb (P++ah os)).1 A.nb).length))]) /\
  w'.ownsRow w.heap.size 3 1 u ((bj (tk A.nb (P++ah os)).1 A.nb).take count).length (Aa ((bj (tk A.nb (P++ah os)).1 A.nb).take count))/\bW w w':=by
 obtain ⟨n,HN⟩:∃ n:Nat,Hid (9<=n):=⟨9,XJ _⟩;have H0:=hide5 K M h R Q;clear K M h R Q;refine (callsIn_wide (n:=n)).1 ?_;refine callsIn_of_wp_marks func82 rfl trivial ?_ rfl;simp only [ntmps82,XO,XS,XT,XU,XV,XW,XX,XY,XZ,XQ,XR];obtain ⟨i0,kx,qh,q6,qi⟩:=info_parts Tryz.Uu;have hr:(w.alloc (Z4 #[Z7 Z9 (count:Int)] 3)).heap.size=w.heap.size+1:=by simp
 have kr:bW w (w.alloc (Z4 #[Z7 Z9 (count:Int)] 3)):=bA w _;have km:ZP (w.alloc (Z4 #[Z7 Z9 (count:Int)] 3)) w.heap.size 3 (Z7 Z9 (count:Nat)):=Boxed.new w _ _;have z:=hide3 hr kr km;clear hr kr km;gi_wp2_with (gi_at_make;refine wpListIn_make_own _ rfl (.const (Z7 Z9 0)) (Z1 8) 41 rfl (w.heap.size+1) 3 i0 (Z7 Z9 0) 1 underlying41 kx qh q6 .i64 .i64 _ count (by rfl) (by rfl) rfl (by rw [qi];omega) (by unfold maxLen;omega) (by rw [z.out.1];exact XJ _) ?_;intro w2 Y hx)
 rw [z.out.1] at Y;have kj:=hx.size;rw [z.out.1] at kj;have qj:w.heap.size+1<w2.heap.size:=(Y.lt (w.heap.size+1) rfl).2;have hj:bW w w2:=z.out.2.1.grown hx (by rw [z.out.1];omega) (λk e=>by cases e);have h8:ZP w2 w.heap.size 3 (Z7 Z9 (count:Nat)):=(hx.block _ (by rw [z.out.1];omega) (by simp)).trans z.out.2.2;have h2:ZP (w2.alloc (Z4 #[Z5 (ZX ⟨w.heap.size+1,0,ZY⟩) 0 count] 41)) w2.heap.size 41 (Z5 (ZX ⟨w.heap.size+1,0,ZY⟩) 0 count):=Boxed.new w2 _ _;have hs:bW w2 (w2.alloc (Z4 #[Z5 (ZX ⟨w.heap.size+1,0,ZY⟩) 0 count] 41)):=bA w2 _;have hy:(w2.alloc (Z4 #[Z5 (ZX ⟨w.heap.size+1,0,ZY⟩) 0 count] 41)).heap.size=w2.heap.size+1:=by simp
 obtain ⟨d,q4⟩:=nM (w2.alloc (Z4 #[Z5 (ZX ⟨w.heap.size+1,0,ZY⟩) 0 count] 41));rw [q4] at h2 hs hy ⊢;refine de (Bv ar d) ?_;rintro e w' ⟨rfl,rfl⟩;have h5:(d.alloc (Z4 #[Z6 (ZX ⟨ar,0,ZY⟩)] 90)).cell? ⟨d.heap.size,0,ZY⟩=ZX (Z6 (ZX ⟨ar,0,ZY⟩)):=(Boxed.new d _ _).cell;have q7:(d.alloc (Z4 #[Z6 (ZX ⟨ar,0,ZY⟩)] 90)).heap.size=d.heap.size+1:=by simp
 have k5:bW d (d.alloc (Z4 #[Z6 (ZX ⟨ar,0,ZY⟩)] 90)):=bA d _;obtain ⟨g,T⟩:=nM (d.alloc (Z4 #[Z6 (ZX ⟨ar,0,ZY⟩)] 90));have V:bW w2 g:=by rw [<- T];exact hs.trans (k5.mono hs.size)
 have ha:bW w g:=hj.trans (V.mono (by omega));have ky:Pz w w2.heap.size count g.heap.size [] g:=⟨(V.block _ (by omega)).trans h8,by rw [<- T];exact (k5.block _ (by omega)).trans h2,aB Y V,ha,XJ _,XL _⟩;have q0:g.heap.size=w2.heap.size+2:=by rw [<- T,q7,hy]
 have S:=hide5 h5 ky ha hy q0;clear h5 ky q7 k5 V ha q0 h2 hs hy Y hx hj h8;gi_wp2;rw [T] at S;clear T q4;obtain ⟨qk,qm,qn,qo⟩:d.heap.size<=w2.heap.size+1/\w2.heap.size+1<=d.heap.size/\g.heap.size<=w2.heap.size+2/\w2.heap.size+2<=g.heap.size:=by have:=S.out.2.2.2;omega
 have C:=S.out.2.2.1;obtain ⟨K,M,h,R,Q⟩:=H0.out;have k0:∀ {v:ZT} {l:List Nat},bN (λk=>k<w.heap.size) g v l->bN (λk=>k<g.heap.size) g v l:=λ⟨ao,c,q1,q2,q3⟩=>⟨ao,c,q1,q2,λZ=>by obtain ⟨b,off,r1,r2,r3⟩:=q3 Z;exact ⟨b,off,r1,Yf r2 C.size,r3⟩⟩;have kp:=k0 (R.keep (eR.TF C));have ko:gE (λk=>k<g.heap.size) g ob os:=by
  obtain ⟨ao,c,q1,q2,q3⟩:=Q.keep (eR.TF C);refine ⟨ao,c,q1,q2,λZ=>?_⟩;obtain ⟨b,off,r1,r2,r3,r4⟩:=q3 Z;refine ⟨b,off,r1,Yf r2 C.size,r3,λi a=>?_⟩;obtain ⟨sv,s1,s2,s3,s4⟩:=r4 i a;exact ⟨sv,s1,s2,s3,k0 s4⟩
 have kf:=D6 (K.keep (C.block _ K.lt)) (M.keep (C.block _ M.lt)) (h.below C lR) hf hn P os kp ko (n-1) d.heap.size (by omega) S.out.1;obtain ⟨fr,k8⟩:=nM (bj (tk A.nb (P++ah os)).1 A.nb);rw [k8] at kf;have kk:=hide k8;have qa:=hide kf;clear k8 kf kp ko k0 K M h R Q;refine wpIn_rangeFunc_ownG rfl (by have:=HN.out;omega) (gf:=147) (lb:=#[Z6 (ZX ⟨d.heap.size,0,ZY⟩)]) rfl trivial (enters_of func147 (by kernel_rfl) rfl)
  qa.out (λh k=>h.trans k) (λW l o o' Z ho hc _=>⟨by simp [World.putObj],λk o2 _ m kv=>(World.putObj_heap_other (λe=>by subst e;rw [m] at ho;cases ho;rw [hc] at kv;cases kv)).trans m⟩) (Below.refl _ _) (λ_=>rfl)
  (Pz w w2.heap.size count g.heap.size) (Rq w w2.heap.size count g.heap.size 0) (Pz.UW (by omega) (by omega)) (Rq.UW (by omega) (by omega)) S.out.2.1
  (λx=>{ tmps:=#[Z6 (ZX ⟨ar,0,ZY⟩),Z7 Z9 (count:Nat),ZZ,Z6 (ZX ⟨w.heap.size,0,ZY⟩),Z5 ZY 0 0,Z2 ZV,Z6 (ZX ⟨w2.heap.size,0,ZY⟩),Z7 Z9 (x:Nat),Z7 Z9 (count:Nat),Z5 (ZX ⟨w.heap.size+1,0,ZY⟩) 0 count,Z6 (ZX ⟨ar,0,ZY⟩),.func (.func 147) #[] #[Z6 (ZX ⟨d.heap.size,0,ZY⟩)],Z7 Z9 (x:Nat),ZZ,ZZ,ZZ,ZZ,ZZ,ZZ,ZZ,ZZ,ZZ,ZZ,ZZ,ZZ,ZZ],defers:=[] }) ?assign ?body ?done ?stop
 case assign=>
  intro l2 x X Kk hK;unfold pT;gi_wp2;exact hK
 case body=>
  rintro l2 pre x X a qe;have c1:=a.cnt.cell;have I:=a.box.cell;have kb:=a.le;by_cases h3:pre.length=count
  . have e1:((pre.length:Nat):Int)=((count:Nat):Int):=(by omega);have B:=hide a;clear a;rw [h3] at I;gi_wp2;exact ⟨KeepsFrom.refl _ _,rfl,pre,x,rfl,h3,B.out⟩
  . have e1:¬ ((pre.length:Nat):Int)=((count:Nat):Int):=(by omega);obtain ⟨pl,H⟩:=nM (pre.length);have HO:Hid ((X.alloc (Z4 #[Z7 Z9 (x:Nat)] 3)).ownsRow (w.heap.size+1) 3 1 (Z5 (ZX ⟨w.heap.size+1,0,ZY⟩) pl count) pl (Aa pre)):=hide (by have:=aB a.own ((Below.refl _ X).alloc lR (Z4 #[Z7 Z9 (x:Nat)] 3));rwa [H] at this);have hm:∀ j u,[Value.int .i64 ((x:Nat):Int)][j]?=ZX u->(X.alloc (Z4 #[Z7 Z9 (x:Nat)] 3)).cell? ((⟨X.heap.size,0,ZY⟩:Addr).add j)=ZX u:=sH X (Z7 Z9 (x:Nat)) 3;have q9:=hide hm;have qg:w2.heap.size<X.heap.size:=(by have:=a.size;omega);have B:=hide2 a H;rw [H] at I e1 kb;have ks:ZP X w2.heap.size 41 (Z5 (ZX ⟨w.heap.size+1,0,ZY⟩) pl count):=(by have:=a.box;rwa [H] at this);have q8:=hide ks;clear a hm ks h3 H;gi_wp2_with (
     gi_at_builtin;
     refine wpListIn_append_fits _ rfl (Z1 17) (Z1 19) 41 rfl (w.heap.size+1) 3 i0 1 underlying41 kx q6 (w.heap.size+1) pl count (Aa pre) (by rfl) (by exact HO.out) ⟨X.heap.size,0,ZY⟩ 1 1 [Z7 Z9 (x:Nat)] (by rfl) rfl (by exact q9.out) (λu hu=>by simp at hu;subst hu;rfl) (by omega) ?_;
     intro U hp J;
     have hz:ZP U w2.heap.size 41 (Z5 (ZX ⟨w.heap.size+1,0,ZY⟩) pl count):=(J.block _ (by simp;omega) (λe=>by have:=Yt e;omega)).trans ((blk_alloc_lt _ _ _ qg).trans q8.out);
     have d0:=hz.cell;
     have f0:=hz.frozen)
    obtain ⟨a,H⟩:=B.out;have hv:∀ k,k<X.heap.size->k≠w.heap.size+1->U.heap[k]?=X.heap[k]?:=λk m qf=>(J.block k (by simp;omega) (λe=>qf (Yt e))).trans (blk_alloc_lt _ _ _ m);have kg:=J.size;simp only [World.size_alloc] at kg;have k9:∀ k,k≠w2.heap.size->(U.setCell ⟨w2.heap.size,0,ZY⟩ (Z5 (ZX ⟨w.heap.size+1,0,ZY⟩) (pl+1) count)).heap[k]?=U.heap[k]?:=λk m=>blk_setCell_other _ _ _ _ m;have h4:(pre++[x]).length=pl+1:=(by rw [Ys,H];rfl);have ka:Aa (pre++[x])=Aa pre++[Z7 Z9 (x:Nat)]:=(by unfold Aa;rw [X5];rfl);refine ⟨⟨by simp [World.setCell];omega,λk o m ho _=>?_⟩,⟨by simp [World.setCell];omega,λk o m ho _=>?_⟩,?_,?_,?_,?_,?_,?_⟩
    . exact ((k9 k (by omega)).trans (hv k (XK.1 ho).1 (by omega))).trans ho
    . exact ((k9 k (by omega)).trans (hv k (XK.1 ho).1 (by omega))).trans ho
    . exact ((k9 _ (by omega)).trans (hv _ (by omega) (by omega))).trans a.cnt
    . rw [h4];exact hz.set _
    . rw [h4,ka];exact hp.kept (te U w2.heap.size 0 _) (.inr λe=>by have q:w.heap.size+1=w2.heap.size:=Yt e;omega)
    . refine Below.setCell (p:=⟨w2.heap.size,0,ZY⟩) ?_ (by show w.heap.size<=w2.heap.size;omega) _;exact ⟨J.os.trans a.below.os,J.tape.trans a.below.tape,J.output.trans a.below.output,by have:=a.below.size;omega,λk m=>(hv k (by have:=a.below.size;omega) (by omega)).trans (a.below.block k m)⟩
    . have:=a.size;simp [World.setCell];omega
    . rw [h4];omega
 case done=>
  rintro O xs X qb q5 a hK;have ki:xs=fr:=q5;subst ki;have c1:=a.cnt.cell;have I:=a.box.cell;have kb:=a.le;have B:=hide2 a hK;clear a hK q5;obtain ⟨xl,N⟩:=nM (xs.length);rw [N] at I kb;have HL:=hide N;clear N;gi_wp2;gi_region
  gi_wp2;obtain ⟨a,hK⟩:=B.out;have N:=HL.out;have E:X.drew.heap[O]?=ZX (.deferred (ZX [])):=hK;have kh:xs.take count=xs:=Yp (by omega);have qc:decide (count<=xs.length)=(((xl:Nat):Int)==((count:Nat):Int)):=by
   by_cases e:xl=count
   . rw [decide_eq_true (by omega)];subst e;simp
   . rw [decide_eq_false (by omega)];have:¬ ((xl:Nat):Int)=((count:Nat):Int):=by omega
     simp [this]
  rw [kk.out,kh,qc];refine tP (t:=4) (u:=5) (x:=Z5 (ZX ⟨w.heap.size+1,0,ZY⟩) xl count) (y:=Z2 (((xl:Nat):Int)==((count:Nat):Int))) results82 rfl rfl rfl E ⟨_,rfl,?_,?_⟩
  . have ho:=a.own;rw [N] at ho;have kc:X.drew.ownsRow (w.heap.size+1) 3 1 (Z5 (ZX ⟨w.heap.size+1,0,ZY⟩) xl count) xl (Aa xs):=aB ho ((Below.refl _ X).drew);rw [N];exact cW (lK kc (grownBy_putObj' X.drew O (.deferred ZY)) λr e=>by cases e;exact ⟨_,E,rfl⟩) (by omega)
  . exact Below.TO a.below.drew (by omega) (XK.1 E).1 _
 case stop=>
  rintro O cc pre X qb ke ⟨rfl,s,x,rfl,k6,a⟩ hK;have c1:=a.cnt.cell;have I:=a.box.cell;have B:=hide2 a hK;rw [k6] at I;clear a hK;gi_wp2;gi_region
  gi_wp2;obtain ⟨a,hK⟩:=B.out;have E:X.drew.heap[O]?=ZX (.deferred (ZX [])):=hK;obtain ⟨rr,kz⟩:=ke;have kh:fr.take count=s:=by rw [<- kz,List.append_assoc,List.take_append_of_le_length (by omega),Yp (by omega)]
  have qd:count<=fr.length:=by rw [<- kz];simp;omega
  rw [kk.out,kh,decide_eq_true qd];refine tP (t:=4) (u:=5) (x:=Z5 (ZX ⟨w.heap.size+1,0,ZY⟩) count count) (y:=Z2 ZW) results82 rfl rfl rfl E ⟨_,rfl,?_,?_⟩
  . have ho:=a.own;rw [k6] at ho;have kc:X.drew.ownsRow (w.heap.size+1) 3 1 (Z5 (ZX ⟨w.heap.size+1,0,ZY⟩) count count) count (Aa s):=aB ho ((Below.refl _ X).drew);rw [k6];exact cW (lK kc (grownBy_putObj' X.drew O (.deferred ZY)) λr e=>by cases e;exact ⟨_,E,rfl⟩) (by omega)
  . exact Below.TO a.below.drew (by omega) (XK.1 E).1 _
end
def tQ (q:Nat):ZT:=.iface 270 (Z6 (ZX ⟨q,0,ZY⟩))
def iR (w:ZU) (q d b:Nat) (n:Int):Prop:=w.heap[q]?=ZX (Z4 #[Z7 Z9 d,Z7 Z9 b,Z7 Z9 n] 272 (0,0))
def iR.lt {n:Int} (h:iR w q d b n):q<w.heap.size:=(XK.1 h).1
def iR.cell {n:Int} (h:iR w q d b n):w.cell? ⟨q,2,ZY⟩=ZX (Z7 Z9 n):=by
 have a:w.heap[q]?=_:=h;simp [World.cell?,a]
def iR.new (w:ZU) (d b:Nat) (n:Int):iR (w.alloc (Z4 #[Z7 Z9 d,Z7 Z9 b,Z7 Z9 n] 272)) w.heap.size d b n:=blk_alloc_new w _
def iR.below {n:Int} (h:iR w q d b n) (a:bW w w'):iR w' q d b n:=(a.block _ h.lt).trans h
theorem wZ (h:aq w p A F) (g:A.fit) (d b:Nat) (f:d<A.n) (r:A.wait≠0) (i:A.lost d=ZW) :
 ZS ZO 174 #[Z6 (ZX ⟨p,0,ZY⟩),Z7 Z9 d,Z7 Z9 b] w λe w'=>e=Z3 (Z0 #[.pointer ZY,tQ w.heap.size])/\w'=w.alloc (Z4 #[Z7 Z9 d,Z7 Z9 b,Z7 Z9 11] 272):=by
 obtain ⟨j,c1,_,_⟩:=h.TS;obtain ⟨a,d1,k,l⟩:=h.Ud d f;rw [i] at a;have q:=g.n;have m:¬ (d:Int)<0:=by omega
 have o:¬ (A.n:Int)<=(d:Int):=by omega
 have c:(d:Int)<(A.n:Int):=by omega
 go_enter func174,ntmps174;go_wp2;go_ret2;exact ⟨rfl,rfl⟩
def KX (w:ZU) (d b:Nat) (mk:ZT->ZT) (e:ZR) (w':ZU):Prop:=∃ q,e=Z3 (mk (tQ q))/\w.heap.size<=q/\iR w' q d b 11/\bW w w'
def KY (w:ZU) (d b:Nat) (mk:ZT->ZT) (e:ZR) (w':ZU):Prop:=e=Z3 (mk (tQ (w.heap.size+1)))/\iR w' (w.heap.size+1) d b 11/\bW w w'
theorem G4 (h:aq w p A F) (E:A.fit) (d b:Nat) (D:d<A.n) (H:A.wait≠0) (s:A.lost d=ZW) :
 ZS ZO 159 #[Z6 (ZX ⟨p,0,ZY⟩),Z7 Z9 d,Z7 Z9 b] w (KY w d b (λx=>Z0 #[.agg (an zb),x])):=by
 have L:=zeroBlk;have m:=h.alloc (Z4 (an zb) 255);have a:=bJ.new w zb;have g:bW w (w.alloc (Z4 (an zb) 255)):=bA w _;obtain ⟨w1,o⟩:=nM (w.alloc (Z4 (an zb) 255));have J:w1.heap.size=w.heap.size+1:=by rw [<- o];simp
 rw [o] at m a g;have I:(an zb).size=64:=by rw [bB,bE]
 have y:=wZ m E d b D H s;have i:=hide2 a g;clear h m a g;go_enter func159,ntmps159;go_wp2_with fail;refine y.mono ?_;rintro e w2 ⟨rfl,r⟩;obtain ⟨a,g⟩:=i.out;have f:iR w2 w1.heap.size d b 11:=by rw [r];exact iR.new _ _ _ _
 have c:bW w1 w2:=by rw [r];exact bA w1 _
 have k:bJ w2 w.heap.size zb:=a.keep (c.block _ a.lt);obtain ⟨q,l⟩:=nM (w1.heap.size);rw [l] at f ⊢;unfold tQ;have t:=hide4 f c k l;clear a g f c k l r y o;go_wp2_with (refine gq rfl (Z1 6) (Z1 19) rfl w.heap.size zb zb rfl rfl t.out.2.2.1 bE bE ?_);obtain ⟨f,c,k,l⟩:=t.out;have B:=k.setRow zb;have C:=qU B bE;refine bodyPost_ret (v:=Z0 #[.agg (an zb),.iface 270 (Z6 (ZX ⟨q,0,ZY⟩))]) (iY results159 _ _ _ _ _ rfl rfl C) rfl ?_;have G:=i.out.2.size;have K:w.heap.size<w1.heap.size:=i.out.1.lt;have u:∀ j,j≠w.heap.size->j<w2.heap.size->(w2.setRow w.heap.size (an zb)).heap[j]?=w2.heap[j]?:=λj z s=>(aI w2 w.heap.size (an zb)).block j s (λe=>by cases e;exact z rfl);obtain rfl:q=w.heap.size+1:=by omega
 refine ⟨rfl,(u _ (by omega) f.lt).trans f,?_⟩;exact (i.out.2.trans (c.mono G)).trans ⟨rfl,rfl,rfl,by simp [World.setRow],λj z=>u j (by omega) (by have:=c.size;omega)⟩
theorem D7 (h:aq w p A F) (u:A.fit) (d b:Nat) (t:d<A.n) (y:A.wait≠0) (v:A.lost d=ZW) (l:List Nat) (s:l.length=64) :
 ZS ZO 155 #[Z6 (ZX ⟨p,0,ZY⟩),Z7 Z9 d,Z7 Z9 b,.agg (an l)] w (KX w d b (λx=>x)):=by
 have i:=h.alloc (Z4 (an l) 255);have j:bW w (w.alloc (Z4 (an l) 255)):=bA w _;obtain ⟨w1,m⟩:=nM (w.alloc (Z4 (an l) 255));rw [m] at i j;have z:(an l).size=64:=by rw [bB,s]
 have o:=wZ i u d b t y v;have g:=hide j;clear h i j;go_enter func155,ntmps155;go_wp2_with fail;refine o.mono ?_;rintro e w2 ⟨rfl,k⟩;have a:iR w2 w1.heap.size d b 11:=by rw [k];exact iR.new _ _ _ _
 have c:bW w1 w2:=by rw [k];exact bA w1 _
 obtain ⟨q,f⟩:=nM (w1.heap.size);rw [f] at a ⊢;unfold tQ;have r:=hide3 a c f;clear a c f k o m;go_wp2;go_ret;obtain ⟨a,c,f⟩:=r.out;exact ⟨q,rfl,by have:=g.out.size;omega,a,g.out.trans (c.mono g.out.size)⟩
def G5 (q:Nat) (m:Int) (w:ZU):(binOp .eql 63 (tQ q) (.iface 66 (Z7 Z9 m))).run ZO w=.ok (Z2 ZV) w:=by
 have a:∀ d,(Op.equalIn (d+1) 63 (.iface 270 (Z6 (ZX ⟨q,0,ZY⟩))) (.iface 66 (Z7 Z9 m))).run ZO w=.ok ZV w:=λd=>by
  rw [Op.equalIn];simp [Sem.run_bind,run_underlying underlying63,Result.andThen_ok]
 have b:=a 9999;unfold tQ;simp only [binOp];simp [Op.equal,Op.maxDepth,b]
theorem D8 {n:Int} (h:iR w q d b n):ZS ZO 254 #[Z6 (ZX ⟨q,0,ZY⟩)] w λe w'=>e=Z3 (.iface 66 (Z7 Z9 n))/\w'=w:=by
 have c:=h.cell;go_enter func254,ntmps254;go_wp2;go_ret;exact ⟨rfl,rfl⟩
theorem G6 {n:Int} (h:iR w q d b n) (m:Int):ZS ZO 107 #[tQ q,.iface 66 (Z7 Z9 m),Z2 ZW] w λe w'=>e=Z3 (Z2 (n==m))/\w'=w:=by
 have f:=G5 q m;have a:=wG n m;have b1:∀ w:ZU,(Instr.typeAssert (tQ q) 63 239 ZW).run ZO w=.ok (Z0 #[.nilIface,Z2 ZV]) w:=λw=>run_typeAssert_lacksB underlying239 (by kernel_rfl) (by kernel_rfl) _ _ w;have b2:∀ w:ZU,(Instr.typeAssert (tQ q) 63 156 ZW).run ZO w=.ok (Z0 #[tQ q,Z2 ZW]) w:=λw=>run_typeAssert_hasB underlying156 (by kernel_rfl) _ _ w;have g:∀ w:ZU,(Instr.typeAssert (.iface 66 (Z7 Z9 n)) 63 239 ZW).run ZO w=.ok (Z0 #[.nilIface,Z2 ZV]) w:=λw=>run_typeAssert_lacksB underlying239 (by kernel_rfl) (by kernel_rfl) _ _ w;have i:∀ w:ZU,(Instr.typeAssert (.iface 66 (Z7 Z9 n)) 63 156 ZW).run ZO w=.ok (Z0 #[.nilIface,Z2 ZV]) w:=λw=>run_typeAssert_lacksB underlying156 (by kernel_rfl) (by kernel_rfl) _ _ w;have j:∀ w:ZU,(Instr.typeAssert (.iface 66 (Z7 Z9 n)) 63 157 ZW).run ZO w=.ok (Z0 #[.nilIface,Z2 ZV]) w:=λw=>run_typeAssert_lacksB underlying157 (by kernel_rfl) (by kernel_rfl) _ _ w;have k:∀ w:ZU,(Go.method 461 270 (Z6 (ZX ⟨q,0,ZY⟩)) "Unwrap").run ZO w=.ok (254,Z6 (ZX ⟨q,0,ZY⟩)) w:=λw=>by kernel_rfl
 have c:=D8 h;unfold tQ at f b1 b2 ⊢;clear h;cases h2:(n==m)
 . rw [h2] at a;go_enter func107,ntmps107;go_wp2;refine wp_loop_rounds 2 ?_;rw [rounds_succ];go_wp2_with fail;refine c.mono ?_;rintro e w' ⟨rfl,rfl⟩;go_wp2;rw [rounds_succ];go_wp2;go_ret;exact ⟨rfl,rfl⟩
 . rw [h2] at a;go_enter func107,ntmps107;go_wp2;refine wp_loop_rounds 2 ?_;rw [rounds_succ];go_wp2_with fail;refine c.mono ?_;rintro e w' ⟨rfl,rfl⟩;go_wp2;rw [rounds_succ];go_wp2;go_ret;exact ⟨rfl,rfl⟩
theorem By {n:Int} (h:iR w q d b n) (m:Int):ZS ZO 72 #[tQ q,.iface 66 (Z7 Z9 m)] w λe w'=>e=Z3 (Z2 (n==m))/\w'=w:=by
 have g:=Tryz.Ur (Z7 Z9 m);have c := @run_callFunc_extern ZO 78 _ Extern.ReflectliteType.typeOf func78 (by kernel_rfl) (by kernel_rfl) (by kernel_rfl) (by kernel_rfl);have i:∀ (h:ZT) (w:ZU),(Go.method 461 148 (.agg #[h]) "Comparable").run ZO w=.ok (241,.agg #[h]) w:=λh w=>by kernel_rfl
 have f:∀ w:ZU,(callFunc 241 #[.agg #[Z6 (ZX ⟨3,66,ZY⟩)]]).run ZO w=.ok (.value (Z2 ZW)) w:=λw=>by kernel_rfl
 have a:=G6 h m;unfold tQ at a ⊢;clear h;generalize (n==m)=nm at a ⊢;go_enter func72,ntmps72;go_wp2_with fail;refine a.mono ?_;rintro e w' ⟨rfl,rfl⟩;go_wp2;go_ret;exact ⟨rfl,rfl⟩
theorem tR {n:Int} (h:iR w q d b n) (c:n≠13):ZS ZO 157 #[tQ q] w λe w'=>e=Z3 (Z0 #[])/\w'=w:=by
 have a:=By h 13;rw [show (n==13)=ZV from by simpa using c] at a;unfold tQ at a ⊢;clear h;go_enter func157,ntmps157;go_wp2_with fail;refine a.mono ?_;rintro e w' ⟨rfl,rfl⟩;go_wp2;first|go_end0|skip
 exact ⟨rfl,rfl⟩
theorem zw (B:bt w v p D L G ps ho) (h:aq w p A F) (K:A.fit) (d b:Nat) (J:d<A.n) (N:A.wait≠0) (u:A.lost d=ZW) :
 ZS ZO 137 #[Z6 (ZX ⟨v,0,ZY⟩),Z7 Z9 d,Z7 Z9 b] w (KY w d b (λx=>Z0 #[.nilIface,x])):=by
 obtain ⟨I,_⟩:=B.cells;have Q:=zeroBlk;have O:(an zb).size=64:=by rw [bB,bE]
 have C:=G4 h K d b J N u;clear B h;go_enter func137,ntmps137;go_wp2_with fail;refine C.mono ?_;rintro e w1 ⟨rfl,o,l⟩;obtain ⟨q,f⟩:=nM (w.heap.size+1);have i:w.heap.size<=q:=by omega
 rw [f] at o ⊢;have M:=hide f;clear f;have m:=bJ.new w1 zb;have a:iR (w1.alloc (Z4 (an zb) 255)) q d b 11:=o.below (bA w1 _);have c:bW w (w1.alloc (Z4 (an zb) 255)):=l.alloc l.size _;have g:q≠w1.heap.size:=by have:=o.lt;omega
 have P:=l.size;unfold tQ;have y:=hide5 m a c g i;clear C o l m a c g i I;go_wp2_with (refine gq rfl (Z1 8) (Z1 20) rfl w1.heap.size zb zb rfl rfl y.out.1 bE bE ?_);obtain ⟨m,a,c,g,i⟩:=y.out;have r:∀ j,j≠w1.heap.size->j<(w1.alloc (Z4 (an zb) 255)).heap.size->((w1.alloc (Z4 (an zb) 255)).setRow w1.heap.size (an zb)).heap[j]?=(w1.alloc (Z4 (an zb) 255)).heap[j]?:=λj H u=>(aI _ w1.heap.size (an zb)).block j u (λe=>by cases e;exact H rfl);have k:iR ((w1.alloc (Z4 (an zb) 255)).setRow w1.heap.size (an zb)) q d b 11:=(r q g a.lt).trans a;have s:bW w ((w1.alloc (Z4 (an zb) 255)).setRow w1.heap.size (an zb)):=c.trans ⟨rfl,rfl,rfl,by simp [World.setRow],λj H=>r j (by omega) (by simp;omega)⟩;obtain ⟨R,E⟩:=nM ((w1.alloc (Z4 (an zb) 255)).setRow w1.heap.size (an zb));rw [E] at k s ⊢;have t:=tR k (by decide);unfold tQ at t;have z:=hide3 k s i;clear m a c g i r k s E;refine t.mono ?_;rintro e S ⟨rfl,rfl⟩;clear t;go_wp2;go_ret2;have f:=M.out;subst f;exact ⟨rfl,z.out.1,z.out.2.1⟩
theorem Bz (h:bt w v p D L G ps ho) (d b:Nat) (r:aX) (q:jc r) (i:bk w) (R:ZT->ZU->Prop)
 (g:∀ w1,bW w w1->ZS ZO 155 #[Z6 (ZX ⟨p,0,ZY⟩),Z7 Z9 d,Z7 Z9 b,.agg (an r.blk)] w1 λe w2=>∃ x,e=Z3 x/\R x w2)
 (n:∀ x w2,R x w2->ZS ZO 157 #[x] w2 λe w'=>e=Z3 (Z0 #[])/\w'=w2) :
 ZS ZO 130 #[Z6 (ZX ⟨v,0,ZY⟩),Z7 Z9 d,Z7 Z9 b,br r] w λe w'=>∃ x,e=Z3 x/\R x w':=by
 obtain ⟨j,_⟩:=h.cells;obtain ⟨rv,m⟩:=nM (br r);have c:=q w.drew (i.below ((Below.refl _ w).drew) i.lt);simp only [m] at c ⊢;obtain ⟨z,l⟩:=nM (an r.blk);simp only [l] at c g;have k:∀ w',bW w w'->w'.cell? ⟨v,0,ZY⟩=ZX (Z6 (ZX ⟨p,0,ZY⟩)):=λw' t=>(t.cell (p:=⟨v,0,ZY⟩) h.lt).trans j;have H:=hide3 g n k;clear g n h m l q i k;go_enter func130,ntmps130;go_upto_region 1 with fail;go_cut [9] from 10 to 21 (λu y=>R u y)
 case first=>
  go_region_with (first
   | (go_at_call 156;refine c.mono ?_;rintro e w1 ⟨rfl,f⟩;have c1:=H.out.2.2 w1 (((Below.refl _ w).drew).trans f);have s:=hide (((Below.refl _ w).drew).trans f);clear f)
   | (go_at_call 155;refine (H.out.1 w1 s.out).mono ?_;rintro e w2 ⟨x,rfl,o⟩;have a:=hide o;clear o))
  all_goals (go_wp2_with fail;go_meet;case rel=>exact a.out)
 case rest=>
  have a:=hide hcut;clear hcut c j;go_wp2_with fail;refine (H.out.2.1 _ _ a.out).mono ?_;rintro e w' ⟨rfl,rfl⟩;go_wp2;go_ret;exact ⟨_,rfl,a.out⟩
def m7 (k:bt w v p D L G ps ho) (h:aq w p A F) (m:A.fit) (d b:Nat) (l:d<A.n) (z:A.wait≠0) (o:A.lost d=ZW) (r:aX) (u:r.ok) (s:jc r) (y:bk w) :
 ZS ZO 130 #[Z6 (ZX ⟨v,0,ZY⟩),Z7 Z9 d,Z7 Z9 b,br r] w (KX w d b (λx=>x)):=by
 refine (Bz k d b r s y (λx w2=>∃ q,x=tQ q/\w.heap.size<=q/\iR w2 q d b 11/\bW w w2) (λw1 a=>(D7 (h.below a lR) m d b l z o r.blk (eJ u)).mono ?_) ?_).mono ?_
 . rintro e w2 ⟨q,rfl,t,c,j⟩;exact ⟨_,rfl,q,rfl,XI a.size t,c,a.trans (j.mono a.size)⟩
 . rintro x w2 ⟨q,rfl,_,c,_⟩;exact tR c (by decide)
 . rintro e w2 ⟨x,rfl,q,rfl,f,g,i⟩;exact ⟨q,rfl,f,g,i⟩
section
attribute [local go_sem] Oper.semAt_some
def bH (A:ay) (ds:List Nat):Nat:=ds.foldl (λs d=>if A.lost d=ZW then s|||2^d else s) 0
def kQ (A:ay) (ds:List Nat) (d:Nat) (h:A.lost d=ZV):bH A (ds++[d])=bH A ds:=by unfold bH;rw [YK];simp [h]
def j1 (A:ay) (ds:List Nat) (d:Nat) (h:A.lost d=ZW):bH A (ds++[d])=bH A ds|||2^d:=by unfold bH;rw [YK];simp [h]
theorem pq (A:ay) (ds:List Nat) (h:∀ d∈ds,d<16):bH A ds<65536:=by
 unfold bH;suffices ∀ (l:List Nat) (s:Nat),(∀ d∈l,d<16)->s<65536->l.foldl (λs d=>if A.lost d=ZW then s|||2^d else s) s<65536 from this ds 0 h (by decide)
 intro l;induction l with
 | nil=>intro s _ a;exact a
 | cons d l ih=>
  intro s b a;refine ih _ (λx c=>b x (by simp [c])) ?_;show (if A.lost d=ZW then s|||2^d else s)<65536;split
  . exact Nat.or_lt_two_pow (n:=16) a (Nat.pow_lt_pow_right (by decide) (b d (by simp)))
  . exact a
def xt {ds:List Nat} (h:∀ d∈ds,A.lost d=ZV):bH A ds=0:=by
 unfold bH;suffices ∀ (l:List Nat),(∀ d∈l,A.lost d=ZV)->l.foldl (λs d=>if A.lost d=ZW then s|||2^d else s) 0=0 from this ds h
 intro l;induction l with
 | nil=>intro _;rfl
 | cons d l ih=>
  intro a;rw [YL,a d (by simp)];exact ih (λx b=>a x (by simp [b]))
structure QV (w:ZU) (v p b:Nat) (r:aX) (A:ay) (F:bh) (B S:Nat) (pre:List (Mb S)) (X:ZU):Prop where
 b0:ZP X w.heap.size 115 (Z6 (ZX ⟨v,0,ZY⟩))
 b1:ZP X (w.heap.size+1) 3 (Z7 Z9 b)
 b2:ZP X (w.heap.size+1+1) 219 (br r)
 b3:ZP X (w.heap.size+1+1+1) 124 (Z7 Z8 (bH A (cE pre):Nat))
 arr:aq X p (A.putAt (cE pre) b (λ_=>r.blk)) F
 out:aa (F.has p A.n) w X
 size:B<=X.heap.size
def QV.own {r:aX} (u:w.heap.size+4<=B) (s:∀ k,F.has p A.n k->k<w.heap.size):OwnFrom B (QV w v p b r A F B S):=by
 rintro pre X Y row ⟨d,f,g,h,i,j,l⟩ c t;have a:∀ k,k<w.heap.size+4->Y.heap[k]?=X.heap[k]?:=λk a=>c.block k (by omega) (λe=>by have:=(t k e.symm).1;omega);exact ⟨(a _ (by omega)).trans d,(a _ (by omega)).trans f,(a _ (by omega)).trans g,(a _ (by omega)).trans h,i.keep λk m=>a k (by have:=s k m;omega),j.later (T:=λk=>w.heap.size<=k) ⟨c.os,c.tape,c.output,c.size,λk o q=>a k (by omega)⟩ (λk o q=>by omega),XI l c.size⟩
theorem lq (m:nF w v p D L G ps ho A F) (O:jT F p A.n v) (hf:A.fit) (b S:Nat) (hb:b<A.nb) (hS:S<65536) (k7:∀ i,i∈ab S->i<A.n) (hw:A.wait<0)
 (r:aX) (Y:r.ok) (hm:jc r) :
 ZS ZO 122 #[Z6 (ZX ⟨v,0,ZY⟩),Z7 Z9 b,br r,Z7 Z8 S] w λe w'=>e=Z3 (Z7 Z8 (bH A (ab S):Nat))/\aq w' p (A.putAt (ab S) b (λ_=>r.blk)) F/\aa (F.has p A.n) w w':=by
 obtain ⟨n,HN⟩:∃ n:Nat,Hid (9<=n):=⟨9,XJ _⟩;obtain ⟨rv,hv⟩:=nM (br r);have ky:∃ M K,rv=.iface M K:=by cases r<;>exact ⟨_,_,hv.symm⟩
 obtain ⟨M,K,rfl⟩:=ky;rw [hv];have N:=hide hv;clear hv;have W:∀ k,F.has p A.n k->k<w.heap.size:=λk l=>m.arr.TH l;have ko:=eJ Y;have kp:=jv Y;refine (callsIn_wide (n:=n)).1 ?_;refine callsIn_of_wp_marks func122 rfl trivial ?_ rfl;simp only [ntmps122,XO,XS,XT,XU,XV,XW,XX,XY,XZ,XQ,XR];gi_wp2;obtain ⟨c,B⟩:=nM ((((w.alloc (Z4 #[Z6 (ZX ⟨v,0,ZY⟩)] 115)).alloc (Z4 #[Z7 Z9 (b:Int)] 3)).alloc (Z4 #[.iface M K] 219)).alloc (Z4 #[Z7 Z8 0] 124));have h0:ZP c w.heap.size 115 (Z6 (ZX ⟨v,0,ZY⟩)):=by rw [<- B];exact (((Boxed.new w _ _).alloc _).alloc _).alloc _
 have h1:ZP c (w.heap.size+1) 3 (Z7 Z9 b):=by
  rw [<- B];have:=Boxed.new (w.alloc (Z4 #[Z6 (ZX ⟨v,0,ZY⟩)] 115)) 3 (Z7 Z9 b);rw [World.size_alloc] at this;exact (this.alloc _).alloc _
 have h2:ZP c (w.heap.size+1+1) 219 (br r):=by
  rw [<- B,N.out];have:=Boxed.new ((w.alloc (Z4 #[Z6 (ZX ⟨v,0,ZY⟩)] 115)).alloc (Z4 #[Z7 Z9 (b:Int)] 3)) 219 (.iface M K);rw [World.size_alloc,World.size_alloc] at this;exact this.alloc _
 have h3:ZP c (w.heap.size+1+1+1) 124 (Z7 Z8 0):=by
  rw [<- B];have:=Boxed.new (((w.alloc (Z4 #[Z6 (ZX ⟨v,0,ZY⟩)] 115)).alloc (Z4 #[Z7 Z9 (b:Int)] 3)).alloc (Z4 #[.iface M K] 219)) 124 (Z7 Z8 0);rw [World.size_alloc,World.size_alloc,World.size_alloc] at this;exact this
 have k5:c.heap.size=w.heap.size+4:=by rw [<- B];simp
 have k8:bW w c:=by rw [<- B];exact (((bA w _).alloc (by simp) _).alloc (by simp;omega) _).alloc (by simp;omega) _
 rw [B];clear B;refine de (dC S c) ?_;rintro e w' ⟨rfl,rfl⟩;have kg:(c.alloc (Z4 #[Z7 Z8 (S:Int)] 124)).heap.size=c.heap.size+1:=by simp
 have k9:(c.alloc (Z4 #[Z7 Z8 (S:Int)] 124)).cell? ⟨c.heap.size,0,ZY⟩=ZX (Z7 Z8 (S:Int)):=(Boxed.new c 124 (Z7 Z8 (S:Int))).cell;have Z:bW w (c.alloc (Z4 #[Z7 Z8 (S:Int)] 124)):=k8.alloc (by omega) _;have kb:QV w v p b r A F (c.heap.size+1) S [] (c.alloc (Z4 #[Z7 Z8 (S:Int)] 124)):=
  ⟨h0.alloc _,h1.alloc _,h2.alloc _,h3.alloc _,by rw [show cE ([]:List (Mb S))=[] from rfl,wF];exact m.arr.below Z lR,aa.TG Z _,by omega⟩
 obtain ⟨w6,ke⟩:=nM (c.alloc (Z4 #[Z7 Z8 (S:Int)] 124));have k6:=hide k9;have U:=hide2 kb Z;have ki:=hide k5;clear k9 kb h0 h1 h2 h3 k8 Z k5;gi_wp2;obtain ⟨k5,q1⟩:w.heap.size+4<=c.heap.size/\c.heap.size<=w.heap.size+4:=by have:=ki.out;omega
 rw [ke] at kg k6 U;clear ke;rw [<- kg] at U;refine wpIn_rangeFunc_ownG rfl (by have:=HN.out;omega) (gf:=153) (lb:=#[Z6 (ZX ⟨c.heap.size,0,ZY⟩)]) rfl trivial (enters_of func153 (by kernel_rfl) rfl)
  (nC (n-1) c.heap.size S hS w6 (by omega) k6.out (by have:=m.room;omega) (m.TQ.mono (by exact m.TQ.lt) U.out.2)) (λh k=>qZ h k) (re (by have:=m.room;omega)) (Below.refl _ _) (λ_=>rfl)
  (QV w v p b r A F w6.heap.size S) (λ_ _ _=>False) (QV.own (by omega) W) (λ_ _ _ _ _ h _ _=>h.elim) U.out.1
  (λx=>{ tmps:=#[Z6 (ZX ⟨v,0,ZY⟩),Z7 Z9 (b:Int),.iface M K,Z7 Z8 (S:Int),Z6 (ZX ⟨w.heap.size,0,ZY⟩),Z6 (ZX ⟨w.heap.size+1,0,ZY⟩),Z6 (ZX ⟨w.heap.size+1+1,0,ZY⟩),ZZ,Z6 (ZX ⟨w.heap.size+1+1+1,0,ZY⟩),Z7 Z9 (x.1:Int),Z7 Z8 (S:Int),.func (.func 153) #[] #[Z6 (ZX ⟨c.heap.size,0,ZY⟩)],Z7 Z9 (x.1:Int),ZZ,ZZ,ZZ,ZZ,ZZ,ZZ,ZZ,ZZ,ZZ,ZZ],defers:=[] }) ?assign ?body ?done ?stop
 case assign=>
  intro l2 x X Kk hK;unfold wE;gi_wp2;exact hK
 case body=>
  rintro l2 pre x X a hg;have kf:x.1∈ab S:=bX.2 x.2;have kz:=x.2.1;have z:=m.turn O a.out a.arr;have ka:(A.putAt (cE pre) b (λ_=>r.blk)).fit:=hf.putAt _ _ _ λ_ _=>⟨ko,kp⟩;have q5:=pq A (cE pre) (λd hd=>by obtain ⟨y,_,rfl⟩:=XH.1 hd;exact y.2.1);cases j:A.lost x.1 with
  | false=>
   have E:=qV z.vol z.arr ka x.1 b (k7 _ kf) hb hw j r Y hm z.laid O.g O.v;rw [kD,N.out] at E;have c0:=a.b0.cell;have c1:=a.b1.cell;have Q:=a.b2.cell;rw [N.out] at Q;have C:=hide2 a j;clear a hg z j;gi_wp2;refine dH E ?_;clear E;rintro e w2 ⟨rfl,V,H⟩;have f:∀ k,w.heap.size<=k->k<X.heap.size->w2.heap[k]?=X.heap[k]?:=λk l hy=>H.block k hy (λq=>by have:=W k q;omega);have R:=C.out.1.b3.lt;have H2:=hide3 V H f;clear V H f;gi_wp2;obtain ⟨V,H,f⟩:=H2.out;obtain ⟨a,j⟩:=C.out;have P:aa (F.has p A.n) w w2:=a.out.trans H;refine ⟨⟨H.size,λk o l ho _=>(f k (by omega) (XK.1 ho).1).trans ho⟩,λ_=>m.TQ.keep (P.block _ m.TQ.lt O.t),?_⟩;exact ⟨(f _ (by omega) (by omega)).trans a.b0,(f _ (by omega) (by omega)).trans a.b1,(f _ (by omega) (by omega)).trans a.b2,by rw [bI,kQ _ _ _ j];exact (f _ (by omega) (by omega)).trans a.b3,by rw [bI];exact V,P,XI a.size H.size⟩
  | true=>
   have E:=m7 z.vol z.arr ka x.1 b (k7 _ kf) (by show A.wait≠0;omega) j r Y hm z.laid;rw [N.out] at E;have c0:=a.b0.cell;have c1:=a.b1.cell;have Q:=a.b2.cell;rw [N.out] at Q;have C:=hide2 a j;clear a hg z j;gi_wp2;refine dH E ?_;clear E;rintro e w2 ⟨q,rfl,hq,_,u⟩;obtain ⟨a,j⟩:=C.out;have J:ZP w2 (w.heap.size+1+1+1) 124 (Z7 Z8 (bH A (cE pre):Nat)):=(u.block _ a.b3.lt).trans a.b3;have d0:=J.cell;have d1:=J.frozen;have hz:=iM (bH A (cE pre)) x.1 (by omega) (by omega) w2;rw [<- j1 _ _ _ j] at hz;unfold tQ;have R:=a.b3.lt;have H2:=hide2 u J;clear u J a j c0 c1 Q;generalize bH A (cE pre)=ls at *;generalize kc:bH A (cE pre++[x.1])=I at *;have kh:=hide kc;clear kc;gi_wp2;refine dH hz ?_;rintro e w3 ⟨rfl,rfl⟩;clear hz;gi_wp2;obtain ⟨u,J⟩:=H2.out;obtain ⟨a,j⟩:=C.out;have q6:=u.size;have f:∀ k,k≠w.heap.size+1+1+1->k<X.heap.size->(w3.setCell ⟨w.heap.size+1+1+1,0,ZY⟩ (Z7 Z8 (I:Nat))).heap[k]?=X.heap[k]?:=λk l hy=>(blk_setCell_other _ _ _ _ l).trans (u.block k hy);have k0:X.heap.size<=(w3.setCell ⟨w.heap.size+1+1+1,0,ZY⟩ (Z7 Z8 (I:Nat))).heap.size:=(by simp [World.setCell];omega);have P:aa (F.has p A.n) w (w3.setCell ⟨w.heap.size+1+1+1,0,ZY⟩ (Z7 Z8 (I:Nat))):=a.out.later (T:=λk=>k=w.heap.size+1+1+1) ⟨u.os,u.tape,u.output,k0,λk l kv=>f k kv l⟩ (λk h1 h2=>by omega);have q2:=a.size;refine ⟨⟨k0,λk o l ho _=>(f k (by omega) (XK.1 ho).1).trans ho⟩,λ_=>m.TQ.keep (P.block _ m.TQ.lt O.t),?_⟩;exact ⟨(f _ (by omega) (by omega)).trans a.b0,(f _ (by omega) (by omega)).trans a.b1,(f _ (by omega) (by omega)).trans a.b2,by rw [bI,kh.out];exact J.set _,by rw [bI,<- kD];exact (a.arr.keep λk l=>f k (by have:=W k l;omega) (a.arr.TH l)).UN j _ _,P,XI a.size k0⟩
 case done=>
  rintro D' xs X kj q0 a hK;have c3:=a.b3.cell;have f3:=a.b3.frozen;have C:=hide2 a hK;clear a hK;gi_wp2;obtain ⟨a,hK⟩:=C.out;have hh:cE xs=ab S:=q0;have km:=a.b3.set (Z7 Z8 (bH A (cE xs):Nat));have ks:=KeepsOthers.setCell X ⟨w.heap.size+1+1+1,0,ZY⟩ (Z7 Z8 (bH A (cE xs):Nat));have kk:=ks.same D' _ hK rfl;have q3:=(XK.1 hK).1;refine AN (b:=w.heap.size+1+1+1) (t8:=8) results122 rfl rfl (AO (s:=bH A (cE xs)) km) kk (by omega) ⟨by rw [hh],?_,?_⟩
  . have R:=a.arr;rw [hh] at R;exact R.keep λk l=>by have:=W k l;exact (World.putObj_heap_other (by omega)).trans (blk_setCell_other _ _ _ _ (by show k≠w.heap.size+1+1+1;omega))
  . exact a.out.later (T:=λk=>w.heap.size<=k) ⟨rfl,rfl,rfl,by simp [World.setCell,World.putObj],λk _ kr=>(World.putObj_heap_other (by omega)).trans (blk_setCell_other _ _ _ _ (by show k≠w.heap.size+1+1+1;omega))⟩ (λk q4 kr=>by omega)
 case stop=>
  rintro D' cc pre X kj kx hx hK;exact hx.elim
def tS (h:nF w v p D L G ps ho A F) (f:jT F p A.n v) (k:A.fit) (b S:Nat) (j:b<A.nb) (g:S<65536) (a:∀ i,i∈ab S->i<A.n) (q:A.wait<0) (l:∀ i,i∈ab S->A.lost i=ZV)
 (r:aX) (o:r.ok) (m:jc r) :
 ZS ZO 122 #[Z6 (ZX ⟨v,0,ZY⟩),Z7 Z9 b,br r,Z7 Z8 S] w λe w'=>e=Z3 (Z7 Z8 0)/\aq w' p (A.putAt (ab S) b (λ_=>r.blk)) F/\aa (F.has p A.n) w w':=by
 refine (lq h f k b S j g a q r o m).mono ?_;rintro e w' ⟨rfl,c,d⟩;exact ⟨by rw [xt l];rfl,c,d⟩
end
section
attribute [local go_sem] Oper.semAt_some
def QW (v g m c bl off rc x b:Nat) (l:List Nat) (bv:Bool):List ZT:=[Z6 (ZX ⟨v,0,ZY⟩),Z7 Z9 x,Z7 Z9 b,Z5 (ZX ⟨g,0,ZY⟩) m c,Z7 Z9 x,Z6 (ZX ⟨g,x,ZY⟩),Z5 (ZX ⟨bl,off,ZY⟩) 44 rc,Z6 (ZX ⟨bl,off,ZY⟩),.agg (aH l).toArray,.agg (aH l).toArray,br (.shard l),.nilIface,Z2 bv]
def zx (A A2:ay) (D:Nat->Bool):ay:=if D 11=ZW then A2 else A
def PA (X:ZT->Prop) (vs:List ZT) (i:Nat) (u:ZT) (_:ZU):Prop:=if i=11 then X u else u=vs.getD i ZZ
def gL (h:i≠11) (q:PA X vs i u w):u=vs.getD i ZZ:=by unfold PA at q;rwa [if_neg h] at q
def gM (h:i≠11) (q:u=vs.getD i ZZ):PA X vs i u w:=by unfold PA;rwa [if_neg h]
def RU (w0:ZU) (p:Nat) (A A2:ay) (F:bh) (Dn:Nat->Bool) (w:ZU):Prop:=aq w p (zx A A2 Dn) F/\aa (F.has p A.n) w0 w
def eX {A2:ay} {Dn:Nat->Bool} (h:RU w0 p A A2 F Dn w) (i:Nat) (a:i≠11):RU w0 p A A2 F (dR Dn i) w:=by
 refine ⟨?_,h.2⟩;have e:zx A A2 (dR Dn i)=zx A A2 Dn:=by unfold zx dR;rw [if_neg (λe:11=i=>a e.symm)]
 rw [e];exact h.1
theorem gS {l:Nat} (hc:SC=ops) (hV:nF w v p D L G ps ho A F) (hF:jT F p A.n v) (_:A.fit) (x b:Nat) {A2:ay} (X:ZT->Prop) (bv:Bool) (hX:∀ (o:Oper) (r:Act) (w':ZU),o.op=Op.binOp BinOp.neq 63 (Z1 24) (Operand.const Value.nilIface) 63->X (r.eval (Z1 24))->(execOp r.eval o).run ZO w'=.ok (.value (Z2 bv)) w')
 {q4 O S g m c:Nat} (h4:ZP w q4 115 (Z6 (ZX ⟨v,0,ZY⟩))) (h5:ZP w O 3 (Z7 Z9 b)) (h6:ZP w S 95 (Z5 (ZX ⟨g,0,ZY⟩) m c)) {base:Nat} {R:List (List Nat)} (hR:Mc w base g R) (hv:x<R.length) (hm:R.length<=m)
 (M:∀ k,F.has p A.n k->k<base/\k≠q4/\k≠O/\k≠S) (kj:a.tmps.size=30) (W:∀ w',aq w' p A F->nF w' v p D L G ps ho A F->ZS ZO 130 #[Z6 (ZX ⟨v,0,ZY⟩),Z7 Z9 x,Z7 Z9 b,br (.shard (R.getD x []))] w' λe K=>∃ u,e=Z3 u/\X u/\aq K p A2 F/\aa (F.has p A.n) w' K)
 (e4:a.eval (Z1 4)=Z6 (ZX ⟨q4,0,ZY⟩)) (e5:a.eval (Z1 5)=Z6 (ZX ⟨O,0,ZY⟩)) (e6:a.eval (Z1 6)=Z6 (ZX ⟨S,0,ZY⟩)) (e9:a.eval (Z1 9)=Z7 Z9 x)
 (hQ:∀ (w':ZU) (vs:List ZT),vs.length=12->aq w' p A2 F->aa (F.has p A.n) w w'->Q .normal (Act.putFrom a 13 (vs++[Z2 bv])) w') :
 (Code.region 3 ops ZW).wpIn (Fence.wide.inRound l) n ZO Q a w:=by
 subst hc;obtain ⟨kc,ke,h8⟩:=hR;obtain ⟨bl,off,T,k8,k9,ka,hh,V,kb⟩:=h8 x hv;have k0:R.getD x []=R[x]:=by simp [hv]
 rw [k0] at W;obtain ⟨s,hs⟩:=nM (R[x]);rw [hs] at hh V kb W;have hj:∀ w',aa (F.has p A.n) w w'->∀ k,k<w.heap.size->¬ F.has p A.n k->w'.heap[k]?=w.heap[k]?:=λw' hO k C kh=>hO.block k C kh;have hp:∀ k,base<=k->¬ F.has p A.n k:=λk C q=>by have:=(M k q).1;omega
 have hq:(aH s).toArray.size=44:=by rw [XO,bp,V]
 refine dO (by kernel_rfl) Gr a w (by omega) (PA X (QW v g m c bl off T x b s bv)) (RU w p A A2 F) ⟨hV.arr.keep λ_ _=>rfl,aa.drew w⟩ ?_ ?_
 . intro i Y;match i,Y with
   | 0,_=>
    intro o r w' E J ho y C H I B d t;have u0:r.eval (Z1 4)=Z6 (ZX ⟨q4,0,ZY⟩):=(C.slot 4 (by omega)).trans e4;have U:=(show ZP w' q4 115 (Z6 (ZX ⟨v,0,ZY⟩)) from (d.2.block _ h4.lt (λq=>(M _ q).2.1 rfl)).trans h4).cell;exact aU (v:=Z6 (ZX ⟨v,0,ZY⟩)) (by simp only [execOp,show o.op=Op.load 115 (Z1 4) from ho,u0];go_simp) (by rw [ho];intro c h;cases h) y ⟨eX d _ (by decide),gM (by decide) rfl,kq⟩
   | 1,_=>exact λo r w' E J ho y C H I B d t=>aU (ag ho ((C.slot 9 (by omega)).trans e9) w') (by rw [ho];intro c h;cases h) y ⟨eX d _ (by decide),gM (by decide) rfl,kq⟩
   | 2,_=>
    intro o r w' E J ho y C H I B d t;have u0:r.eval (Z1 5)=Z6 (ZX ⟨O,0,ZY⟩):=(C.slot 5 (by omega)).trans e5;have U:=(show ZP w' O 3 (Z7 Z9 b) from (d.2.block _ h5.lt (λq=>(M _ q).2.2.1 rfl)).trans h5).cell;exact aU (v:=Z7 Z9 b) (by simp only [execOp,show o.op=Op.load 3 (Z1 5) from ho,u0];go_simp) (by rw [ho];intro c h;cases h) y ⟨eX d _ (by decide),gM (by decide) rfl,kq⟩
   | 3,_=>
    intro o r w' E J ho y C H I B d t;have u0:r.eval (Z1 6)=Z6 (ZX ⟨S,0,ZY⟩):=(C.slot 6 (by omega)).trans e6;have U:=(show ZP w' S 95 (Z5 (ZX ⟨g,0,ZY⟩) m c) from (d.2.block _ h6.lt (λq=>(M _ q).2.2.2 rfl)).trans h6).cell;exact aU (v:=Z5 (ZX ⟨g,0,ZY⟩) m c) (by simp only [execOp,show o.op=Op.load 95 (Z1 6) from ho,u0];go_simp) (by rw [ho];intro c h;cases h) y ⟨eX d _ (by decide),gM (by decide) rfl,kq⟩
   | 4,_=>exact λo r w' E J ho y C H I B d t=>aU (ag ho ((C.slot 9 (by omega)).trans e9) w') (by rw [ho];intro c h;cases h) y ⟨eX d _ (by decide),gM (by decide) rfl,kq⟩
   | 5,_=>
    intro o r w' E J ho y C H I B d t;have u0:r.eval (Z1 16)=Z5 (ZX ⟨g,0,ZY⟩) m c:=gL (by decide) (t 3 (B 3 (by decide)));have u1:r.eval (Z1 17)=Z7 Z9 x:=gL (by decide) (t 4 (B 4 (by decide)));have kk:x<m:=(by omega);exact aU (v:=Z6 (ZX ⟨g,x,ZY⟩)) (by simp only [execOp,show o.op=Op.indexAddr 95 (Z1 16) (Z1 17) from ho,u0,u1];go_simp) (by rw [ho];intro c h;cases h) y ⟨eX d _ (by decide),gM (by decide) rfl,kq⟩
   | 6,_=>
    intro o r w' E J ho y C H I B d t;have u0:r.eval (Z1 18)=Z6 (ZX ⟨g,x,ZY⟩):=gL (by decide) (t 5 (B 5 (by decide)));have U:w'.cell? ⟨g,x,ZY⟩=ZX (Z5 (ZX ⟨bl,off,ZY⟩) 44 T):=(World.cell?_of_block (d.2.block g ke (hp g kc))).trans k8;exact aU (v:=Z5 (ZX ⟨bl,off,ZY⟩) 44 T) (by simp only [execOp,show o.op=Op.load 34 (Z1 18) from ho,u0];go_simp) (by rw [ho];intro c h;cases h) y ⟨eX d _ (by decide),gM (by decide) rfl,kq⟩
   | 7,_=>
    intro o r w' E J ho y C H I B d t;have u0:r.eval (Z1 19)=Z5 (ZX ⟨bl,off,ZY⟩) 44 T:=gL (by decide) (t 6 (B 6 (by decide)));have k6:(Instr.arrayAt 215 (Z5 (ZX ⟨bl,off,ZY⟩) 44 T)).run ZO w'=.ok (Z6 (ZX ⟨bl,off,ZY⟩)) w':=(by simp [Instr.arrayAt,run_underlying underlying215]);exact aU (v:=Z6 (ZX ⟨bl,off,ZY⟩)) (by simp [execOp,show o.op=Op.sliceToArrayPointer 215 (Z1 19) from ho,u0,k6]) (by rw [ho];intro c h;cases h) y ⟨eX d _ (by decide),gM (by decide) rfl,kq⟩
   | 8,_=>
    intro o r w' E J ho y C H I B d t;have u0:r.eval (Z1 20)=Z6 (ZX ⟨bl,off,ZY⟩):=gL (by decide) (t 7 (B 7 (by decide)));have hr:w'.rangeAt bl off (aH s):=λj u Z=>(World.cell?_of_block (d.2.block bl ka (hp bl k9))).trans (hh j u Z);have kg:=run_loadAt_mid (P:=ZO) w' bl off 215 (aH s) _ hr underlying215 rfl (by rw [bp,V];kernel_rfl);exact aU (v:=.agg (aH s).toArray) (by simp [execOp,show o.op=Op.load 215 (Z1 20) from ho,u0,kg]) (by rw [ho];intro c h;cases h) y ⟨eX d _ (by decide),gM (by decide) rfl,kq⟩
   | 9,_=>
    intro o r w' E J ho y C H I B d t;have u0:r.eval (Z1 21)=.agg (aH s).toArray:=gL (by decide) (t 8 (B 8 (by decide)));have k7:∀ z:Array ZT,z.size=44->Array.foldl (λcs x=>cs.setIfInBounds x.snd x.fst) z (aH s).toArray.zipIdx 0 44=(aH s).toArray:=λz hz=>vY z _ 44 hz hq;obtain ⟨sa,he⟩:=nM ((aH s).toArray);refine aU (v:=.agg (aH s).toArray) ?_ (by rw [ho];intro c h;cases h) y ⟨eX d _ (by decide),gM (by decide) rfl,kq⟩;rw [he] at u0 k7 hq ⊢;simp only [execOp,show o.op=Op.build 217 #[(0,Z1 21)] from ho,List.map_toArray,List.map_cons,List.map_nil,u0];go_simp
   | 10,_=>
    intro o r w' E J ho y C H I B d t;have u0:r.eval (Z1 22)=.agg (aH s).toArray:=gL (by decide) (t 9 (B 9 (by decide)));exact aU (v:=br (.shard s)) (by simp only [execOp,show o.op=Op.makeInterface 217 (Z1 22) from ho,u0,br];go_simp) (by rw [ho];intro c h;cases h) y ⟨eX d _ (by decide),gM (by decide) rfl,kq⟩
   | 11,_=>
    intro o r w' E ki ho y C H I B d t;have u0:r.eval (Z1 13)=Z6 (ZX ⟨v,0,ZY⟩):=gL (by decide) (t 0 (B 0 (by decide)));have u1:r.eval (Z1 14)=Z7 Z9 x:=gL (by decide) (t 1 (B 1 (by decide)));have u2:r.eval (Z1 15)=Z7 Z9 b:=gL (by decide) (t 2 (B 2 (by decide)));have u3:r.eval (Z1 23)=br (.shard s):=gL (by decide) (t 10 (B 10 (by decide)));have N:aq w' p A F:=(by have:=d.1;unfold zx at this;rw [if_neg (by rw [H];decide)] at this;exact this);have k5:=hV.turn hF d.2 N;refine oD (f:=130) (args:=#[Z6 (ZX ⟨v,0,ZY⟩),Z7 Z9 x,Z7 Z9 b,br (.shard s)]) (w1:=w') (by simp only [execOp,show o.op=Op.call { callee:=Callee.value (Operand.func 130),args:=#[Z1 13,Z1 14,Z1 15,Z1 23],argTypes:=#[115,3,3,219] } from ho];go_simp;exact ⟨by simpa [Act.eval] using u0,by simpa [Act.eval] using u1,by simpa [Act.eval] using u2,by simpa [Act.eval] using u3⟩) (by rw [ho];intro c h;cases h) y (W w' N k5) ?_;rintro e K ⟨u,rfl,Z,hx,hy⟩;refine ⟨_,rfl,⟨?_,d.2.trans hy⟩,by unfold PA;rw [if_pos rfl];exact Z,kq⟩;have e:zx A A2 (dR E 11)=A2:=(by unfold zx dR;rw [if_pos (by rw [if_pos rfl])]);rw [e];exact hx
   | 12,_=>
    intro o r w' E J ho y C H I B d t;have u0:X (r.eval (Z1 24)):=(by have:=t 11 (B 11 (by decide));unfold PA at this;rwa [if_pos rfl] at this);exact aU (hX o r w' ho u0) (by rw [ho];intro c h;cases h) y ⟨eX d _ (by decide),gM (by decide) rfl,kq⟩
   | n+13,M=>exact absurd M (by show ¬ n+13<13;omega)
 . rintro r w' kf _ ⟨E,hD,d⟩ t;have e:zx A A2 E=A2:=(by unfold zx;rw [if_pos (hD 11 (by decide))]);have N:=d.1;rw [e] at N;have e:r=Act.putFrom a 13 (((XG 12).map λi=>r.eval (.tmp (13+i)))++[Z2 bv]):=kf.out _ (by simp) (by omega) (λi Y=>by
    simp at Y;by_cases ha:i=12
    . subst ha;have:=gL (by decide) (t 12 (by decide));simpa [cT,bZ,QG,QW] using this
    . rw [Yc,Yb (by simp;omega),YM,List.getElem?_range (by omega)];rfl)
   rw [e];exact hQ w' _ (by rw [XN,Yz]) N d.2
structure QX (w:ZU) (v p b g m c:Nat) (R:List (List Nat)) (A:ay) (F:bh) (B S:Nat) (pre:List (Mb S)) (X:ZU):Prop where
 b0:ZP X w.heap.size 115 (Z6 (ZX ⟨v,0,ZY⟩))
 b1:ZP X (w.heap.size+1) 3 (Z7 Z9 b)
 b2:ZP X (w.heap.size+1+1) 95 (Z5 (ZX ⟨g,0,ZY⟩) m c)
 b3:ZP X (w.heap.size+1+1+1) 124 (Z7 Z8 (bH A (cE pre):Nat))
 arr:aq X p (A.putAt (cE pre) b (λi=>(aX.shard (R.getD i [])).blk)) F
 out:aa (F.has p A.n) w X
 size:B<=X.heap.size
def QX.own {R:List (List Nat)} (z:w.heap.size+4<=B) (u:∀ k,F.has p A.n k->k<w.heap.size):OwnFrom B (QX w v p b g m c R A F B S):=by
 rintro pre X Y row ⟨f,h,i,j,l,o,q⟩ d y;have a:∀ k,k<w.heap.size+4->Y.heap[k]?=X.heap[k]?:=λk a=>d.block k (by omega) (λe=>by have:=(y k e.symm).1;omega);have x:aa (F.has p A.n) w Y:=o.later (T:=λk=>w.heap.size<=k) ⟨d.os,d.tape,d.output,d.size,λk s t=>a k (by omega)⟩ (λk s t=>by omega);exact ⟨(a _ (by omega)).trans f,(a _ (by omega)).trans h,(a _ (by omega)).trans i,(a _ (by omega)).trans j,l.keep λk r=>a k (by have:=u k r;omega),x,XI q d.size⟩
theorem rN (C:nF w v p D L G ps ho A F) (I:jT F p A.n v) (hf:A.fit) (b S:Nat) (hb:b<A.nb) (hS:S<65536) (ke:∀ i,i∈ab S->i<A.n) (hw:A.wait<0)
 {g m c base:Nat} {R:List (List Nat)} (hR:Mc w base g R) (k7:∀ i,i∈ab S->i<R.length) (hm:R.length<=m) (ha:∀ k,F.has p A.n k->k<base) :
 ZS ZO 88 #[Z6 (ZX ⟨v,0,ZY⟩),Z7 Z9 b,Z5 (ZX ⟨g,0,ZY⟩) m c,Z7 Z8 S] w λe w'=>e=Z3 (Z7 Z8 (bH A (ab S):Nat))/\aq w' p (A.putAt (ab S) b (λi=>(aX.shard (R.getD i [])).blk)) F/\aa (F.has p A.n) w w':=by
 obtain ⟨n,HN⟩:∃ n:Nat,Hid (9<=n):=⟨9,XJ _⟩;have P:∀ k,F.has p A.n k->k<w.heap.size:=λk z=>C.arr.TH z;have N:∀ i,i∈ab S->(aX.shard (R.getD i [])).ok:=λi a=>by
  have kk:=k7 i a;obtain ⟨_,_,_,_,_,_,_,q1,q2⟩:=hR.2.2 i kk;have e:R.getD i []=R[i]:=by simp [kk]
  rw [e];exact ⟨q1,q2⟩
 refine (callsIn_wide (n:=n)).1 ?_;refine callsIn_of_wp_marks func88 rfl trivial ?_ rfl;simp only [ntmps88,XO,XS,XT,XU,XV,XW,XX,XY,XZ,XQ,XR];gi_wp2;obtain ⟨f,E⟩:=nM ((((w.alloc (Z4 #[Z6 (ZX ⟨v,0,ZY⟩)] 115)).alloc (Z4 #[Z7 Z9 (b:Int)] 3)).alloc (Z4 #[Z5 (ZX ⟨g,0,ZY⟩) m c] 95)).alloc (Z4 #[Z7 Z8 0] 124));have h0:ZP f w.heap.size 115 (Z6 (ZX ⟨v,0,ZY⟩)):=by rw [<- E];exact (((Boxed.new w _ _).alloc _).alloc _).alloc _
 have h1:ZP f (w.heap.size+1) 3 (Z7 Z9 b):=by
  rw [<- E];have:=Boxed.new (w.alloc (Z4 #[Z6 (ZX ⟨v,0,ZY⟩)] 115)) 3 (Z7 Z9 b);rw [World.size_alloc] at this;exact (this.alloc _).alloc _
 have h2:ZP f (w.heap.size+1+1) 95 (Z5 (ZX ⟨g,0,ZY⟩) m c):=by
  rw [<- E];have:=Boxed.new ((w.alloc (Z4 #[Z6 (ZX ⟨v,0,ZY⟩)] 115)).alloc (Z4 #[Z7 Z9 (b:Int)] 3)) 95 (Z5 (ZX ⟨g,0,ZY⟩) m c);rw [World.size_alloc,World.size_alloc] at this;exact this.alloc _
 have h3:ZP f (w.heap.size+1+1+1) 124 (Z7 Z8 0):=by
  rw [<- E];have:=Boxed.new (((w.alloc (Z4 #[Z6 (ZX ⟨v,0,ZY⟩)] 115)).alloc (Z4 #[Z7 Z9 (b:Int)] 3)).alloc (Z4 #[Z5 (ZX ⟨g,0,ZY⟩) m c] 95)) 124 (Z7 Z8 0);rw [World.size_alloc,World.size_alloc,World.size_alloc] at this;exact this
 have kb:f.heap.size=w.heap.size+4:=by rw [<- E];simp
 have kg:bW w f:=by rw [<- E];exact (((bA w _).alloc (by simp) _).alloc (by simp;omega) _).alloc (by simp;omega) _
 rw [E];clear E;refine de (dC S f) ?_;rintro e w' ⟨rfl,rfl⟩;have kr:(f.alloc (Z4 #[Z7 Z8 (S:Int)] 124)).heap.size=f.heap.size+1:=by simp
 have kh:(f.alloc (Z4 #[Z7 Z8 (S:Int)] 124)).cell? ⟨f.heap.size,0,ZY⟩=ZX (Z7 Z8 (S:Int)):=(Boxed.new f 124 (Z7 Z8 (S:Int))).cell;have k6:bW w (f.alloc (Z4 #[Z7 Z8 (S:Int)] 124)):=kg.alloc (by omega) _;have kj:QX w v p b g m c R A F (f.heap.size+1) S [] (f.alloc (Z4 #[Z7 Z8 (S:Int)] 124)):=
  ⟨h0.alloc _,h1.alloc _,h2.alloc _,h3.alloc _,by rw [show cE ([]:List (Mb S))=[] from rfl,wF];exact C.arr.below k6 lR,aa.TG k6 _,by omega⟩
 obtain ⟨w6,ko⟩:=nM (f.alloc (Z4 #[Z7 Z8 (S:Int)] 124));have kc:=hide kh;have hz:=hide2 kj k6;have kv:=hide kb;clear kh kj h0 h1 h2 h3 kg k6 kb;gi_wp2;obtain ⟨kb,qa⟩:w.heap.size+4<=f.heap.size/\f.heap.size<=w.heap.size+4:=by have:=kv.out;omega
 rw [ko] at kr kc hz;clear ko;rw [<- kr] at hz;refine wpIn_rangeFunc_ownG rfl (by have:=HN.out;omega) (gf:=153) (lb:=#[Z6 (ZX ⟨f.heap.size,0,ZY⟩)]) rfl trivial (enters_of func153 (by kernel_rfl) rfl)
  (nC (n-1) f.heap.size S hS w6 (by omega) kc.out (by have:=C.room;omega) (C.TQ.mono (by exact C.TQ.lt) hz.out.2)) (λh k=>qZ h k) (re (by have:=C.room;omega)) (Below.refl _ _) (λ_=>rfl)
  (QX w v p b g m c R A F w6.heap.size S) (λ_ _ _=>False) (QX.own (by omega) P) (λ_ _ _ _ _ h _ _=>h.elim) hz.out.1
  (λx=>{ tmps:=#[Z6 (ZX ⟨v,0,ZY⟩),Z7 Z9 (b:Int),Z5 (ZX ⟨g,0,ZY⟩) m c,Z7 Z8 (S:Int),Z6 (ZX ⟨w.heap.size,0,ZY⟩),Z6 (ZX ⟨w.heap.size+1,0,ZY⟩),Z6 (ZX ⟨w.heap.size+1+1,0,ZY⟩),ZZ,Z6 (ZX ⟨w.heap.size+1+1+1,0,ZY⟩),Z7 Z9 (x.1:Int),Z7 Z8 (S:Int),.func (.func 153) #[] #[Z6 (ZX ⟨f.heap.size,0,ZY⟩)],Z7 Z9 (x.1:Int),ZZ,ZZ,ZZ,ZZ,ZZ,ZZ,ZZ,ZZ,ZZ,ZZ,ZZ,ZZ,ZZ,ZZ,ZZ,ZZ,ZZ],defers:=[] }) ?assign ?body ?done ?stop
 case assign=>
  intro l2 x X Kk hK;unfold wE;gi_wp2;exact hK
 case body=>
  rintro l2 pre x X a k9;have H:x.1∈ab S:=bX.2 x.2;have K:=C.turn I a.out a.arr;have J:Mc X base g R:=hR.keep a.out.size (λk z q4=>a.out.block k q4 (λq=>by have:=ha k q;omega));have h4:=a.b3.lt;have V:=hide3 a K J;clear k9 a K J;gi_wp2;obtain ⟨a,K,J⟩:=V.out;have q5:=pq A (cE pre) (λd hd=>by obtain ⟨y,_,rfl⟩:=XH.1 hd;exact y.2.1);have q8:=x.2.1;have Q:(A.putAt (cE pre) b (λi=>(aX.shard (R.getD i [])).blk)).fit:=hf.putAt _ _ _ λi ki=>by
   unfold cE at ki;obtain ⟨y,_,rfl⟩:=XH.1 ki;exact ⟨eJ (N _ (bX.2 y.2)),jv (N _ (bX.2 y.2))⟩
  have k5:∀ k,F.has p A.n k->k<base/\k≠w.heap.size/\k≠w.heap.size+1/\k≠w.heap.size+1+1:=λk q=>by
   have h1:k<w.heap.size:=P k q;exact ⟨ha k q,by omega,by omega,by omega⟩
  cases B:A.lost x.1 with
  | false=>
   refine gS (by kernel_rfl) K I Q x.1 b (A2:=A.putAt (cE pre++[x.1]) b (λi=>(aX.shard (R.getD i [])).blk)) (λu=>u=.nilIface) ZV (λo a' w' ho (hu:a'.eval (Z1 24)=.nilIface)=>by simp only [execOp,ho,hu];go_simp) a.b0 a.b1 a.b2 J (k7 _ H) hm k5 rfl
    (λw' k0 Y=>(qV Y.vol k0 Q x.1 b (ke _ H) hb hw B _ (N _ H) (lF (N _ H)) Y.laid I.g I.v).mono (by
     rintro e qf ⟨rfl,r,l⟩;rw [kD A (cE pre) x.1 b (λi=>(aX.shard (R.getD i [])).blk)] at r;exact ⟨_,rfl,rfl,r,l⟩)) rfl rfl rfl rfl ?_
   intro w2 vs Z r l;obtain ⟨x0,x1,x2,x3,x4,x5,x6,x7,x8,x9,xa,xb,rfl⟩:=yT Z;have j:∀ k,w.heap.size<=k->k<X.heap.size->w2.heap[k]?=X.heap[k]?:=λk z k8=>l.block k k8 (λq=>by have:=P k q;omega);have H2:=hide4 r l j B;clear r l j a K J Z q5 Q k5 B;rename_i hK
   refine hK _ _ ?_;clear hK;simp only [Act.putFrom,Act.put,YN,YO,YP,XR,XQ];gi_wp2;obtain ⟨r,l,j,B⟩:=H2.out;have a:=V.out.1;have W:aa (F.has p A.n) w w2:=a.out.trans l;refine ⟨⟨l.size,λk o z ho _=>(j k (by omega) (XK.1 ho).1).trans ho⟩,λ_=>C.TQ.keep (W.block _ C.TQ.lt I.t),?_⟩;exact ⟨(j _ (by omega) (by omega)).trans a.b0,(j _ (by omega) (by omega)).trans a.b1,(j _ (by omega) (by omega)).trans a.b2,by rw [bI,kQ _ _ _ B];exact (j _ (by omega) (by omega)).trans a.b3,by rw [bI];exact r,W,XI a.size l.size⟩
  | true=>
   refine gS (by kernel_rfl) K I Q x.1 b (A2:=A.putAt (cE pre++[x.1]) b (λi=>(aX.shard (R.getD i [])).blk)) (λu=>∃ q,u=tQ q) ZW (λo a' w' ho hu=>by obtain ⟨q,hq⟩:=hu;unfold tQ at hq;simp only [execOp,ho,hq];go_simp) a.b0 a.b1 a.b2 J (k7 _ H) hm k5 rfl
    (λw' k0 Y=>(m7 Y.vol k0 Q x.1 b (ke _ H) (by show A.wait≠0;omega) B _ (N _ H) (lF (N _ H)) Y.laid).mono (by
     rintro e qf ⟨q,rfl,_,_,kf⟩;rw [<- kD];exact ⟨_,rfl,⟨q,rfl⟩,(k0.below kf lR).UN B _ _,aa.TG kf _⟩)) rfl rfl rfl rfl ?_
   intro w2 vs Z r l;obtain ⟨x0,x1,x2,x3,x4,x5,x6,x7,x8,x9,xa,xb,rfl⟩:=yT Z;have j:∀ k,w.heap.size<=k->k<X.heap.size->w2.heap[k]?=X.heap[k]?:=λk z k8=>l.block k k8 (λq=>by have:=P k q;omega);have O:ZP w2 (w.heap.size+1+1+1) 124 (Z7 Z8 (bH A (cE pre):Nat)):=(j _ (by omega) a.b3.lt).trans a.b3;have d0:=O.cell;have d1:=O.frozen;have ka:=iM (bH A (cE pre)) x.1 (by omega) (by omega) w2;rw [<- j1 _ _ _ B] at ka;have H2:=hide5 r l j B O;clear r l j a K J Z Q k5 B O;generalize bH A (cE pre)=ls at *;generalize km:bH A (cE pre++[x.1])=M at *;have ks:=hide km;clear km;rename_i hK
   refine hK _ _ ?_;clear hK;simp only [Act.putFrom,Act.put,YN,YO,YP,XR,XQ];gi_wp2;refine dH ka ?_;rintro e w3 ⟨rfl,rfl⟩;clear ka;gi_wp2;obtain ⟨r,l,j,B,O⟩:=H2.out;have a:=V.out.1;have qe:=l.size;have kp:X.heap.size<=(w3.setCell ⟨w.heap.size+1+1+1,0,ZY⟩ (Z7 Z8 (M:Nat))).heap.size:=(by simp [World.setCell];omega);have U:∀ k,k≠w.heap.size+1+1+1->(w3.setCell ⟨w.heap.size+1+1+1,0,ZY⟩ (Z7 Z8 (M:Nat))).heap[k]?=w3.heap[k]?:=λk z=>blk_setCell_other _ _ _ _ z;have W:aa (F.has p A.n) w (w3.setCell ⟨w.heap.size+1+1+1,0,ZY⟩ (Z7 Z8 (M:Nat))):=(a.out.trans l).later (T:=λk=>k=w.heap.size+1+1+1) ⟨rfl,rfl,rfl,by simp [World.setCell],λk _ q6=>U k q6⟩ (λk h1 h2=>by omega);have qb:=a.size;refine ⟨⟨kp,λk o z ho _=>(U k (by omega)).trans ((j k (by omega) (XK.1 ho).1).trans ho)⟩,λ_=>C.TQ.keep (W.block _ C.TQ.lt I.t),?_⟩;exact ⟨(U _ (by omega)).trans ((j _ (by omega) (by omega)).trans a.b0),(U _ (by omega)).trans ((j _ (by omega) (by omega)).trans a.b1),(U _ (by omega)).trans ((j _ (by omega) (by omega)).trans a.b2),by rw [bI,ks.out];exact O.set _,by rw [bI];exact r.keep λk z=>U k (by have:=P k z;omega),W,XI a.size kp⟩
 case done=>
  rintro D' xs X kx q9 a hK;have c3:=a.b3.cell;have f3:=a.b3.frozen;have V:=hide2 a hK;clear a hK;gi_wp2;obtain ⟨a,hK⟩:=V.out;have hy:cE xs=ab S:=q9;have kz:=a.b3.set (Z7 Z8 (bH A (cE xs):Nat));have q3:=KeepsOthers.setCell X ⟨w.heap.size+1+1+1,0,ZY⟩ (Z7 Z8 (bH A (cE xs):Nat));have ky:=q3.same D' _ hK rfl;have qc:=(XK.1 hK).1;refine AN (b:=w.heap.size+1+1+1) (t8:=8) results88 rfl rfl (AO (s:=bH A (cE xs)) kz) ky (by omega) ⟨by rw [hy],?_,?_⟩
  . have h4:=a.arr;rw [hy] at h4;exact h4.keep λk z=>by have:=P k z;exact (World.putObj_heap_other (by omega)).trans (blk_setCell_other _ _ _ _ (by show k≠w.heap.size+1+1+1;omega))
  . exact a.out.later (T:=λk=>w.heap.size<=k) ⟨rfl,rfl,rfl,by simp [World.setCell,World.putObj],λk _ q0=>(World.putObj_heap_other (by omega)).trans (blk_setCell_other _ _ _ _ (by show k≠w.heap.size+1+1+1;omega))⟩ (λk qd q0=>by omega)
 case stop=>
  rintro D' cc pre X kx q7 hx hK;exact hx.elim
end
def fu {v:ZT} (h:w.ownsRow base e size v n xs):∃ d f,v=.slice d n f:=by
 rcases h.2 with ⟨b,c⟩|⟨g,cap,cur,a,_⟩
 . exact ⟨ZY,0,by rw [b,c]⟩
 . exact ⟨_,_,a⟩
def iS {v:ZT} (h:w.ownsRow base e size v n xs) {k:Nat} (a:v.ownBlock=ZX k):∃ cur,w.heap[k]?=ZX (Z4 cur e (0,0)):=by
 rcases h.2 with ⟨d,_⟩|⟨g,cap,cur,b,_,c,_⟩
 . rw [d] at a;simp [Value.ownBlock] at a
 . rw [b] at a;simp [Value.ownBlock] at a;subst a;exact ⟨cur,c⟩
def dz {t:ZQ} {v:ZT} (h:w.ownsRow base e size v n xs) {k:Nat} {cs:Array ZT} (c:w.heap[k]?=ZX (Z4 cs t (0,0))) (b:e≠t):v.ownBlock≠ZX k:=by
 intro q;obtain ⟨cur,a⟩:=iS h q;rw [c] at a;injection a with a;injection a with h1 h2;exact b h2.symm
def dA {v:ZT} {S:Nat->Prop} (h:w.ownsRow base e size v n xs) (f:aa S w w') (i:∀ k,v.ownBlock=ZX k->¬ S k):w'.ownsRow base e size v n xs:=by
 refine ⟨h.1,?_⟩;rcases h.2 with d|⟨g,cap,cur,a,c,b,r⟩
 . exact .inl d
 . exact .inr ⟨g,cap,cur,a,c,(f.block g (XK.1 b).1 (i g (by rw [a];rfl))).trans b,r⟩
def G7 {v:ZT} (h:w.ownsRow base e size v n xs) (f:∀ k,v.ownBlock=ZX k->w'.heap[k]?=w.heap[k]?):w'.ownsRow base e size v n xs:=by
 refine ⟨h.1,?_⟩;rcases h.2 with d|⟨g,cap,cur,a,b,c,r⟩
 . exact .inl d
 . exact .inr ⟨g,cap,cur,a,b,(f g (by rw [a];rfl)).trans c,r⟩
def PC {v:ZT} (h:w.ownsRow base e size v n xs) {k:Nat} (b:v.ownBlock=ZX k):k<w.heap.size:=by
 obtain ⟨cur,a⟩:=iS h b;exact (XK.1 a).1
theorem Fs (nb:Nat):∀ (l:List Nat) (s:(Nat->Bool)×Bool),(∀ x∈l,2<=x/\x<nb/\s.1 x=ZV)->l.Nodup->(l.foldl (jI nb) s).2=s.2/\∀ x,(l.foldl (jI nb) s).1 x=(s.1 x || decide (x∈l))
 | [],s,_,_=>⟨rfl,λx=>by simp⟩
 | y::l,s,h,m=>by
  obtain ⟨p,r,g⟩:=h y (X8 ..);obtain ⟨i,k⟩:=List.nodup_cons.1 m;have e:jI nb s y=(λj=>if j=y then ZW else s.1 j,s.2):=by
   unfold jI;rw [if_neg (λq=>by rcases q with q|q|q;omega;omega;rw [g] at q;cases q)]
  rw [YL,e];obtain ⟨n,o⟩:=Fs nb l (λj=>if j=y then ZW else s.1 j,s.2) (λx f=>by
   obtain ⟨a,b,c⟩:=h x (X7 _ f);have d:¬ x=y:=λq=>i (by rw [<- q];exact f);exact ⟨a,b,by show (if x=y then ZW else s.1 x)=ZV;rw [if_neg d];exact c⟩) k
  refine ⟨n,λx=>?_⟩;rw [o];show ((if x=y then ZW else s.1 x) || decide (x∈l))=(s.1 x || decide (x∈y::l));by_cases d:x=y
  . subst d;simp
  . rw [if_neg d];simp [d]
def Oa (e:l.Nodup) (a:∀ x∈l,2<=x/\x<nb):(tk nb l).2=ZW/\∀ x,(tk nb l).1 x=decide (x∈l):=by
 obtain ⟨c,d⟩:=Fs nb l (λ_=>ZV,ZW) (λx b=>⟨(a x b).1,(a x b).2,rfl⟩) e;exact ⟨c,λx=>by rw [show (tk nb l).1 x=_ from d x];rfl⟩
def qI {T:Nat->Bool} {x:Nat}:x∈bj T k↔x<k/\2<=x/\T x=ZV:=by
 unfold bj;rw [X1,XM];simp
def rz (T:Nat->Bool) (k:Nat):(bj T k).Nodup:=(X9).filter _
def jk (e:l.Nodup) (d:∀ x∈l,2<=x/\x<nb) {x:Nat} (f:x∈bj (tk nb l).1 nb):(2<=x/\x<nb)/\x∉l:=by
 obtain ⟨b,c,a⟩:=qI.1 f;rw [(Oa e d).2] at a;exact ⟨⟨c,b⟩,of_decide_eq_false a⟩
def nO (b:l.Nodup) (a:∀ x∈l,2<=x/\x<nb) (c:Nat):(((bj (tk nb l).1 nb).take c)++l).Nodup/\∀ x∈((bj (tk nb l).1 nb).take c)++l,2<=x/\x<nb:=by
 refine ⟨Ye.2 ⟨(rz _ _).sublist (List.take_sublist _ _),b,λx d y f e=>?_⟩,λx d=>?_⟩
 . subst e;exact (jk b a (YQ d)).2 f
 . rcases XP.1 d with h|h
   . exact (jk b a (YQ h)).1
   . exact a x h
theorem lX (c:l.Nodup) (a:∀ x∈l,2<=x/\x<nb):(bj (tk nb l).1 nb).length+l.length+2=max 2 nb:=by
 by_cases m:2<=nb
 . have k:((bj (tk nb l).1 nb)++l++[0,1]).Perm (XG nb):=by
    refine (List.perm_ext_iff_of_nodup ?_ X9).2 λx=>?_
    . refine Ye.2 ⟨Ye.2 ⟨rz _ _,c,λx b y d e=>?_⟩,by decide,λx b y d e=>?_⟩
      . subst e;exact (jk c a b).2 d
      . subst e;have g:2<=x:=by
         rcases XP.1 b with h|h
         . exact (jk c a h).1.1
         . exact (a x h).1
        simp at d;omega
    . rw [XM,XP,XP,qI];constructor
      . rintro ((h|h)|h)
        . exact h.1
        . exact (a x h).2
        . simp at h;omega
      . intro h;by_cases g:2<=x
        . by_cases f:x∈l
          . exact .inl (.inr f)
          . exact .inl (.inl ⟨h,g,by rw [(Oa c a).2];exact decide_eq_false f⟩)
        . exact .inr (by simp;omega)
   have:=k.length_eq;simp at this;omega
 . have i:l=[]:=by
    cases l with
    | nil=>rfl
    | cons x l=>have:=a x (X8 ..);omega
   subst i;have j:bj (tk nb []).1 nb=[]:=by
    rw [List.eq_nil_iff_forall_not_mem];intro x b;have:=qI.1 b;omega
   rw [j];simp;omega
section
attribute [local go_sem] Oper.semAt_some
def qJ (K:Nat->Prop) (n b1:Nat) (v:ZT) (os:List Ob) (w:ZU) (i:b1<w.heap.size) (b:w.cell? ⟨b1,0,ZY⟩=ZX v) (j:gE K w v os) :
 SeqStopsK Fence.wide n ZO 150 #[Z6 (ZX ⟨b1,0,ZY⟩)] pT (eR K) (λu=>u=ah os) (λpre=>pre<+:ah os) (ah os).length w:=λl J d W c m _ o f=>by
 refine (sX K n l b1 v os J d (λpre A B h a=>m pre A B ZY h ⟨a.os,a.tape,a.output,a.size,λk q _=>a.block k q⟩ (λr e=>by cases e)) (ah os).length o [] (by simp) W ((c.cell (p:=⟨b1,0,ZY⟩) i).trans b) (j.keep (eR.TF c)) f).mono ?_;rintro e x ⟨b,g⟩;refine ⟨b,?_⟩;rcases g with h|⟨pre,s,t⟩
 . exact .inl ⟨_,rfl,by simpa using h⟩
 . exact .inr ⟨pre,s,by simpa using t⟩
structure QY (w:ZU) (B:Nat) (pre:List Nat) (X:ZU):Prop where
 box:ZP X w.heap.size 3 (Z7 Z9 (pre.length:Nat))
 below:bW w X
 size:B<=X.heap.size
def QY.UW (h:w.heap.size<B):OwnFrom B (QY w B):=by
 rintro pre X Y row ⟨f,b,g⟩ a d;have c:∀ k,k<B->Y.heap[k]?=X.heap[k]?:=λk c=>a.block k (by omega) (λe=>by have:=(d k e.symm).1;omega);exact ⟨(c _ (by omega)).trans f,b.grown a b.size (λk e=>by have:=(d k e).1;omega),XI g a.size⟩
theorem rA (j:bM w ar v D' L' G' t f nn pg ob off) (m:bt w v p D L G ps ho) (h:aq w p A F) (hf:A.fit) (hn:0<A.n) (os:List Ob) (u:gE (λk=>k<w.heap.size) w ob os) (hy:(ah os).length<=1000000) (count pages:Nat) (he:count<=1000000) (hh:pages<=1000000) :
 ZS ZO 102 #[Z6 (ZX ⟨ar,0,ZY⟩),Z7 Z9 (count:Nat),Z7 Z9 (pages:Nat)] w λe w'=>e=Z3 (Z2 (decide ((ah os).length+count+2*pages+2<=A.nb)))/\bW w w':=by
 obtain ⟨n,HN⟩:∃ n:Nat,Hid (9<=n):=⟨9,XJ _⟩;obtain ⟨Q,_,_,_,R⟩:=j.cells;obtain ⟨d,c,rfl,hol,_⟩:=id u;have H:=hide4 j m h u;clear j m h u;refine (callsIn_wide (n:=n)).1 ?_;refine callsIn_of_wp_marks func102 rfl trivial ?_ rfl;simp only [ntmps102,XO,XS,XT,XU,XV,XW,XX,XY,XZ,XQ,XR];have g:bW w (w.alloc (Z4 #[Z7 Z9 0] 3)):=bA w _;have S:=(g.cell (p:=⟨ar,8,ZY⟩) H.out.1.lt).trans R;have r:ZP (w.alloc (Z4 #[Z7 Z9 0] 3)) w.heap.size 3 (Z7 Z9 0):=Boxed.new w _ _;have y:(w.alloc (Z4 #[Z7 Z9 0] 3)).heap.size=w.heap.size+1:=by simp
 have I:=hide3 g r y;clear g r y;gi_wp2;refine de (lV d os.length c (w.alloc (Z4 #[Z7 Z9 0] 3))) ?_;rintro e w' ⟨rfl,rfl⟩;obtain ⟨w1,hz⟩:=nM (w.alloc (Z4 #[Z7 Z9 0] 3));rw [hz] at I S ⊢;have C:bW w1 (w1.alloc (Z4 #[.slice d os.length c] 119)):=bA w1 _;have z:(w1.alloc (Z4 #[.slice d os.length c] 119)).cell? ⟨w1.heap.size,0,ZY⟩=ZX (.slice d os.length c):=(Boxed.new w1 _ _).cell;have N:(w1.alloc (Z4 #[.slice d os.length c] 119)).heap.size=w1.heap.size+1:=by simp
 obtain ⟨w2,k0⟩:=nM (w1.alloc (Z4 #[.slice d os.length c] 119));rw [k0] at C z N ⊢;obtain ⟨g,r,y⟩:=I.out;have B:bW w w2:=g.trans (C.mono g.size);have Z:QY w w2.heap.size [] w2:=⟨(C.block _ (by omega)).trans r,B,XJ _⟩;have hq:gE (λk=>k<w.heap.size) w2 (.slice d os.length c) os:=H.out.2.2.2.keep (eR.TF B);have hv:=qJ (λk=>k<w.heap.size) (n-1) w1.heap.size _ os w2 (by omega) z hq;have P:=hide3 Z hv B;have V:w1.heap.size=w.heap.size+1:=y;have Y:w2.heap.size=w.heap.size+2:=by omega
 have HZ:=hide2 V Y;clear Z hv B hq g r y C z N k0 hz S V Y I R;gi_wp2;obtain ⟨ke,N⟩:=HZ.out;refine wpIn_rangeFunc_ownG rfl (by have:=HN.out;omega) (gf:=150) (lb:=#[Z6 (ZX ⟨w1.heap.size,0,ZY⟩)]) rfl trivial (enters_of func150 (by kernel_rfl) rfl)
  P.out.2.1 (λh k=>h.trans k) (λW l o o' hl _ _ _=>⟨by simp [World.putObj],λk _ E=>World.putObj_heap_other (by omega)⟩) (Below.refl _ _) (λ_=>rfl)
  (QY w w2.heap.size) (λ_ _ _=>False) (QY.UW (by omega)) (λ_ _ _ _ _ h _ _=>h.elim) P.out.1
  (λx=>{ tmps:=#[Z6 (ZX ⟨ar,0,ZY⟩),Z7 Z9 (count:Nat),Z7 Z9 (pages:Nat),ZZ,ZZ,ZZ,Z2 ZV,Z6 (ZX ⟨w.heap.size,0,ZY⟩),Z6 (ZX ⟨ar,0,ZY⟩),Z6 (ZX ⟨ar,0,ZY⟩),Z6 (ZX ⟨ar,8,ZY⟩),.slice d os.length c,.func (.func 150) #[] #[Z6 (ZX ⟨w1.heap.size,0,ZY⟩)],Z7 Z9 (x:Nat),ZZ,ZZ,ZZ,ZZ,ZZ,ZZ,ZZ,ZZ,ZZ,ZZ,ZZ,ZZ,ZZ,ZZ,ZZ],defers:=[] }) ?assign ?body ?done ?stop
 case assign=>
  intro l2 x X Kk hK;unfold pT;gi_wp2;simpa using hK
 case body=>
  rintro l2 pre x X b U;have c1:=b.box.cell;have f1:=b.box.frozen;obtain ⟨pl,s⟩:=nM (pre.length);rw [s] at c1 U;have ka:pl<=1000000:=by omega
  have i:=hide2 b s;clear b s U hy hol;gi_wp2;obtain ⟨b,s⟩:=i.out;have h6:((pre++[x]).length:Nat)=pl+1:=by rw [Ys,s];rfl
  have hs:∀ k,k≠w.heap.size->(X.setCell ⟨w.heap.size,0,ZY⟩ (Z7 Z9 ((pl:Int)+1))).heap[k]?=X.heap[k]?:=λk E=>blk_setCell_other _ _ _ _ E;refine ⟨⟨by simp [World.setCell],λk o E ho _=>?_⟩,⟨by simp [World.setCell],λk E hK=>?_⟩,?_,?_,?_⟩
  . exact (hs k (by omega)).trans ho
  . exact hs k (by omega)
  . rw [h6];exact b.box.set _
  . exact Below.setCell (p:=⟨w.heap.size,0,ZY⟩) b.below lR _
  . have:=b.size;simp [World.setCell];omega
 case done=>
  rintro O xs X k7 k5 b hK;have hm:xs=ah os:=k5;subst hm;have c1:=b.box.cell;obtain ⟨xl,M⟩:=nM ((ah os).length);rw [M] at c1 hy;have HL:=hide M;clear M;have q:=b.below;obtain ⟨j,m,h,u⟩:=H.out;have cX:=(q.cell (p:=⟨ar,0,ZY⟩) j.lt).trans Q;have T:∀ W,bW w W->ZS ZO 139 #[Z6 (ZX ⟨v,0,ZY⟩)] W λe w'=>e=Z3 (Z7 Z9 A.nb)/\w'=W:=λW hb=>m6 (m.keep (hb.block _ m.lt)) (h.below hb lR) hf hn;have i:=hide4 b hK T q;obtain ⟨nb,J⟩:=nM (A.nb);have k9:=hf.nb;rw [J] at i k9;have k6:=hide J;clear J;clear b hK k5 T q j m h u Q;gi_wp2;have k1:IntKind.i64.wrap ((xl:Int)+(count:Int))=(xl:Int)+(count:Int):=by rw [IntKind.wrap_i64];omega
  have k2:IntKind.i64.wrap (2*(pages:Int))=2*(pages:Int):=by rw [IntKind.wrap_i64];omega
  have k3:IntKind.i64.wrap ((xl:Int)+(count:Int)+2*(pages:Int))=(xl:Int)+(count:Int)+2*(pages:Int):=by rw [IntKind.wrap_i64];omega
  have k4:IntKind.i64.wrap ((nb:Int)-2)=(nb:Int)-2:=by rw [IntKind.wrap_i64];omega
  refine wpIn_region_quiet_lit rfl (by kernel_rfl) (by kernel_rfl) ?_;repeat (quiet_step_in (fail))
  refine wpQuietIn_step (by go_simp;intros;trivial) (λK hK=>?_);go_simp;refine ⟨Z7 Z9 (nb:Nat),λa=>⟨λh=>(by cases h),CallsIn.quiet_of_same (callsIn_wide.2 (i.out.2.2.1 _ (i.out.2.2.2.trans ⟨rfl,rfl,rfl,XJ _,λ_ _=>rfl⟩)))⟩,hK _ ?_⟩;clear hK K;repeat (quiet_step_in (fail))
  refine wpQuietIn_nil ?_;intro _ kc;obtain ⟨nq,rfl⟩:=kc;gi_wp2;obtain ⟨b,hK,_,q⟩:=i.out;have hr:(X.drewN nq).heap[O]?=ZX (.deferred (ZX [])):=hK;have k8:bW w (X.drewN nq):=q.trans ⟨rfl,rfl,rfl,XJ _,λ_ _=>rfl⟩;refine Fa (t:=6) (x:=Z2 (decide ((xl:Int)+(count:Int)+2*(pages:Int)<=(nb:Int)-2))) results102 rfl rfl hr ⟨?_,?_⟩
  . rw [HL.out,k6.out];congr 2;exact decide_eq_decide.2 ⟨λh=>by omega,λh=>by omega⟩
  . exact Below.TO k8 (by omega) (XK.1 hr).1 _
 case stop=>
  rintro O z pre X k7 kb hx hK;exact hx.elim
end
def pY:List (Int×Nat×Nat×List Nat)->List ZT
 | []=>[]
 | q::O=>[Z7 Z9 q.1,lB q.2]++pY O
def rk:∀ O a,pY (O++a)=pY O++pY a
 | [],_=>rfl
 | q::O,a=>by simp [pY,rk O a]
def Fe:∀ (O:List (Int×Nat×Nat×List Nat)) (i:Nat) (a:i<O.length),(pY O)[i*2]?=ZX (Z7 Z9 O[i].1)/\(pY O)[i*2+1]?=ZX (lB O[i].2)
 | q::O,0,_=>by simp [pY]
 | q::O,i+1,a=>by
  have:=Fe O i (by simpa using a);have b:(i+1)*2=i*2+2:=by omega
  have c:(i+1)*2+1=i*2+1+2:=by omega
  simp only [pY,List.getElem_cons_succ];refine ⟨?_,?_⟩
  . rw [b];simpa using this.1
  . rw [c];simpa using this.2
structure mS (t:ZQ) (w:ZU) (base:Nat) (v:ZT) (O:List (Int×Nat×Nat×List Nat)):Prop where
 own:w.ownsRow base t 2 v O.length (pY O)
 row:∀ q∈O,base<=q.2.1/\aL w q.2.1 q.2.2.2/\q.2.2.1<=q.2.2.2.length/\(q.2.2.1<=140737488355328/\q.2.2.2.length<=9223372036854775807)/\∀ x∈q.2.2.2,x<256
 nodup:(O.map (λq=>q.2.1)).Nodup
def mS.nil (t:ZQ) (w:ZU) (base:Nat):mS t w base (Z5 ZY 0 0) []:=⟨World.ownsRow_nil _ _ _ _,λq a=>by simp at a,by simp⟩
def mS.below {t:ZQ} {v:ZT} (h:mS t w base v O) (d:bW w w'):mS t w' base v O:=
 ⟨aB h.own d,λq e=>by obtain ⟨a,b,c⟩:=h.row q e;exact ⟨a,b.below d,c⟩,h.nodup⟩
def mS.cases {t:ZQ} {v:ZT} (h:mS t w base v O):(O=[]/\v=Z5 ZY 0 0)\/∃ g cap,v=Z5 (ZX ⟨g,0,ZY⟩) O.length cap/\∀ i (b:i<O.length),w.cell? ⟨g,i*2,ZY⟩=ZX (Z7 Z9 O[i].1)/\w.cell? ⟨g,i*2+1,ZY⟩=ZX (lB O[i].2):=by
 rcases h.own.2 with ⟨c,d⟩|⟨g,cap,cur,a,_⟩
 . exact .inl ⟨X3 d,c⟩
 . refine .inr ⟨g,cap,a,λi b=>?_⟩;have ho:=h.own;rw [a] at ho;obtain ⟨e,f⟩:=Fe O i b;exact ⟨by rw [ho.cellAt (i*2) (by omega)];exact e,by rw [ho.cellAt (i*2+1) (by omega)];exact f⟩
def DF (k n:Nat):eU (k+1) n=eU k n++[Yo n 0]:=by
 unfold eU;rw [List.replicate_succ']
def Tg (w:ZU) (B g r n:Nat) (i:ZT) (wr:ZU):Prop:=
 ∃ k T,k<=r/\i=Z7 Z9 (k:Nat)/\oP wr B g r T/\di T n (eU k n)/\Below B w wr/\B<=wr.heap.size
def O5 (r n:Nat) (w:ZU) (e:ZR) (w':ZU):Prop:=∃ g T,e=Z3 (Z5 (ZX ⟨g,0,ZY⟩) r r)/\iV w' w.heap.size (Z5 (ZX ⟨g,0,ZY⟩) r r) T/\di T n (eU r n)/\bW w w'
theorem pZ (h:di T D M):T.length=M.length:=by simpa using congrArg List.length h
theorem yY (r n:Nat) (w:ZU) (N:r<=32) (M:n<=4096) :
 ZS ZO 172 #[Z7 Z9 r,Z7 Z9 n] w λe w'=>O5 r n w e w':=by
 go_enter func172,ntmps172;go_wp2_with (at_make;refine m0 _ rfl (Z1 7) (Z1 7) rfl _ r rfl rfl rfl (by omega) ?_;intro wc m g G;clear G);have o:oP wc w.heap.size w.heap.size r []:=⟨m.congr (λi _=>by simp [shv]),λp j=>by simp at j,by simp⟩;have u:=g.size;clear m;go_loopw [11] (λi wr=>Tg w w.heap.size w.heap.size r n i wr) (λi _=>r-(intOf i).toNat)
 case atStart=>exact ⟨0,[],XL _,rfl,o,rfl,g,u⟩
 case round=>
  clear o g u;rename ZU=>wo;obtain ⟨k,T,L,rfl,h,a,t,E⟩:=hrel;have f:=pZ a;have A:T.length=k:=by rw [f];simp [eU]
  by_cases D:k<r
  . have c:=hide a;have H:=hide f;clear a f
    go_wp2_with (at_make;refine eH _ rfl (Z1 16) (Z1 16) rfl _ n rfl rfl rfl (by omega) ?_;intro w2 B s K
                 have d:=h.below s;have I:=d.TQ.cell (i:=k) D;have J:=d.TQ.frozen k)
    have q:=d.push (b:=wo.heap.size) (n:=n) (l:=Yo n 0) (by omega) B (by simp) (by simp;omega) (by intro x F;have:=YG F;omega) (λp j e=>by have:=(h.row p j).2.1.lt;omega);rw [A,List.length_replicate] at q;refine ⟨⟨k+1,_,by omega,by go_num,q,?_,(t.trans (s.mono E)).setCell (by simp) _,by simp;omega⟩,by simp [intOf];omega⟩;have y:=c.out;unfold di at y ⊢;rw [DF,X5,X5,y];rfl
  . have C:k=r:=(by omega);subst C;have v:=h.done (by omega) lR (by unfold maxLen;omega);have z:=hide v;have c:=hide a;clear v a;go_wp2;go_ret;exact ⟨_,T,rfl,z.out,c.out,t⟩
theorem J5 (w:ZU) (f:ZQ) (g n cap:Nat) (old src:List Nat) (ao:Option Addr) (c:Nat) (d:aL w g old) (B:Bs w (.slice ao src.length c) src) (D:src.length=n) (ho:old.length=n) :
 ∃ w',(Builtin.copy_ #[34,34] f #[Z5 (ZX ⟨g,0,ZY⟩) n cap,.slice ao src.length c]).run ZO w=.ok (Z7 Z9 (n:Nat)) w'/\aL w' g src/\w.grownBy w' (ZX g):=by
 subst D;have o:(ZO.info? 5).map (λi=>i.size)=ZX 1:=by kernel_rfl
 by_cases a:src.length=0
 . have A:src=[]:=X3 a;have z:old=[]:=X3 (by omega);subst A z;exact ⟨w,run_copy_none (P:=ZO) w 34 34 f 5 (ZX ⟨g,0,ZY⟩) ao 0 cap 0 c underlying34 o (by simp),d,World.grownBy.refl _ _⟩
 . obtain ⟨s,E,e,_,_,G,u⟩:=B;simp at e;obtain ⟨b,off,h,C⟩:=u (by intro e;rw [e] at a;simp at a);rw [<- e.1] at h;subst h;have l:=run_copy_row (P:=ZO) w 34 34 f 5 g 0 src.length cap ⟨b,off,ZY⟩ src.length c _ 5 (bv src) underlying34 o d.heap (by simp [bv]) (λj v p=>by
    have m:j<src.length:=by
     obtain ⟨q,_⟩:=Yl.1 p;simpa [bv] using q
    rw [Addr.add_mid,C j m,<- p];simp [bv,m]) (by simp [bv];omega) (by intro v r;simp [bv] at r;obtain ⟨x,_,rfl⟩:=r;rfl)
   have t:(List.take 0 (List.map (λx=>Value.int .u8 ((x:Nat):Int)) old).toArray.toList++bv src++List.drop (0+(bv src).length) (List.map (λx=>Value.int .u8 ((x:Nat):Int)) old).toArray.toList)=src.map (λx=>Value.int .u8 ((x:Nat):Int)):=by
    simp [bv];omega
   rw [t] at l;refine ⟨w.setRow g (src.map (λx=>Value.int .u8 ((x:Nat):Int))).toArray,by rw [l];simp [bv,goInt],?_,?_⟩
   . exact aL.of_heap (setRow_heap w g (old.map (λx=>Value.int .u8 ((x:Nat):Int))).toArray (src.map (λx=>Value.int .u8 ((x:Nat):Int))).toArray 5 _ d.heap)
   . refine ⟨rfl,rfl,rfl,by simp [World.setRow],λk F y=>setRow_other w g k _ (λe=>y (by rw [e]))⟩
def Gy {K:Act->ZU->Prop} {E:Prop} (b:o.guard=ZY) (d s:Operand) (ho:o.op=.call { callee:=.builtin .copy,args:=#[d,s],argTypes:=#[34,34] })
 (vd vs v':ZT) (hd:a.eval d=vd) (hs:a.eval s=vs) (h0:(Builtin.copy_ #[34,34] o.type #[vd,vs]).run ZO w=.ok v' w') (h:K (a.put o.dst v') w'):if Region.wanted o (yielded ops a.tmps)=ZW then Oper.wp ZO o a w K Q else E:=by
 rw [if_pos (by simp [Region.wanted,b])];unfold Oper.wp;simp [execOp,ho,resolve,invoke,builtin,hd,hs,h0,Result.andThen];exact h
def yZ {v:ZT} (h:w.ownsRow base 252 2 v n xs) {b:Nat} {l:List Nat} (i:aL w b l):v.ownBlock≠ZX b:=by
 intro e;rcases h.2 with ⟨f,_⟩|⟨g,cap,cur,d,k,a,_⟩
 . rw [f] at e;simp [Value.ownBlock] at e
 . rw [d] at e;simp [Value.ownBlock] at e;subst e;obtain ⟨c,j,_⟩:=i;rw [j] at a;simp at a
def mS.aside {v:ZT} (h:mS 252 w base v O) (j:aL w b l) (f:w.grownBy w' (ZX b)) (i:∀ q∈O,q.2.1≠b):mS 252 w' base v O:=
 ⟨h.own.kept f (.inr (yZ h.own j)),λq g=>by
  obtain ⟨a,c,d⟩:=h.row q g;exact ⟨a,c.grown f (by intro e;simp at e;exact i q g e),d⟩,h.nodup⟩
def Gz {R:List (List Nat)} (h:di T n R) (i:Nat) (b:i<T.length) (l:List Nat):di (T.set i (T[i].1,T[i].2.1,l)) n (R.set i l):=by
 have c:=pZ h;have a:=h.at b (by omega);unfold di at *;rw [List.map_set,List.map_set,h,a]
section
open Go.ChangeShapes Go.WideShapes
abbrev tj:List (String×DataW Unit):=[("math/bits.deBruijn64tab",Rows.laid_math_bits_deBruijn64tab),("errors.errorType",Rows.laid_errors_errorType),("stripes/record.halves",Rows.laid_stripes_record_halves)]
def Ff:List Int:=(XG 64).map λj=>((Lib.deBruijn64tab.getD j 0:Nat):Int)
def rZ:List Int:=dW.map λ(x:Nat)=>(x:Int)
def Tryz.Wh:ZO.globalNamed "math/bits.deBruijn64tab"=ZX 1:=by kernel_rfl
def Tryz.Vr:(ZO.globals[1]?).map (·.type)=ZX 134:=by kernel_rfl
def Tryz.U6:ZO.cellsOf 134=64:=by kernel_rfl
def Tryz.UC:ZO.cellsOf 5=1:=by kernel_rfl
def Tryz.hv3:ZO.globalNamed "stripes/record.halves"=ZX 2:=by kernel_rfl
def Tryz.Vv:(ZO.globals[2]?).map (·.type)=ZX 312:=by kernel_rfl
def Tryz.Vj:ZO.cellsOf 312=16:=by kernel_rfl
def Tryz.UV:ZO.cellsOf 296=1:=by kernel_rfl
def GA:(Rows.laid_math_bits_deBruijn64tab:DataW Unit)=Lib.tabData .u8 Ff:=by rfl
def J6:(Rows.laid_stripes_record_halves:DataW Unit)=Lib.tabData .u32 rZ:=by rfl
def GB {x:String×DataW Unit} {r:List (String×DataW Unit)} (h:laidMet P (x::r) w):laidMet P r w:=by
 obtain ⟨ps,i,c,a⟩:=h;obtain ⟨n,d⟩:=x;obtain ⟨g,t,cs,fuel,p,q,_,_,_,_,f,rfl⟩:=i;exact ⟨q,f,List.Nodup.sublist (List.sublist_append_right _ _) c,λb off e=>a b off (List.mem_append_right _ e)⟩
theorem AV (h:laidMetH ZO tj W):cf W/\aJ W/\bk W/\3<=W.heap.size:=by
 have d:laidMet ZO [("math/bits.deBruijn64tab",Rows.laid_math_bits_deBruijn64tab),("stripes/record.halves",Rows.laid_stripes_record_halves)] W/\handlesMet ZO [("errors.errorType",Rows.laid_errors_errorType)] W:=h;have m:cf W:=sZ (show laidMetH ZO [("errors.errorType",Rows.laid_errors_errorType)] W from ⟨⟨[],rfl,List.nodup_nil,λb off l=>by cases l⟩,d.2⟩);have c:=d.1;have e:=GB c;rw [GA] at c;rw [J6] at e;have p:=Lib.tabIs_of_head Tryz.Wh Tryz.Vr underlying134 underlying5 Tryz.UC Tryz.U6 c;have n:=Lib.tabIs_of_head Tryz.hv3 Tryz.Vv underlying312 underlying296 Tryz.UV Tryz.Vj e;have g:aJ W:=λj a=>by
  have:=p.cell Tryz.Wh j (by simpa [Ff] using a);rw [this];unfold Ff;simp [a]
 have f:bk W:=λj a=>by
  have o:dW.length=16:=rfl;have:=n.cell Tryz.hv3 j (by unfold rZ;rw [XN,o];exact a);rw [this];unfold rZ;congr 2;rw [Yc,Yc,YM,X6 (by omega)];rfl
 refine ⟨m,g,f,?_⟩;have i:=block_lt_of_cell (g 0 (by decide));have k:=block_lt_of_cell (f 0 (by decide));have q:1<W.heap.size:=i;have r:2<W.heap.size:=k;omega
noncomputable def tl (os:Os):ZU:=
 { World.holding ZO os ⟨#[],#[],[]⟩ with heap:=(((World.holding ZO os ⟨#[],#[],[]⟩).heap.modify 0 fun|Z4 _ t frozen=>Z4 #[.iface 148 (.agg #[Z6 (ZX ⟨3,63,ZY⟩)])] t frozen|o=>o).modify 1 fun|Z4 _ t frozen=>Z4 (Ff.map λz=>Value.int .u8 z).toArray t frozen|o=>o).modify 2 fun|Z4 _ t frozen=>Z4 (rZ.map λz=>Value.int .u32 z).toArray t frozen|o=>o }
def tn (os:Os) (args:Array ZT):laidMetH ZO tj ((tl os).forCall (λ_ _=>0) ⟨#[],args,[]⟩).memory:=
 laidMetH_of_parts (laidMet_of_run' 8 (by kernel_rfl) (by kernel_rfl)) (by kernel_rfl)
def AW {H:Type} {enc:ZQ×ZT->H} {spare:Nat->Bool} {held:Bool} {t0 t1 t2 t3 t4:ZQ} {v0 v1 v2 v3 v4:ZT} {d0 d1 d2 d3 d4:DataW H} {p0 p1 p2 p3 p4:List MemPlace} (a:DataW.Trod enc P w base spare held t0 v0 d0 p0) (b:DataW.Trod enc P w base spare held t1 v1 d1 p1) (c:DataW.Trod enc P w base spare held t2 v2 d2 p2) (d:DataW.Trod enc P w base spare held t3 v3 d3 p3) (e:DataW.Trod enc P w base spare held t4 v4 d4 p4) :
 DataW.TrodAll enc P w base spare held [t0,t1,t2,t3,t4] [v0,v1,v2,v3,v4] [d0,d1,d2,d3,d4] (p0++(p1++(p2++(p3++p4)))):=⟨p0,p1++(p2++(p3++p4)),a,trodAll_mk4 b c d e,rfl⟩
end
