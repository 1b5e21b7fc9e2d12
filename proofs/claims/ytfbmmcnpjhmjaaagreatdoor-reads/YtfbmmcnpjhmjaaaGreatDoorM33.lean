import Derived.Test.YtfbmmcnpjhmjaaaGreatDoorM30
import Derived.Test.YtfbmmcnpjhmjaaaGreatDoorM31
import Derived.Test.YtfbmmcnpjhmjaaaGreatDoorM32
set_option maxRecDepth 100000
set_option maxHeartbeats 8000000
open Go.Value renaming pointer -> Z9
open Go.Operand renaming tmp -> Z8
open Option renaming none -> Z7, some -> Z6
open Bool renaming true -> Z5, false -> Z4
open List renaming range -> Tm, getElem_mem -> Tn, getD_eq_getElem?_getD -> To, length_map -> Tp, map_congr_left -> Tq, length_range -> Tr, mem_map -> Ts, mem_range -> Tt, mem_filter -> Tu, eq_nil_of_length_eq_zero -> Tw, append_assoc -> Tx, getElem?_append_left -> Ty, mem_flatten -> Tz, length_append -> TB, getElem_of_mem -> TC, getElem?_append_right -> TD, take_length -> TN, getElem?_set -> TO, mem_cons -> TQ, length_filter_le -> TR, take_succ_eq_append_getElem -> TT, range_succ -> TU, length_set -> TV
open Nat renaming xor_zero -> Tv, le_trans -> TA, add_sub_cancel_left -> TE, pos_of_ne_zero -> TF, mul_comm -> TG, le_refl -> TH, pow_le_pow_right -> TI, testBit_and -> TJ, testBit_two_pow_sub_one -> TK, two_pow_pos -> TL, testBit_eq_decide_div_mod_eq -> TS, div_mul_cancel -> TX, dvd_of_mod_eq_zero -> TY
open Bool renaming and_eq_true -> TM
open Option.some renaming inj -> TP
open Int renaming toNat_natCast -> TW
open Array renaming getElem?_eq_some_iff -> TZ
namespace Go.Proofs.YtfbmmcnpjhmjaaaGreatDoor
open Go.RowKit Go.Deep Gf
variable {A:aB} {B C:Ck} {F:bx} {M:List (List Nat)} {l:List Nat} {P:List St} {n lost i D L G gone kept m k g p ar ps ho d:Nat} {v:Value} {w:World}
def av (n lost:Nat):Nat:=lost &&& (2^n-1)
def bw (n lost:Nat):Nat:=(2^n-1) &&& (18446744073709551615-av n lost)
theorem vJ (h:n<=16):2^n<=65536:=TI (n:=2) (i:=n) (j:=16) (by decide) h
theorem gV (n lost i:Nat):(av n lost).testBit i=(lost.testBit i&&decide (i<n)):=by unfold av;rw [TJ,TK]
theorem ou (lost:Nat) (h:n<=16):av n lost<65536:=by
 have a:=vJ h;have b:av n lost<=2^n-1:=Nat.and_le_right;have c:0<2^n:=TL n;omega
theorem Aj (lost:Nat) (h:n<=16):bw n lost<65536:=by
 have a:=vJ h;have b:bw n lost<=2^n-1:=Nat.and_le_left;have c:0<2^n:=TL n;omega
theorem jL (lost i:Nat) (h:n<=16):(bw n lost).testBit i=(decide (i<n) && !lost.testBit i):=by
 have b:=ou lost h;unfold bw;rw [TJ,TK,show 18446744073709551615-av n lost=2^64-(av n lost+1) by omega,Nat.testBit_two_pow_sub_succ (by omega),gV];by_cases a:i<n
 . simp [a,show i<64 by omega]
 . simp [a]
theorem cH (h:n<=16):i∈ae (av n lost)↔i<n/\lost.testBit i=Z5:=by
 rw [bM,gV];simp only [TM,decide_eq_true_eq];constructor
 . rintro ⟨_,a,b⟩;exact ⟨b,a⟩
 . rintro ⟨a,b⟩;exact ⟨by omega,b,a⟩
theorem lB (h:n<=16):i∈ae (bw n lost)↔i<n/\lost.testBit i=Z4:=by
 rw [bM,jL lost i h];simp only [TM,decide_eq_true_eq,Bool.not_eq_true'];constructor
 . rintro ⟨_,a,b⟩;exact ⟨a,b⟩
 . rintro ⟨a,b⟩;exact ⟨by omega,a,b⟩
theorem kl (s:Nat):(ae s).Nodup:=List.Pairwise.filter _ List.nodup_range
theorem Jm {B:Nat} {T:List (Nat×Nat×List Nat)} (h:iL w B v T) (d:cZ T D M) (k:∀ r∈M,r.length=D) (m:M≠[]) :
 ∃ g c,v=.slice (Z6 ⟨g,0,Z7⟩) M.length c/\M.length<=c/\∀ i (b:i<M.length),∃ u,w.cell? ⟨g,0+i,Z7⟩=Z6 u/\Bs w u M[i]:=by
 have f:T.length=M.length:=by simpa using congrArg List.length d
 rcases h.own.2 with ⟨_,n⟩|⟨g,c,cur,rfl,_,_,o,_⟩
 . exact absurd (Tw (by omega)) m
 . refine ⟨g,c,by rw [f],by omega,λi b=>?_⟩;have a:i<T.length:=(by omega);refine ⟨lg T[i],by rw [Nat.zero_add];exact h.cell_at a,?_⟩;have:=h.row_at a;have j:T[i].2=(D,M[i]):=by
    have:=congrArg (λl=>l[i]?) d;simpa [a,b] using this
   rw [j] at this;have e:(M[i]).take D=M[i]:=(by rw [<- k _ (Tn b),TN]);rw [e] at this;exact this
theorem Ej (D L G i:Nat) (a:i<D):(aL D L G).getD i []=dw D i:=by
 unfold aL;rw [Tx,To,Ty (by simpa using a)];simp [a]
theorem iz (D L G:Nat) (c:D<=12) (d:G<=4):Gf.Code (mf (aL D L G)) D (L+G):=by
 refine ⟨λi j=>?_,λi a j=>?_,λi j b=>?_⟩
 . unfold mf;by_cases a:i<(aL D L G).length
   . have e:(aL D L G).getD i []=(aL D L G)[i]:=(by simp [a]);rw [e];exact eA (nO D L G c d _ (Tn a)) j
   . have e:(aL D L G).getD i []=[]:=(by simp [a]);rw [e];simp
 . unfold mf;rw [Ej D L G i a];unfold dw;rw [To,TO];by_cases e:i=j
   . subst e;simp [a]
   . simp only [e,if_false];rw [if_neg (λh=>e h.symm)];by_cases b:j<D
     . simp [b]
     . simp [b]
 . unfold mf;by_cases a:i<(aL D L G).length
   . have e:(aL D L G).getD i []=(aL D L G)[i]:=(by simp [a]);have f:=lZ D L G _ (Tn a);rw [e,To,List.getElem?_eq_none (by omega)];rfl
   . have e:(aL D L G).getD i []=[]:=(by simp [a]);rw [e];simp
def fE (D L G:Nat):Ck:=ck0 (mf (aL D L G)) D (L+G)
theorem xP (d:D<=12) (g:L<=4) (f:G<=4) {pre:List Nat} {C:Ck} (h:tells (fE D L G) pre=Z6 C):dU C:=by
 rcases (iz D L G d f).told pre with ⟨c,a,b⟩|⟨a,_⟩
 . have e:tells (fE D L G) pre=Z6 c:=a;rw [h] at e;obtain rfl:=TP e;exact ⟨b.byt,b.le,by have:C.count=L+G:=b.count;omega⟩
 . have e:tells (fE D L G) pre=Z7:=a;rw [h] at e;cases e
theorem CZ {s:St} (h:s∈fG B gone kept):(∃ i∈ae kept,s=⟨0,0,(i:Int),0⟩)\/(∃ i∈ae kept,∃ r,r<B.told/\s=⟨1,1+(r:Int),0,B.m r i⟩)\/(∃ k,∃ d:k<(ae gone).length,s=⟨2,(k:Int)+1,((ae gone)[k]:Int),0⟩):=by
 unfold fG wrTo at h;rcases List.mem_append.1 h with h|h
 . obtain ⟨l,f,a⟩:=Tz.1 h;obtain ⟨i,c,rfl⟩:=Ts.1 f;cases hr:cJ B i
   . rw [lD hr] at a;cases a
   . rw [gW hr] at a;rcases TQ.1 a with rfl|a
     . exact .inl ⟨i,c,rfl⟩
     . unfold gk at a;obtain ⟨r,e,rfl⟩:=Ts.1 a;exact .inr (.inl ⟨i,c,r,Tt.1 (Tu.1 e).1,rfl⟩)
 . unfold fw at h;obtain ⟨k,d,rfl⟩:=Ts.1 h;have b:=Tt.1 d;exact .inr (.inr ⟨k,b,by simp [b]⟩)
theorem NQ (gone kept:Nat) (e:B.told<=8):(fG B gone kept).length<=160:=by
 have b:=rh B (ae kept);have a:∀ s,(ae s).length<=16:=λs=>TA (TR _ _) (by simp);have c:(ae kept).length*(B.told+1)<=16*9:=Nat.mul_le_mul (a kept) (by omega);have d:=a gone;unfold fG fw;simp only [TB,Tp,Tr];omega
theorem Px (h:B.told=(ae gone).length) (b:B.told<=8) (g:∀ i∈ae kept,i<n) (d:∀ i∈ae gone,i<n):iB (1+((ae gone).length:Int)) (fG B gone kept) (n:Int):=by
 have l:=NQ gone kept b;refine ⟨⟨by omega,by omega,by omega⟩,λi f=>?_⟩;rcases CZ (Tn f) with ⟨j,a,e⟩|⟨j,a,r,m,e⟩|⟨k,c,e⟩
 . have:=g j a;rw [e];exact .inl ⟨.inl rfl,by show (0:Int)<=0;omega,by show (0:Int)<_;omega,by show (0:Int)<=(j:Int);omega,by show (j:Int)<_;omega⟩
 . rw [e];exact .inr ⟨rfl,by show (0:Int)<=1+(r:Int);omega,by show (1+(r:Int))<_;omega,by show (0:Int)<=0;omega,by show (0:Int)<_;omega,by show (1+(r:Int))≠0;omega⟩
 . have:=d _ (Tn c);rw [e];exact .inl ⟨.inr rfl,by show (0:Int)<=(k:Int)+1;omega,by show ((k:Int)+1)<_;omega,by show (0:Int)<=((ae gone)[k]:Int);omega,by show ((ae gone)[k]:Int)<_;omega⟩
theorem LO {α:Type} (L:List α) (f:α->List Nat) (v:Nat->Nat):oU (L.map f) 0 v↔∃ x∈L,v=kO (f x):=by
 unfold oU;constructor
 . rintro ⟨i,a,_,rfl⟩;have b:i<L.length:=(by simpa using a);exact ⟨L[i],Tn b,by simp⟩
 . rintro ⟨x,c,rfl⟩;obtain ⟨i,a,rfl⟩:=TC c;exact ⟨i,by simpa using a,Nat.zero_le _,by simp⟩
theorem El (x i:Nat):x/2^i%2=0↔x.testBit i=Z4:=by
 rw [TS];simp
theorem Ap (M:List (List Nat)) (lost n:Nat) (h:n<=16):oU (cB M lost n) 0=IV (mf M) n (λi=>i∉ae (av n lost)):=by
 funext v;apply propext;unfold cB;rw [LO];unfold IV;constructor
 . rintro ⟨i,a,rfl⟩;obtain ⟨c,d⟩:=Tu.1 a;refine ⟨i,Tt.1 c,λb=>?_,rfl⟩;have:=(cH h).1 b;rw [(El lost i).1 (of_decide_eq_true d)] at this;exact absurd this.2 (by decide)
 . rintro ⟨i,a,b,rfl⟩;refine ⟨i,Tu.2 ⟨Tt.2 a,decide_eq_true ((El lost i).2 ?_)⟩,rfl⟩;cases hb:lost.testBit i
   . rfl
   . exact absurd ((cH h).2 ⟨a,hb⟩) b
theorem sA (g:D<=12) (k:G<=4) (h:D+L+G<=16):zR D L G lost↔∃ C,tells (fE D L G) (ae (av (D+L+G) lost))=Z6 C:=by
 have a:=iz D L G g k;have e:D+(L+G)=D+L+G:=by omega
 unfold zR;rw [Ap _ _ _ h];constructor
 . intro j;rcases a.told (ae (av (D+L+G) lost)) with ⟨C,b,_⟩|⟨_,c⟩
   . exact ⟨C,b⟩
   . refine absurd ?_ (a.not_full (kl _) (λi l=>by rw [e];exact ((cH h).1 l).1) c);rw [e];exact j
 . rintro ⟨C,f⟩;rcases a.told (ae (av (D+L+G) lost)) with ⟨m,_,c⟩|⟨b,_⟩
   . have:=a.full c;rw [e] at this;exact this
   . have d:tells (fE D L G) (ae (av (D+L+G) lost))=Z7:=b;rw [f] at d;cases d
theorem oy (g:D<=12) (h:G<=4) {C:Ck} (d:tells (fE D L G) (ae (av (D+L+G) lost))=Z6 C) :
 Fq (mf (aL D L G)) D (L+G) (ae (av (D+L+G) lost)) (aS 8 C (bw (D+L+G) lost)).1/\dQ (ck0 (mf (aL D L G)) D (L+G)) (qM (mf (aL D L G)) D (D+(L+G))) (ae (av (D+L+G) lost)) C:=by
 have e:=iz D L G g h;rcases e.told (ae (av (D+L+G) lost)) with ⟨f,b,c⟩|⟨b,_⟩
 . have a:tells (fE D L G) (ae (av (D+L+G) lost))=Z6 f:=b;rw [d] at a;obtain rfl:=TP a;exact ⟨e.plan c (xA 8 C _).1,c⟩
 . have a:tells (fE D L G) (ae (av (D+L+G) lost))=Z7:=b;rw [d] at a;cases a
def cK (D L G lost:Nat) (C:Ck):List St:=fG (aS 8 C (bw (D+L+G) lost)).1 (av (D+L+G) lost) (bw (D+L+G) lost)
section
def kZ (D:List (List Nat)) (R:List (List Nat)) (P:List St):List (List Nat):=P.foldl (λR s=>dA D s R) R
theorem sF (D R:List (List Nat)):kZ D R []=R:=rfl
theorem F3 (D R:List (List Nat)) (s:St) (P:List St):kZ D R (s::P)=kZ D (dA D s R) P:=rfl
theorem lE (D R:List (List Nat)) (P Q:List St):kZ D R (P++Q)=kZ D (kZ D R P) Q:=by unfold kZ;rw [List.foldl_append]
theorem sG (P:List St) (D a:List (List Nat)):∀ k,k<=P.length->bO P D a k=kZ D a (P.take k)
 | 0,_=>by simp [bO,kZ]
 | k+1,h=>by
  have b:k<P.length:=by omega
  show dA D (bI P k) (bO P D a k)=_;rw [sG P D a k (by omega),dI P k b,TT b,lE];rfl
theorem sH (P:List St) (D a:List (List Nat)):∀ k,k<=P.length->(∀ i (h:i<P.length),i<k->P[i].k≠2)->dj P D a k=[]
 | 0,_,_=>rfl
 | k+1,h,hn=>by
  have b:k<P.length:=by omega
  show gS (bI P k) _ _=[];rw [sH P D a k (by omega) (λi c d=>hn i c (by omega)),dI P k b];unfold gS;rw [if_neg (hn k b (by omega))]
theorem Aw (D R:List (List Nat)) {s:St} (h:s.k=2):dA D s R=R:=by
 unfold dA;rw [if_neg (by omega),if_neg (by omega)]
theorem sI (A Q:List St) (D c:List (List Nat)) (g:∀ s∈A,s.k≠2) (j:∀ s∈Q,s.k=2):∀ k,k<=Q.length ->
 bO (A++Q) D c (A.length+k)=kZ D c A/\dj (A++Q) D c (A.length+k)=(Q.take k).map (λs=>(s.b,(kZ D c A).getD s.a.toNat []))
 | 0,_=>by
  refine ⟨?_,?_⟩
  . rw [Nat.add_zero,sG _ _ _ _ (by simp)];simp
  . rw [Nat.add_zero,sH _ _ _ _ (by simp) (λi l d=>by rw [List.getElem_append_left d];exact g _ (Tn d))];simp
 | k+1,h=>by
  obtain ⟨e,o⟩:=sI A Q D c g j k (by omega);have m:k<Q.length:=by omega
  have l:A.length+k<(A++Q).length:=by simp;omega
  have n:bI (A++Q) (A.length+k)=Q[k]:=by rw [dI _ _ l,List.getElem_append_right (by omega)];simp
  have f:=j _ (Tn m);refine ⟨?_,?_⟩
  . show dA D (bI (A++Q) (A.length+k)) (bO (A++Q) D c (A.length+k))=_;rw [n,e,Aw D _ f]
  . show gS (bI (A++Q) (A.length+k)) (bO (A++Q) D c (A.length+k)) (dj (A++Q) D c (A.length+k))=_;rw [n,e,o];unfold gS;rw [if_pos f,TT m,List.map_append];rfl
def xl (f:Nat->Nat) (K:List Nat):Nat:=K.foldr (λi a=>f i^^^a) 0
theorem JB (f:Nat->Nat):xl f []=0:=rfl
theorem xX (f:Nat->Nat) (i:Nat) (K:List Nat):xl f (i::K)=f i^^^xl f K:=rfl
theorem Ay (f:Nat->Nat) (p:Nat->Bool):∀ n,xl f ((Tm n).filter p)=xs (λi=>if p i=Z5 then f i else 0) n
 | 0=>rfl
 | n+1=>by
  have b:∀ A B:List Nat,xl f (A++B)=xl f A^^^xl f B:=by
   intro A B;induction A with
   | nil=>rw [List.nil_append,JB,Nat.zero_xor]
   | cons a A ih=>rw [List.cons_append,xX,xX,ih,Nat.xor_assoc]
  rw [TU,List.filter_append,b,Ay f p n];show _=xs _ n^^^(if p n=Z5 then f n else 0);congr 1;by_cases h:p n=Z5
  . rw [if_pos h];simp [h,xl]
  . rw [if_neg h];simp [h,xl]
structure Rg (R:List (List Nat)) (T m:Nat) (v:Nat->Nat->Nat):Prop where
 len:R.length=1+T
 row:∀ r,r<T->R.getD (1+r) []=(Tm m).map (v r)
theorem oC {R:List (List Nat)} {a b:Nat} {x:List Nat} (c:a<R.length):(R.set a x).getD b []=if a=b then x else R.getD b []:=by
 rw [To,TO];by_cases e:a=b
 . subst e;simp [c]
 . simp [e]
theorem Db (m:Nat) (v:Nat->Nat) (y:List Nat) (c:Nat):iD ((Tm m).map v) y c=(Tm m).map (λq=>v q^^^gm c (y.getD q 0)):=by
 unfold iD;rw [Tp,Tr];apply Tq;intro q a;have:=Tt.1 a;simp [this]
theorem Az (B:Ck) (D:List (List Nat)) (i T m:Nat) (y:List Nat) (v:Nat->Nat->Nat) {R:List (List Nat)} (h:Rg R T m v) (l:R.getD 0 []=y):∀ k,k<=T ->
 (kZ D R (gk B i k)).getD 0 []=y/\Rg (kZ D R (gk B i k)) T m (λr q=>if r<k then v r q^^^gm (B.m r i) (y.getD q 0) else v r q)
 | 0,_=>by rw [sy,sF];exact ⟨l,h.len,λr d=>by rw [h.row r d];simp⟩
 | k+1,hk=>by
  obtain ⟨f,a⟩:=Az B D i T m y v h l k (by omega);by_cases g:B.m k i=0
  . rw [vM B i k g];refine ⟨f,a.len,λr d=>?_⟩;rw [a.row r d];apply Tq;intro q _;by_cases c:r<k
    . rw [if_pos c,if_pos (by omega)]
    . by_cases e:r=k
      . subst e;rw [if_neg c,if_pos (by omega),g,Si,Tv]
      . rw [if_neg c,if_neg (by omega)]
  . rw [An B i k g,lE];generalize h5:kZ D R (gk B i k)=b at f a;have n:kZ D b [⟨1,1+(k:Int),0,B.m k i⟩]=b.set (1+k) (iD (b.getD (1+k) []) (b.getD 0 []) (B.m k i)):=by
     show dA D ⟨1,1+(k:Int),0,B.m k i⟩ b=_;unfold dA;have e:(1+(k:Int)).toNat=1+k:=(by omega);simp only [e];rw [if_neg (by decide),if_pos trivial];rfl
    have j:1+k<b.length:=(by rw [a.len];omega);rw [n];refine ⟨by rw [oC j,if_neg (by omega)];exact f,by rw [TV];exact a.len,λr d=>?_⟩;rw [oC j,f];by_cases e:r=k
    . subst e;rw [if_pos rfl,a.row r d,Db];apply Tq;intro q _;rw [if_neg (by omega),if_pos (by omega)]
    . rw [if_neg (by omega),a.row r d];apply Tq;intro q _;by_cases c:r<k
      . rw [if_pos c,if_pos (by omega)]
      . rw [if_neg c,if_neg (by omega)]
theorem L0 (B:Ck) (D:List (List Nat)) (i m:Nat) (v:Nat->Nat->Nat) {R:List (List Nat)} (a:Rg R B.told m v):Rg (kZ D R (lC B i)) B.told m (λr q=>v r q^^^gm (B.m r i) ((D.getD i []).getD q 0)):=by
 cases hr:cJ B i
 . rw [lD hr,sF];refine ⟨a.len,λr h=>?_⟩;rw [a.row r h];apply Tq;intro q _;rw [gM.1 hr r h,Si,Tv]
 . rw [gW hr,F3];have b:0<R.length:=(by rw [a.len];omega);have e:dA D ⟨0,0,(i:Int),0⟩ R=R.set 0 (D.getD i []):=by
    unfold dA;rw [if_pos rfl];rfl
   rw [e];have d:Rg (R.set 0 (D.getD i [])) B.told m v:=⟨by rw [TV];exact a.len,λr h=>by rw [oC b,if_neg (by omega)];exact a.row r h⟩;obtain ⟨_,c⟩:=Az B D i B.told m (D.getD i []) v d (by rw [oC b,if_pos rfl]) B.told lR;refine ⟨c.len,λr h=>?_⟩;rw [c.row r h];apply Tq;intro q _;rw [if_pos h]
theorem JC (B:Ck) (D:List (List Nat)) (m:Nat):∀ (K:List Nat) (v:Nat->Nat->Nat) (R:List (List Nat)),Rg R B.told m v->Rg (kZ D R (wrTo B K)) B.told m (λr q=>v r q^^^xl (λi=>gm (B.m r i) ((D.getD i []).getD q 0)) K)
 | [],v,R,h=>by
  rw [show wrTo B []=[] from rfl,sF];exact ⟨h.len,λr a=>by rw [h.row r a];simp [JB]⟩
 | i::K,v,R,h=>by
  have e:wrTo B (i::K)=lC B i++wrTo B K:=by unfold wrTo;simp
  rw [e,lE];have:=JC B D m K _ _ (L0 B D i m v h);refine ⟨this.len,λr a=>?_⟩;rw [this.row r a];apply Tq;intro q _;rw [xX,Nat.xor_assoc]
theorem JD (T m:Nat):Rg (eL (1+T) m) T m (λ_ _=>0):=by
 refine ⟨by simp [eL],λr a=>?_⟩;unfold eL;have:1+r<1+T:=by omega
 rw [To,List.getElem?_replicate,if_pos this];simp [List.map_const']
theorem JE {D:List (List Nat)} (h:∀ s∈P,s.k=0->(D.getD s.b.toNat []).length=m):∀ k,k<=P.length->fl P D k=Z7\/fl P D k=Z6 m
 | 0,_=>.inl rfl
 | k+1,hk=>by
  rcases JE h k (by omega) with e|e
  . by_cases a:(bI P k).k=0
    . rw [xV P D k e a];rw [dI P k (by omega)] at a ⊢;exact .inr (by rw [h _ (Tn _) a])
    . rw [sC P D k a];exact .inl e
  . exact .inr (oA P D k m e)
theorem AA {D:List (List Nat)} (h:∀ s∈P,s.k=0->(D.getD s.b.toNat []).length=m) {k:Nat} (a:k<P.length) (c:P[k].k=0):fl P D (k+1)=Z6 m:=by
 rcases JE h k (by omega) with e|e
 . rw [xV P D k e (by rw [dI P k a];exact c),dI P k a,h _ (Tn a) c]
 . exact oA P D k m e
def Hk (S:List (List Nat)) (lost:Nat):List (List Nat):=(Tm S.length).map (λi=>if lost.testBit i=Z5 then [] else S.getD i [])
theorem xY (S:List (List Nat)) (lost i:Nat) (a:i<S.length):(Hk S lost).getD i []=if lost.testBit i=Z5 then [] else S.getD i []:=by simp [Hk,a]
theorem JF (row:List Nat) (Dt:List (List Nat)) (q:Nat):∀ t,LZ row Dt t q=xs (λj=>gm (row.getD j 0) ((Dt.getD j []).getD q 0)) t
 | 0=>rfl
 | t+1=>by
  show LZ row Dt t q^^^gm (row.getD t 0) ((Dt.getD t []).getD q 0)=xs (λj=>gm (row.getD j 0) ((Dt.getD j []).getD q 0)) t^^^gm (row.getD t 0) ((Dt.getD t []).getD q 0);rw [JF row Dt q t]
theorem N2 (a:i<M.length) (j:Nat):mf M i j=(M[i]).getD j 0:=by unfold mf;simp [a]
theorem xZ (M Dt:List (List Nat)) (m i:Nat) (a:i<M.length):(dB M Dt m).getD i []=(Tm m).map (λq=>xs (λj=>gm (mf M i j) ((Dt.getD j []).getD q 0)) Dt.length):=by
 have e:(dB M Dt m).getD i []=cL M[i] Dt m Dt.length:=by simp [dB,a]
 rw [e];unfold cL;apply Tq;intro q _;rw [JF];exact dF _ (λj _=>by rw [N2 a])
theorem yt (M Dt:List (List Nat)) (m:Nat):(dB M Dt m).length=M.length:=by simp [dB]
theorem oD:oz lost i↔lost.testBit i=Z5:=by
 unfold oz;rw [TS];simp
section
variable {D L G lost m:Nat} {C:Ck} {Dt:List (List Nat)}
theorem lF (c:D+L+G<=16) {s:St} (e:s∈cK D L G lost C) (a:s.k=0):∃ i:Nat,s.b=(i:Int)/\i<D+L+G/\lost.testBit i=Z4:=by
 rcases CZ e with ⟨i,d,rfl⟩|⟨_,_,_,_,rfl⟩|⟨_,_,rfl⟩
 . exact ⟨i,rfl,(lB c).1 d⟩
 . exact absurd a (Nat.one_ne_zero)
 . exact absurd a (Nat.succ_ne_zero 1)
theorem yu (c:D+L+G<=16):∀ s∈cK D L G lost C,s.k=0->((Hk (dB (aL D L G) Dt m) lost).getD s.b.toNat []).length=m:=by
 intro s g a;obtain ⟨i,d,e,f⟩:=lF c g a;have h:(dB (aL D L G) Dt m).length=D+L+G:=by rw [yt,de]
 rw [d,TW,xY _ _ _ (by omega),if_neg (by rw [f];decide),xZ _ _ _ _ (by rw [de];exact e)];simp
theorem L1 (c:D+L+G<=16) (k:m<=4096):gu (cK D L G lost C) (Hk (dB (aL D L G) Dt m) lost) lost:=by
 intro i b a;rw [dI _ _ b] at a ⊢;have e:=yu (m:=m) (Dt:=Dt) c _ (Tn b) a;obtain ⟨j,f,h,g⟩:=lF c (Tn b) a;refine ⟨λd=>?_,by rw [e];exact AA (yu c) b a,by omega⟩;rw [f,TW] at d;have:=oD.1 d;rw [g] at this;cases this
theorem Dd (b:D+L+G<=16) (a:0<iq (ae (bw (D+L+G) lost)) (aS 8 C (bw (D+L+G) lost)).1):er (cK D L G lost C) (Hk (dB (aL D L G) Dt m) lost)=m:=by
 unfold iq at a;obtain ⟨i,g⟩:=List.exists_mem_of_length_pos a;obtain ⟨c,d⟩:=Tu.1 g;have j:(⟨0,0,(i:Int),0⟩:St)∈cK D L G lost C:=by
  unfold cK fG wrTo;refine List.mem_append_left _ (Tz.2 ⟨lC _ i,Ts.2 ⟨i,c,rfl⟩,?_⟩);rw [gW d];exact List.mem_cons_self
 obtain ⟨k,h,e⟩:=TC j;have f:=AA (yu (m:=m) (Dt:=Dt) b) h (by rw [e]);have:=En _ _ _ _ f (cK D L G lost C).length (by omega);unfold er;rw [this];rfl
theorem L2 (w:D<=12) (y:G<=4) (b:D+L+G<=16) (I:tells (fE D L G) (ae (av (D+L+G) lost))=Z6 C) (p:Dt.length=D) (V:∀ l∈Dt,∀ x∈l,x<256) :
 ∃ O,dj (cK D L G lost C) (Hk (dB (aL D L G) Dt m) lost) (eL (1+(ae (av (D+L+G) lost)).length) (er (cK D L G lost C) (Hk (dB (aL D L G) Dt m) lost))) (cK D L G lost C).length=O /\
  O.length=(ae (av (D+L+G) lost)).length/\∀ k (S:k<O.length) (f:k<(ae (av (D+L+G) lost)).length),O[k].1=(((ae (av (D+L+G) lost))[k]:Nat):Int)/\(0<iq (ae (bw (D+L+G) lost)) (aS 8 C (bw (D+L+G) lost)).1->O[k].2=(dB (aL D L G) Dt m).getD (ae (av (D+L+G) lost))[k] []):=by
 obtain ⟨o,_⟩:=oy w y I;have K:=iz D L G w y;have e:D+(L+G)=D+L+G:=by omega
 have J:(cK D L G lost C).length=(wrTo (aS 8 C (bw (D+L+G) lost)).1 (ae (bw (D+L+G) lost))).length+(fw (ae (av (D+L+G) lost))).length:=by unfold cK fG;rw [TB]
 have N:(fw (ae (av (D+L+G) lost))).length=(ae (av (D+L+G) lost)).length:=by unfold fw;simp
 have R:=λz=>sI (wrTo (aS 8 C (bw (D+L+G) lost)).1 (ae (bw (D+L+G) lost))) (fw (ae (av (D+L+G) lost))) (Hk (dB (aL D L G) Dt m) lost) z (λs a=>by
  unfold wrTo at a;obtain ⟨l,T,a⟩:=Tz.1 a;obtain ⟨i,c,rfl⟩:=Ts.1 T;cases hr:cJ (aS 8 C (bw (D+L+G) lost)).1 i
  . rw [lD hr] at a;cases a
  . rw [gW hr] at a;rcases TQ.1 a with rfl|a
    . exact (by decide:(0:Nat)≠2)
    . unfold gk at a;obtain ⟨r,_,rfl⟩:=Ts.1 a;exact (by decide:(1:Nat)≠2)) (λs a=>by
  unfold fw at a;obtain ⟨k,_,rfl⟩:=Ts.1 a;rfl) _ lR
 refine ⟨_,rfl,?_⟩;rw [J];have g:=(R (eL (1+(ae (av (D+L+G) lost)).length) (er (cK D L G lost C) (Hk (dB (aL D L G) Dt m) lost)))).2;rw [TN] at g;rw [show cK D L G lost C=wrTo (aS 8 C (bw (D+L+G) lost)).1 (ae (bw (D+L+G) lost))++fw (ae (av (D+L+G) lost)) from rfl] at g ⊢;rw [g];refine ⟨by simp [N],λk S f=>?_⟩;have X:k<(fw (ae (av (D+L+G) lost))).length:=by omega
 have H:(fw (ae (av (D+L+G) lost)))[k]=⟨2,(k:Int)+1,(((ae (av (D+L+G) lost))[k]:Nat):Int),0⟩:=by
  simp [fw,f]
 rw [List.getElem_map,H];refine ⟨rfl,λE=>?_⟩;have v:=Dd (m:=m) (Dt:=Dt) b E;rw [show cK D L G lost C=wrTo (aS 8 C (bw (D+L+G) lost)).1 (ae (bw (D+L+G) lost))++fw (ae (av (D+L+G) lost)) from rfl] at v;rw [v];have Q:=JC (aS 8 C (bw (D+L+G) lost)).1 (Hk (dB (aL D L G) Dt m) lost) m (ae (bw (D+L+G) lost)) (λ_ _=>0) (eL (1+(ae (av (D+L+G) lost)).length) m) (by rw [o.told];exact JD _ _);have F:=Q.row k (by rw [o.told];exact f);have B:((k:Int)+1).toNat=1+k:=by omega
 show (kZ _ _ _).getD ((k:Int)+1).toNat []=_;rw [B,F,xZ _ _ _ _ (by rw [de];exact ((cH b).1 (Tn f)).1)];apply Tq;intro q U;have P:=Tt.1 U;have u:=o.sum K (λi c=>by rw [e];exact ((cH b).1 c).1) (λj=>(Dt.getD j []).getD q 0) (λj=>by
  show (Dt.getD j []).getD q 0<256;by_cases n:j<Dt.length
  . have A:Dt.getD j []=Dt[j]:=(by simp [n]);rw [A];exact eA (V _ (Tn n)) q
  . simp [n]) k f
 rw [e] at u;rw [p,<- u,Nat.zero_xor];rw [show ae (bw (D+L+G) lost)=(Tm 16).filter (λi=>(bw (D+L+G) lost).testBit i) from rfl,Ay];obtain ⟨d,M⟩:=Nat.exists_eq_add_of_le b;rw [M,xB];have W:xs (λi=>if (bw (D+L+G) lost).testBit (D+L+G+i)=Z5 then gm ((aS 8 C (bw (D+L+G) lost)).1.m k (D+L+G+i)) (((Hk (dB (aL D L G) Dt m) lost).getD (D+L+G+i) []).getD q 0) else 0) d=0:=cW d (λi _=>by
  rw [if_neg];rw [jL _ _ b,show decide (D+L+G+i<D+L+G)=Z4 from decide_eq_false (by omega)];simp)
 rw [W,Tv];apply dF;intro i c;have Y:(dB (aL D L G) Dt m).length=D+L+G:=by rw [yt,de]
 rw [jL _ _ b];have t:i∈ae (av (D+L+G) lost)↔lost.testBit i=Z5:=by
  rw [cH b];exact ⟨λh=>h.2,λh=>⟨c,h⟩⟩
 cases hb:lost.testBit i
 . rw [if_pos (show (decide (i<D+L+G) && !false)=Z5 by simp [c]),if_neg (λh=>by rw [t,hb] at h;cases h),xY _ _ _ (by omega),if_neg (by rw [hb];decide),xZ _ _ _ _ (by rw [de];exact c),p];congr 1;simp [P]
 . rw [if_neg (show ¬ (decide (i<D+L+G) && !true)=Z5 by simp),if_pos (t.2 hb)]
end
theorem JG (d:D<=12) (e:G<=4) (b:D+L+G<=16) (c:tells (fE D L G) (ae (av (D+L+G) lost))=Z6 C):∀ s∈cK D L G lost C,xQ s:=by
 intro s k;have a:=(oy d e c).1;have l:=a.le;have m:=a.most;rcases CZ k with ⟨i,g,rfl⟩|⟨i,_,r,o,rfl⟩|⟨j,h,rfl⟩
 . have:=((lB b).1 g).1;exact ⟨by show 0<256;decide,by show -9223372036854775808<=(0:Int);omega,by show (0:Int)<=9223372036854775807;omega,by show -9223372036854775808<=(i:Int);omega,by show (i:Int)<=9223372036854775807;omega,by show 0<256;decide⟩
 . exact ⟨by show 1<256;decide,by show -9223372036854775808<=(1:Int)+(r:Int);omega,by show (1:Int)+(r:Int)<=9223372036854775807;omega,by show -9223372036854775808<=(0:Int);omega,by show (0:Int)<=9223372036854775807;omega,a.byt r i⟩
 . have n:(ae (av (D+L+G) lost)).length<=16:=TA (TR _ _) (by simp);have f:=((cH b).1 (Tn h)).1;generalize (ae (av (D+L+G) lost))[j]=y at f;exact ⟨by show 2<256;decide,by show -9223372036854775808<=(j:Int)+1;omega,by show (j:Int)+1<=9223372036854775807;omega,by show -9223372036854775808<=(y:Int);omega,by show (y:Int)<=9223372036854775807;omega,by show 0<256;decide⟩
theorem N3 (e:D<=12) (j:L<=4) (f:G<=4) (c:D+L+G<=16) (d:tells (fE D L G) (ae (av (D+L+G) lost))=Z6 C):iB (1+((ae (av (D+L+G) lost)).length:Int)) (cK D L G lost C) ((D+L+G:Nat):Int):=by
 have b:=(oy e f d).1;have g:=b.le;have h:=b.most;exact Px b.told (by omega) (λi a=>((lB c).1 a).1) (λi a=>((cH c).1 a).1)
end
theorem L3:∀ k,k<16->(Tm 16).filter (λi=>decide (i=k))=[k]:=by decide
theorem AB (a:k<n) (b:n<=16):ae (av n (2^k))=[k]:=by
 unfold ae;rw [<- L3 k (by omega)];apply List.filter_congr;intro i _;rw [gV,Nat.testBit_two_pow];by_cases e:k=i
 . subst e;simp [a]
 . have:¬ i=k:=λh=>e h.symm;simp [e,this]
theorem Eo (s:Nat) (f:Nat->Bool):((ae s).filter f).length=cp (λi=>s.testBit i&&f i) 16:=by
 unfold ae;rw [List.filter_filter,vP];exact sJ 16 (λi _=>by rw [Bool.and_comm])
theorem JJ (a:g<L) (j:Nat) (b:j<D):mf (aL D L G) (D+g) j=if g*(D/L)<=j/\j<(g+1)*(D/L) then 1 else 0:=by
 unfold mf aL;have e:((Tm D).map (dw D)++(Tm L).map (dO D L)++(Tm G).map (cd D)).getD (D+g) []=dO D L g:=by
  rw [Tx,To,TD (by simp)];simp only [Tp,Tr,TE];rw [Ty (by simpa using a)];simp [a]
 rw [e];unfold dO;simp [b]
theorem MU (a:g<L+G) (j:Nat):(fE D L G).m g j=if j<D then mf (aL D L G) (D+g) j else if j=D+g then 1 else 0:=by
 show (if g<L+G then _ else _)=_;rw [if_pos a]
theorem AC (c:D%L=0) (n:k<D+L+G):∃ C,tells (fE D L G) [k]=Z6 C:=by
 have f:D/L*L=D:=TX (TY c);have g:∃ r,r<L+G/\(fE D L G).m r k≠0:=by
  by_cases b:k<D
  . have a:0<D/L:=TF λe=>by rw [e] at f;omega
    have i:k/(D/L)<L:=(by rw [Nat.div_lt_iff_lt_mul a,TG];omega);refine ⟨k/(D/L),by omega,?_⟩;rw [MU (by omega),if_pos b,JJ i k b,if_pos]
    . decide
    . have d:=Nat.div_add_mod k (D/L);have l:=Nat.mod_lt k a;rw [TG] at d;rw [Nat.add_mul,Nat.one_mul];omega
  . refine ⟨k-D,by omega,?_⟩;rw [MU (by omega),if_neg b,if_pos (by omega)];decide
 obtain ⟨r,j,h⟩:=g;have e:tells (fE D L G) [k]=jo (fE D L G) k:=rfl;rw [e];unfold jo;cases a:dk (fE D L G) k with
 | some o=>exact ⟨_,rfl⟩
 | none=>
  exfalso;unfold dk at a;rw [List.find?_eq_none] at a;have:=a r (Tt.2 j);apply this;have:(fE D L G).told<=r:=Nat.zero_le _;simp [this,h]
section
open Go.Shelf
noncomputable def Rh:Array Oper:=((Tryz.f99.body.bind (mD · 1))).getD #[]
def PH:List (Op×Option Nat×List Nat):=[(Op.move (Z8 0),Z6 5,[]),
 (Op.nilCheck (Z8 5),Z6 6,[0]),
 (Op.fieldAddr 121 (Z8 6) 0,Z6 7,[1]),
 (Op.load 115 (Z8 7),Z6 8,[2]),
 (Op.build 174 #[],Z6 9,[]),
 (Op.makeInterface 174 (Z8 9),Z6 10,[4]),
 (Op.move (Z8 0),Z6 11,[]),
 (Op.nilCheck (Z8 11),Z6 12,[6]),
 (Op.fieldAddr 121 (Z8 12) 0,Z6 13,[7]),
 (Op.load 115 (Z8 13),Z6 14,[8]),
 (Op.call { callee:=Callee.value (Operand.func 123),args:=#[Z8 14],argTypes:=#[115] },Z6 15,[9]),
 (Op.call { callee:=Callee.value (Operand.func 122),args:=#[Z8 8,Operand.const (Value.int IntKind.i64 1),Z8 10,Z8 15],argTypes:=#[115,3,219,124] },Z6 16,[3,5,10,10])]
theorem Gh:aN Rh 5 17 PH:=bt (by kernel_rfl) (by kernel_rfl)
def Oh (ar v S:Nat):List Value:=[Z9 (Z6 ⟨ar,0,Z7⟩),Z9 (Z6 ⟨ar,0,Z7⟩),Z9 (Z6 ⟨ar,0,Z7⟩),Z9 (Z6 ⟨v,0,Z7⟩),.agg #[],bp .filled,Z9 (Z6 ⟨ar,0,Z7⟩),Z9 (Z6 ⟨ar,0,Z7⟩),Z9 (Z6 ⟨ar,0,Z7⟩),Z9 (Z6 ⟨v,0,Z7⟩),.int .u64 S,.int .u64 0]
def yG (A:aB) (r:aW) (D:Nat->Bool):aB:=if D 11=Z5 then A.putAt (Tm A.n) 1 (λ_=>r.blk) else A
def QD (w0:World) (p:Nat) (A:aB) (F:bx) (r:aW) (Dn:Nat->Bool) (w:World):Prop:=aq w p (yG A r Dn) F/\aa (F.has p A.n) w0 w
theorem jc {w0:World} {r:aW} {Dn:Nat->Bool} {w':World} (h:QD w0 p A F r Dn w) (i:Nat) (b:i≠11) (a:Below w.heap.size w w'):QD w0 p A F r (dN Dn i) w':=by
 refine ⟨?_,h.2.trans (aa.of_all a _)⟩;have e:yG A r (dN Dn i)=yG A r Dn:=by unfold yG dN;rw [if_neg (λe:11=i=>b e.symm)]
 rw [e];exact h.1.below a lR
theorem oF {ops:Array Oper} {Q:Exit->Act->World->Prop} {a:Act} {v:Nat} {cs:Array Value} (X:Rh=ops) (x:m6 w v p D L G ps ho A F) (z:jI F p A.n v) (R:¬ F.has p A.n ar) (K:w.heap[ar]?=Z6 (.cells cs 121 (0,0))) (O:cs[0]?=Z6 (Z9 (Z6 ⟨v,0,Z7⟩)))
 (Z:A.fit) (B:A.n=D+L+G) (T:D<=12) (hp:L<=4) (U:G<=4) (y:D+L+G<=16) (Y:1<A.nb) (hw:A.wait<0) (hl:∀ i,A.lost i=Z4)
 (hz:a.tmps.size=30) (E:a.eval (Z8 0)=Z9 (Z6 ⟨ar,0,Z7⟩))
 (W:∀ (w':World) (N:List Value),N.length=12->aq w' p (A.putAt (Tm A.n) 1 (λ_=>aW.filled.blk)) F->aa (F.has p A.n) w w'->Q .normal (Act.putFrom a 5 N) w'):(Code.region 1 ops Z5).wp Tryz.prog Q a w:=by
 subst X;obtain ⟨S,I⟩:=nM (2^(D+L+G)-1);have J:ae S=Tm A.n:=by rw [<- I,B];exact nY y
 have hr:S<65536:=by
  have:2^(D+L+G)<=2^16:=TI (by decide) y;omega
 have P:ar<w.heap.size:=(TZ.1 K).1;have H:∀ w',aa (F.has p A.n) w w'->w'.cell? ⟨ar,0,Z7⟩=Z6 (Z9 (Z6 ⟨v,0,Z7⟩)):=λw' V=>by
  have:=(V.block ar P R).trans K;simp [World.cell?,this,O]
 refine bZ (by kernel_rfl) Gh a w (by omega) (λi u _=>u=(Oh ar v S).getD i undef) (QD w p A F .filled) ⟨x.arr.keep λ_ _=>rfl,aa.drew w⟩ ?_ ?_
 . intro i s;match i,s with
   | 0,_=>exact λo d w' k r ho g l m q j b h=>ab (ag ho ((l.slot 0 (by omega)).trans E) w') g ⟨jc b _ (by decide) (Below.refl _ _),rfl,kq⟩
   | 1,_|2,_|7,_|8,_=>
    intro o d w' k r ho g l m q j b h;have u0:=h _ (j _ (.head _));simp only [PH,Oh,bV,cM,Sg,Sf] at ho u0;exact ab (by simp only [execOp,ho,u0,Oh,Sg,Sf];go_simp) g ⟨jc b _ (by decide) (Below.refl _ _),rfl,kq⟩
   | 3,_=>
    intro o d w' k r ho g l m q j b h;have u0:d.eval (Z8 7)=Z9 (Z6 ⟨ar,0,Z7⟩):=h 2 (j 2 (by decide));have c:=H w' b.2;exact ab (v:=Z9 (Z6 ⟨v,0,Z7⟩)) (by simp only [execOp,show o.op=Op.load 115 (Z8 7) from ho,u0];go_simp) g ⟨jc b _ (by decide) (Below.refl _ _),rfl,kq⟩
   | 4,_=>
    intro o d w' k r ho g l m q j b h;exact ab (v:=.agg #[]) (by simp only [execOp,show o.op=Op.build 174 #[] from ho];go_simp) g ⟨jc b _ (by decide) (Below.refl _ _),rfl,kq⟩
   | 5,_=>
    intro o d w' k r ho g l m q j b h;have u0:d.eval (Z8 9)=.agg #[]:=h 4 (j 4 (by decide));exact ab (v:=bp .filled) (by simp only [execOp,show o.op=Op.makeInterface 174 (Z8 9) from ho,u0,bp];go_simp) g ⟨jc b _ (by decide) (Below.refl _ _),rfl,kq⟩
   | 6,_=>exact λo d w' k r ho g l m q j b h=>ab (ag ho ((l.slot 0 (by omega)).trans E) w') g ⟨jc b _ (by decide) (Below.refl _ _),rfl,kq⟩
   | 9,_=>
    intro o d w' k r ho g l m q j b h;have u0:d.eval (Z8 13)=Z9 (Z6 ⟨ar,0,Z7⟩):=h 8 (j 8 (by decide));have c:=H w' b.2;exact ab (v:=Z9 (Z6 ⟨v,0,Z7⟩)) (by simp only [execOp,show o.op=Op.load 115 (Z8 13) from ho,u0];go_simp) g ⟨jc b _ (by decide) (Below.refl _ _),rfl,kq⟩
   | 10,_=>
    intro o d w' k r ho g l m q j b h;have u0:d.eval (Z8 14)=Z9 (Z6 ⟨v,0,Z7⟩):=h 9 (j 9 (by decide));refine dz (f:=123) (args:=#[Z9 (Z6 ⟨v,0,Z7⟩)]) (w1:=w') (by simp only [execOp,show o.op=Op.call { callee:=Callee.value (Operand.func 123),args:=#[Z8 14],argTypes:=#[115] } from ho];go_simp;simpa [Act.eval] using u0) g (m7 (x.vol.keep (b.2.block _ x.vol.lt z.v)) T hp U y) ?_;rintro e C ⟨rfl,hv⟩;rw [I];exact ⟨_,rfl,jc b 10 (by decide) hv,rfl,kq⟩
   | 11,_=>
    intro o d w' k hy ho g l m q j b h;have u0:d.eval (Z8 8)=Z9 (Z6 ⟨v,0,Z7⟩):=h 3 (j 3 (by decide));have u1:d.eval (Z8 10)=bp .filled:=h 5 (j 5 (by decide));have u2:d.eval (Z8 15)=.int .u64 S:=h 10 (j 10 (by decide));have t:aq w' p A F:=(by have:=b.1;unfold yG at this;rw [if_neg (by rw [m];decide)] at this;exact this);have hs:=x.turn z b.2 t;have M:=sS hs z Z 1 S Y hr (λi s=>by rw [J] at s;simpa using s) hw (λi _=>hl i) .filled trivial wS;rw [J] at M;refine dz (f:=122) (args:=#[Z9 (Z6 ⟨v,0,Z7⟩),.int .i64 (1:Nat),bp .filled,.int .u64 S]) (w1:=w') (by simp only [execOp,show o.op=Op.call { callee:=Callee.value (Operand.func 122),args:=#[Z8 8,Operand.const (Value.int IntKind.i64 1),Z8 10,Z8 15],argTypes:=#[115,3,219,124] } from ho];go_simp;exact ⟨by simpa [Act.eval] using u0,by simpa [Act.eval] using u1,by simpa [Act.eval] using u2⟩) g M ?_;rintro e C ⟨rfl,hj,hq⟩;refine ⟨_,rfl,⟨?_,b.2.trans hq⟩,rfl,kq⟩;have e:yG A .filled (dN k 11)=A.putAt (Tm A.n) 1 (λ_=>aW.filled.blk):=(by unfold yG dN;rw [if_pos (by rw [if_pos rfl])]);rw [e];exact hj
   | n+12,B=>exact absurd B (by show ¬ n+12<12;omega)
 . rintro d w' hx ⟨k,hm,b⟩ h;have e:yG A .filled k=A.putAt (Tm A.n) 1 (λ_=>aW.filled.blk):=(by unfold yG;rw [if_pos (hm 11 (by decide))]);have t:=b.1;rw [e] at t;have e:d=Act.putFrom a 5 ((Tm 12).map λi=>d.eval (.tmp (5+i))):=hx.out _ (by rw [Tp,Tr]) (by omega) (λi s=>by
    rw [Tp,Tr] at s;rw [To,List.getElem?_map,List.getElem?_range s];rfl)
   rw [e];exact W w' _ (by rw [Tp,Tr]) t b.2
theorem Dr (w:World):Dq w (.slice Z7 0 0) []:=by
 intro W _;go_enter Tryz.func120,Tryz.ntmps120;go_wp2_with fail;refine (length_nil W).mono ?_;rintro e w' ⟨rfl,rfl⟩;go_wp2_with (at_make;refine eB _ rfl (.const (.int .i64 0)) (Z8 10) rfl _ 0 rfl rfl rfl (by omega) ?_;intro w2 b a c);have H:=hide2 b a;clear b a;refine wp_loop_rounds 1 ?_;rw [rounds_succ];go_wp2;go_ret;obtain ⟨b,a⟩:=H.out;exact ⟨_,0,rfl,⟨rfl,.inr ⟨_,0,_,rfl,TH _,b.heapB,TH _,by unfold maxLen;omega,rfl,rfl⟩⟩,a⟩
theorem bK.weaken {K K':Nat->Prop} (h:bK K w v l) (g:∀ k,K k->K' k):bK K' w v l:=by
 obtain ⟨a,c,d,e,f⟩:=h;refine ⟨a,c,d,e,λi=>?_⟩;obtain ⟨b,off,j,m,n⟩:=f i;exact ⟨b,off,j,g b m,n⟩
theorem Gi {nb:Nat} (h:3<=nb):(bh (tk nb ([]++ai [])).1 nb).take 1=[2]/\1<=(bh (tk nb ([]++ai [])).1 nb).length:=by
 have e:(tk nb ([]++ai [])).1=λ_=>Z4:=rfl;rw [e];have b:bh (λ_=>Z4) 3=[2]:=by simp [bh,TU]
 obtain ⟨r,a⟩:=kt (λ_=>Z4) h;rw [b] at a;rw [<- a];exact ⟨rfl,by simp⟩
def eV (A:aB) (D L G:Nat):aB:=((A.putAt (Tm A.n) 1 (λ_=>aW.filled.blk)).pagesTo D L G [2] [] 1).putAt (Tm A.n) 0 (λ_=>(aW.root D L G 1 2 0).blk)
theorem JX {base:Nat} {u:Value} (h:w.ownsRow base 3 1 u n (zj l)) (m:l≠[]) (f:l.length<=1000000) {K:Nat->Prop} (hK:∀ k,base<=k->K k):∃ g c,u=.slice (Z6 ⟨g,0,Z7⟩) l.length c/\bK K w u l:=by
 have b:n=l.length:=by have:=h.1;unfold zj at this;rw [Tp,Nat.mul_one] at this;omega
 rcases h.2 with ⟨_,o⟩|⟨g,cap,cur,a,d,e,_⟩
 . exact absurd (Tw (by omega)) m
 . refine ⟨g,cap,by rw [a,b],Z6 ⟨g,0,Z7⟩,cap,by rw [a,b],f,λ_=>⟨g,0,rfl,hK g d,(TZ.1 e).1,λi j=>?_⟩⟩;have:=h.cells (g:=g) (by rw [a];rfl) i (.int .i64 ((l[i]:Nat):Int)) (by unfold zj;simp [j]);rw [mw] at this;rw [Nat.zero_add];exact this
theorem Gj {v:Nat} {off:Bool} (C:bJ w ar v 0 0 0 0 0 0 (.slice Z7 0 0) (.slice Z7 0 0) off) (hV:m6 w v p D L G ps ho A F) (U:jI F p A.n v) (Y:¬ F.has p A.n ar) (hf:A.fit) (hn:A.n=D+L+G) (hr:cn D L G=Z5) (k6:1<=D) (hD:D<=12) (hL:1<=L) (k7:L<=4) (hG:G<=4) (hs:D%L=0) (k5:D+L+G<=16)
 (kg:3<=A.nb) (hw:A.wait<0) (h5:∀ i,A.lost i=Z4) :
 Calls Tryz.prog 99 #[Z9 (Z6 ⟨ar,0,Z7⟩)] w λe w'=>e=.returned .nilIface/\aq w' p (eV A D L G) F/\(∃ u,bJ w' ar v D L G 1 2 0 u (.slice Z7 0 0) off/\bK (λk=>w.heap.size<=k) w' u [2])/\aa (λk=>k=ar\/F.has p A.n k) w w':=by
 have ke:=C;go_enter Tryz.func99,Tryz.ntmps99;go_wp2_with fail;refine oF (by kernel_rfl) hV U Y C rfl hf hn hD k7 hG k5 (by omega) hw h5 rfl rfl ?_;intro w1 vs kb V h;obtain ⟨y0,y1,y2,y3,y4,y5,y6,y7,y8,y9,ya,yb,rfl⟩:=xF kb;obtain ⟨j,l⟩:=nM (A.putAt (Tm A.n) 1 (λ_=>aW.filled.blk));have o:j.fit:=by rw [<- l];exact hf.putAt _ _ _ λ_ _=>⟨ez (r:=.filled) trivial,jg (r:=.filled) trivial⟩
 have hj:j.n=A.n/\j.nb=A.nb/\j.wait=A.wait/\j.lost=A.lost:=by rw [<- l];exact ⟨rfl,rfl,rfl,rfl⟩
 obtain ⟨a,s,P,Q⟩:=hj;rw [l] at V;have f:=C.keep (h.block _ C.lt Y);have d:=hV.turn U h V;have Z:=iZ f d.vol k6 (by omega) 0 (by decide);have hv:pgs D 0=1:=by unfold pgs;rw [Nat.div_eq_of_lt (by omega)];rfl
 rw [hv] at Z;have hz:=lI f d.vol d.arr o (by rw [a];omega) [] [] (bK.nil _ _) (gz.nil _ _) 1 (by decide);obtain ⟨t,y⟩:=Gi (nb:=j.nb) (by rw [s];exact kg);rw [t,decide_eq_true y] at hz;have O:=hide7 f d h Z hz o l;clear f d h Z hz o l V kb t y;rename_i hK
 refine hK _ _ ?_;clear hK;simp only [Act.putFrom,Act.put,List.setIfInBounds_toArray,List.set_cons_succ,List.set_cons_zero];go_wp2_with fail;refine O.out.2.2.2.1.mono ?_;rintro e w2 ⟨rfl,kh⟩;subst kh;go_wp2_with fail;refine O.out.2.2.2.2.1.mono ?_;rintro e w3 ⟨u,rfl,h9,I⟩;obtain ⟨f,d,h,_,_,o,l⟩:=O.out;have k9:=f.keep (I.block _ f.lt);have k8:=d.below I lR;obtain ⟨g,c,hu,X⟩:=JX (K:=λk=>w2.heap.size<=k) h9 (by simp) (by decide) (λk J=>J);subst hu;have E:bK (λk=>¬ F.has p j.n k) w3 (.slice (Z6 ⟨g,0,Z7⟩) [2].length c) [2]:=by
  obtain ⟨R,T,q1,q2,q3⟩:=X;refine ⟨R,T,q1,q2,λW=>?_⟩;obtain ⟨b,S,r1,r2,N⟩:=q3 W;exact ⟨b,S,r1,λq=>by have:=d.arr.has_lt q;omega,N⟩
 have ka:=nt k9 k8 (by rw [a];exact U) (by rw [a];exact Y) o (by rw [a];exact hn) hr k6 hD hL k7 hG hs k5 (by rw [P];exact hw) ((iH.here h5 D L G).congr a Q) (by decide) Z7 0 0 [] (λx M=>by cases M) (by decide) (Dr w3) g 0 c [2] E (by simp) (λx M=>by simp at M;subst M;rw [s];omega) (λk J=>by simp at J;subst J;simp);have B:aa (F.has p A.n) w w3:=h.trans (aa.of_all I _);have H3:=hide6 ka B X d f.lt h.size;clear ka B E X k9 k8 h9 I f d h o;go_wp2_with fail;refine H3.out.1.mono ?_;rintro e w4 ⟨rfl,z,H,m⟩;have H4:=hide3 z H m;clear z H m;go_wp2;go_ret;obtain ⟨z,H,m⟩:=H4.out;obtain ⟨_,B,E,d,kc,k0⟩:=H3.out;rw [a] at z m;refine ⟨rfl,?_,⟨_,H,?_⟩,(B.mono λ_ _ q=>.inr q).trans m⟩
 . unfold eV;rw [l];exact z
 . obtain ⟨R,T,q1,q2,q3⟩:=E;refine ⟨R,T,q1,q2,λW=>?_⟩;obtain ⟨b,S,r1,r2,N,r4⟩:=q3 W;have hq:b≠ar:=λe=>by omega
   have kf:¬ F.has p A.n b:=λq=>by have:=d.arr.has_lt (k:=b) (by rw [a];exact q);omega
   refine ⟨b,S,r1,TA k0 r2,Nat.lt_of_lt_of_le N m.size,λi hi=>?_⟩;exact (World.cell?_of_block (m.block b N (λq=>q.elim hq kf))).trans (r4 i hi)
end
theorem R4 (a:g<L) (j:Nat) (b:j<D):mf (aL D L G) (D+g) j=if g*(D/L)<=j/\j<(g+1)*(D/L) then 1 else 0:=by
 unfold mf aL;have e:((Tm D).map (dw D)++(Tm L).map (dO D L)++(Tm G).map (cd D)).getD (D+g) []=dO D L g:=by
  rw [Tx,To,TD (by simp)];simp only [Tp,Tr,TE];rw [Ty (by simpa using a)];simp [a]
 rw [e];unfold dO;simp [b]
theorem R5 (a:i<G) (j:Nat) (b:j<D):mf (aL D L G) (D+L+i) j=gi ((D+i)^^^j):=by
 unfold mf aL;have e:((Tm D).map (dw D)++(Tm L).map (dO D L)++(Tm G).map (cd D)).getD (D+L+i) []=cd D i:=by
  rw [To,TD (by simp)];simp only [TB,Tp,Tr,TE];simp [a]
 rw [e];unfold cd;simp [b]
theorem OD (o:1<=D) (p:D<=12) (q:G<=4) (k:D%L=0) (r:d<D+L+G):∃ j,j<D/\mf (aL D L G) d j≠0:=by
 by_cases a:d<D
 . refine ⟨d,a,?_⟩;unfold mf;rw [Ej D L G d a];unfold dw;simp [a]
 . by_cases n:d<D+L
   . obtain ⟨g,rfl⟩:∃ g,d=D+g:=⟨d-D,by omega⟩;have h:g<L:=(by omega);have c:D/L*L=D:=TX (TY k);have m:0<D/L:=TF λe=>by rw [e] at c;omega
     have f:g*(D/L)<D:=by
      have b:=Nat.mul_lt_mul_of_pos_right h m;rw [TG L,c] at b;exact b
     refine ⟨g*(D/L),f,?_⟩;rw [R4 h _ f,if_pos ⟨TH _,by rw [Nat.add_mul];omega⟩];decide
   . obtain ⟨i,rfl⟩:∃ i,d=D+L+i:=⟨d-(D+L),by omega⟩;have l:i<G:=(by omega);refine ⟨0,by omega,?_⟩;rw [R5 l 0 (by omega),Tv];exact Im (by omega) (by omega)
theorem Mo (w:1<=D) (g:D<=12) (h:G<=4) (v:D%L=0) (b:D+L+G<=16) (B:tells (fE D L G) (ae (av (D+L+G) lost))=Z6 C) (p:d<D+L+G) (F:lost.testBit d=Z5):0<iq (ae (bw (D+L+G) lost)) (aS 8 C (bw (D+L+G) lost)).1:=by
 apply TF;intro n;obtain ⟨t,_⟩:=oy g h B;have o:=iz D L G g h;have e:D+(L+G)=D+L+G:=by omega
 obtain ⟨k,r,y⟩:=TC ((cH b).2 ⟨p,F⟩);obtain ⟨j,E,z⟩:=OD w g h v p;have A:∀ i,i∈ae (bw (D+L+G) lost)->cJ (aS 8 C (bw (D+L+G) lost)).1 i=Z4:=λi a=>by
  cases hr:cJ (aS 8 C (bw (D+L+G) lost)).1 i
  . rfl
  . unfold iq at n;have:=Tw n;have s:i∈(ae (bw (D+L+G) lost)).filter (cJ (aS 8 C (bw (D+L+G) lost)).1):=Tu.2 ⟨a,hr⟩;rw [this] at s;cases s
 have c:=t.sum o (λi a=>by rw [e];exact ((cH b).1 a).1) (λq=>if q=j then 1 else 0) (λq=>by show (if q=j then 1 else 0)<256;split<;>decide) k r;rw [e,y] at c;have I:=cW (f:=λi=>if i∈ae (av (D+L+G) lost) then 0 else gm ((aS 8 C (bw (D+L+G) lost)).1.m k i) (xs (λq=>gm (mf (aL D L G) i q) (if q=j then 1 else 0)) D)) (D+L+G) (λi a=>by
  by_cases l:i∈ae (av (D+L+G) lost)
  . rw [if_pos l]
  . have x:lost.testBit i=Z4:=by
     cases hb:lost.testBit i
     . rfl
     . exact absurd ((cH b).2 ⟨a,hb⟩) l
    have:=gM.1 (A i ((lB b).2 ⟨a,x⟩)) k (by rw [t.told];exact r);rw [if_neg l,this,Si])
 rw [I] at c;have u:=eS (f:=λq=>gm (mf (aL D L G) d q) (if q=j then 1 else 0)) (k:=j) D E (λq _ H=>by rw [if_neg H,bk]);rw [u,if_pos rfl,cj _ (o.byt d j)] at c;exact z c.symm
end Go.Proofs.YtfbmmcnpjhmjaaaGreatDoor
