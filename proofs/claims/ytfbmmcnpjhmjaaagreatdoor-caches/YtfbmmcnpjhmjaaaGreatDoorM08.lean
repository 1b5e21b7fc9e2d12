import Derived.Test.YtfbmmcnpjhmjaaaGreatDoorM07
import Derived.OwnWalk
import Derived.Lib.BufferWrite
import Derived.Laws.Cover1
set_option maxRecDepth 100000
set_option linter.defProp false
set_option maxHeartbeats 8000000
open Go.IntKind renaming i64 -> Z9, u64 -> Z8
open Go.Value renaming int -> Z7, pointer -> Z6, slice -> Z5, bool -> Z2, string -> Z0, tuple -> ZZ
open Go.Obj renaming cells -> Z4
open Go.Ending renaming returned -> Z3
open Go.Operand renaming tmp -> Z1
open Go renaming undef -> ZY, World -> ZT, Value -> ZS, Calls -> ZR
open Option renaming none -> ZX, some -> ZW
open Bool renaming true -> ZV, false -> ZU
open List renaming range -> XG, getElem_mem -> XI, replicate -> XJ, length_map -> XK, length_append -> XL, setIfInBounds_toArray -> XO, set_cons_succ -> XP, set_cons_zero -> XQ, length_range -> XS, mem_append -> XT, getD_eq_getElem?_getD -> XW, getElem?_eq_getElem -> XX, mem_map -> XZ, takeWhile_cons -> X0, pairwise_iff_getElem -> X1, getElem_of_mem -> X2, mem_append_left -> X3, getElem?_map -> X4, getElem?_range -> X5, mem_range -> X6, length_take -> X7, mem_of_mem_drop -> X8, take_of_length_le -> X9, map_append -> Ya, append_assoc -> Yb, mem_singleton -> Yd, filter_append -> Ye, getElem_map -> Yf, getD_cons_succ -> Yg, eq_nil_of_length_eq_zero -> Yh, mem_of_mem_take -> Yj, length_drop -> Yl, nil_append -> Ym, map_toArray -> Yn, map_cons -> Yo, map_nil -> Yp, size_toArray -> Yq, nodup_append -> Yt, length_cons -> Yx, take_add_one -> Yy, flatMap_append -> Yz, map_replicate -> YA, take_zero -> YB, append_nil -> YC, range_succ -> YD, drop_sublist -> YF, getElem_drop -> YG, mem_filter -> YH, mem_append_right -> YI, getElem?_append_left -> YJ, eq_of_mem_replicate -> YK, mem_or_eq_of_mem_set -> YM
open Array renaming getElem?_eq_some_iff -> XH, getElem?_setIfInBounds_self_of_lt -> YN
open Option.some renaming inj -> XM
open Nat renaming le_trans -> XN, le_refl -> XR, lt_of_lt_of_le -> XU, zero_le -> XV, zero_add -> XY, eq_or_lt_of_le -> Yc, pow_le_pow_right -> Yi, lt_or_ge -> Yk, or_lt_two_pow -> Ys, succ_lt_succ -> YE, le_of_lt_succ -> YL
open List.Pairwise renaming sublist -> Yr
open Int renaming natCast_mul -> Yu
open Option renaming map_eq_some_iff -> Yw
open Go.Proofs.Tryz renaming prog -> ZQ
open Go.Proofs.Tryz
namespace Go.Proofs.YtfbmmcnpjhmjaaaGreatDoor
open Go.RowKit Go.Shelf Go.Deep Gf
variable {a:Act} {ad:Addr} {ops:Array Oper} {cs:Array ZS} {off:Bool} {b:ByteArray} {Q:Exit->Act->ZT->Prop} {F:bh} {room regs:Int} {M:List (List Nat)} {es:List (Nat×Nat×Nat)} {ns:List ByteArray} {dl l ds P:List Nat} {rest:List Oper} {xs vs:List ZS} {base s n v D L G p ps ho B size ar D' L' G' t f nn d m q r t' f' n' g nb c N gone sp x i B0 k sb:Nat} {Dn:Nat->Bool} {R:Nat->List Nat} {nw ol:Nat->Nat} {cn:Nat->Fp} {S K:Nat->Prop} {f0:Nat->ZS} {o:Oper} {ao:Option Addr} {e:TypeId} {u pg ob:ZS} {w w' w0 wr:ZT}
section
theorem Ef (s i:Nat) (g:s<65536) (f:i<16) (w:ZT):ZR ZQ 196 #[Z7 Z8 s,Z7 Z9 i] w λe w'=>e=Z3 (Z2 (s.testBit i))/\w'=w:=by
 have key:(bits .and .u64 ((s:Int)/2^i) 1==1)=s.testBit i:=by
  have e:((s:Int)/2^i)=((s/2^i:Nat):Int):=by rw [Int.natCast_ediv,Int.natCast_pow];rfl
  have d:s/2^i<=s:=Nat.div_le_self _ _;have b:=gj (s/2^i) 1 (by omega) (by decide);rw [e,show ((1:Int))=((1:Nat):Int) from rfl,b,Nat.and_one_is_mod,Nat.testBit_eq_decide_div_mod_eq];by_cases c:s/2^i%2=1
  . rw [c];rfl
  . have a:s/2^i%2=0:=(by omega);rw [a];rfl
 go_enter func196,ntmps196;go_wp2;go_ret;exact ⟨by rw [<- key];rfl,rfl⟩
def zM (D L G lost:Nat) (C:Ck) (w:ZT) (T:Nat->Prop) (e:Ending) (w':ZT):Prop:=
 ∃ ao m c,e=Z3 (ZZ #[.agg #[Z7 Z9 (1+((ab (av (D+L+G) lost)).length:Int)),.slice ao m c],.nilIface])/\w'.ownsRow w.heap.size 284 4 (.slice ao m c) (bG D L G lost C).length (er .u8 (bG D L G lost C))/\aa T w w'
def Ng {e:Nat} {v:ZS} (b:w.ownsRow base e s v n xs):∃ ao m a,v=.slice ao m a:=by
 rcases b.2 with ⟨rfl,_⟩|⟨g,cap,cur,rfl,_⟩
 . exact ⟨_,_,_,rfl⟩
 . exact ⟨_,_,_,rfl⟩
def Eg (D L G lost:Nat) (w:ZT) (T:Nat->Prop) (e:Ending) (w':ZT):Prop:=∃ s C,D5 D L G lost s/\tells (fw D L G) (ab (av (D+L+G) s))=ZW C/\zM D L G s C w T e w'
section
variable (D L G lost:Nat) {C:Ck} (hr:bU D L G=ZV) (hD1:1<=D) (hD:D<=12) (hL:1<=L) (hL4:L<=4) (hG:G<=4) (hdiv:D%L=0) (h16:D+L+G<=16) (hl:lost<18446744073709551616) (hC:tells (fw D L G) (ab (av (D+L+G) lost))=ZW C)
include hr hD1 hD hL hL4 hG hdiv h16 hl hC
def Eh (w:ZT) (i:aJ w) (g:3<=w.heap.size):ZR ZQ 188 #[.agg #[Z7 Z9 D,Z7 Z9 L,Z7 Z9 G],Z7 Z8 lost] w (zM D L G lost C w (λ_=>False)):=by
 refine (vH D L G lost hr hD1 hD hL hL4 hG hdiv h16 hl w i g).mono ?_;rintro e w1 ⟨h,f⟩;rcases f with ⟨b,rfl⟩|⟨j,v,a,rfl,c⟩
 . rw [hC] at b;cases b
 . rw [hC] at a;obtain rfl:=XM a;obtain ⟨ao,m,d,rfl⟩:=Ng c;exact ⟨ao,m,d,rfl,c,aa.TG h _⟩
end
def Q4 (w:ZT) (D L G lost cb:Nat) (C:Ck) (lv iv:ZS) (wr:ZT):Prop:=
 ∃ k:Nat,k<=D+L+G/\lv=Z7 Z8 ((rdTo (D+L+G) (lost,C) k).1:Nat)/\iv=Z7 Z9 ((D+L+G:Nat)-1-(k:Int))/\aF wr cb (rdTo (D+L+G) (lost,C) k).2/\CI w D L G wr/\cb<wr.heap.size/\w.heap.size+2<=cb
section
variable (D L G lost:Nat) (hr:bU D L G=ZV) (hD1:1<=D) (hD:D<=12) (hL:1<=L) (hL4:L<=4) (hG:G<=4) (hdiv:D%L=0) (h16:D+L+G<=16) (hl:lost<2^(D+L+G)) (hT0:∃ C,tells (fw D L G) (ab lost)=ZW C)
include hr hD1 hD hL hL4 hG hdiv h16 hl hT0
theorem Ei (w:ZT) (hT:aJ w) (d:3<=w.heap.size):ZR ZQ 187 #[.agg #[Z7 Z9 D,Z7 Z9 L,Z7 Z9 G],Z7 Z8 lost] w (Eg D L G lost w (λ_=>False)):=by
 unfold Eg zM;have q0:lost<65536:=XU hl (wV h16);have h:=CI.new w D L G;have x:((w.alloc (Z4 #[Z7 Z9 (D:Int),Z7 Z9 (L:Int),Z7 Z9 (G:Int)] 25)).alloc (Z4 #[Z7 Z9 0,Z5 ZX 0 0] 210)).heap.size=w.heap.size+2:=by simp
 obtain ⟨Q,R,S⟩:=ft h.par;have km:=ln D L G lost hr hD1 hD hL hL4 hG hdiv h16 q0 _ (hT.mono (by omega) h.below) (XN d h.below.size);have Y:=hide3 h x km;clear h x km;go_enter func187,ntmps187;go_wp2_with fail;refine Y.out.2.2.mono ?_;rintro e w1 ⟨O,hq⟩;obtain ⟨h,x,_⟩:=Y.out;try change Below _ _ _ at O
 rw [x] at O;have y:=O.size;try change Below _ _ _ at y
 rw [x] at y;have hv:=h.mono O lR;obtain ⟨C,hC⟩:=hT0;rcases hq with ⟨kr,rfl⟩|⟨C',j,rfl⟩
 . rw [hC] at kr;cases kr
 try change Below _ _ _ at j
 rw [hC] at j;obtain rfl:=XM j;have o:=zeroCk;have kh:=bf dG;have kg:=bf C;have kj:bW w1 ((w1.alloc (Z4 (aY dG) 319)).setRow w1.heap.size (aY C)):=(bA _ _).grown (aR _ _ _) (by simp) (λk e=>by cases e;exact XR _);have u:aF ((w1.alloc (Z4 (aY dG) 319)).setRow w1.heap.size (aY C)) w1.heap.size C:=(aF.new w1 dG).setRow C;have t:=hv.mono kj y;obtain ⟨Q,R,S⟩:=ft t.par;have H5:=hide3 u t y;clear Y h x O hv kj u t;go_wp2_with (refine wpList_store_row rfl 319 (Z1 6) (Z1 13) rfl w1.heap.size (aY C) rfl rfl 319 (aY dG) (aF.new w1 dG).heap (ez _) rfl (oW _) ?_);obtain ⟨w5,kv⟩:=nM ((w1.alloc (Z4 (aY dG) 319)).setRow w1.heap.size (aY C));rw [kv] at H5 Q R S ⊢;clear kv o kh kg;refine (ep D L G _ (by omega) (by omega) (by omega)).mono ?_;rintro e w6 ⟨rfl,V⟩;obtain ⟨u,t,y⟩:=H5.out;have l:=(XH.1 u.heap).1;have hc:Q4 w D L G lost w1.heap.size C (Z7 Z8 (lost:Nat)) (Z7 Z9 ((D:Int)+L+G-1)) w6:=⟨0,XV _,rfl,by congr 1;omega,u.keep (V.block _ l),t.mono V (by omega),XU l V.size,y⟩;have ki:=hide hc;clear Q R S u t l V hc H5;go_wp2;go_loopw [1,8] (λlv iv wr=>Q4 w D L G lost w1.heap.size C lv iv wr) (λ_ iv _=>(intOf iv+1).toNat)
 case atStart=>exact ki.out
 case round=>
  clear ki;rename ZT=>wo;obtain ⟨k,U,rfl,rfl,I,b,l,kk⟩:=hrel;have kf:=KV hD hG h16 hl hC k U;have W:(rdTo (D+L+G) (lost,C) k).1<65536:=XU kf.lt (by rw [show D+(L+G)=D+L+G by omega];exact wV h16);by_cases kp:k<D+L+G
  . obtain ⟨i,hi⟩:∃ i,i=D+L+G-1-k:=⟨_,rfl⟩;have J:((D+L+G:Nat):Int)-1-(k:Int)=(i:Int):=(by omega);have hg:=Pw hD hL4 hG h16 hl hC k U;have h9:rdTo (D+L+G) (lost,C) (k+1)=jH (rdTo (D+L+G) (lost,C) k) i:=(by rw [hi];rfl);rw [J];obtain ⟨a,ha⟩:=nM (rdTo (D+L+G) (lost,C) k);rw [ha] at I W hg h9 ⊢;have q3:=tC w1.heap.size i a.2 wo I hg (by omega);have HN:=hide6 h9 b I l kk J;have kc:i<16:=(by omega);have r:=hide2 hi kp;clear kf ha b I hg h9 l kk J hi kp;go_wp2_with fail;refine (Ef a.1 i W kc wo).mono ?_;rintro e w2 ⟨rfl,q4⟩;subst q4;cases hb:a.1.testBit i with
    | true=>
     go_wp2;go_roundw
     case rel=>
      obtain ⟨g,d,T,A,B,h6⟩:=HN.out;refine ⟨k+1,by have:=r.out;omega,?_,by congr 1;omega,?_,d,A,B⟩
      . rw [g];unfold jH;rw [if_pos hb]
      . rw [g];unfold jH;rw [if_pos hb];exact T
     case measure=>have:=r.out;simp [intOf]<;>omega
    | false=>
     go_wp2_with fail;refine q3.mono ?_;rintro e X (⟨ko,rfl,q5⟩|⟨C',K,rfl,j,n⟩)
     . subst q5;go_wp2;go_roundw
       case rel=>
        obtain ⟨g,d,T,A,B,h6⟩:=HN.out;refine ⟨k+1,by have:=r.out;omega,?_,by congr 1;omega,?_,d,A,B⟩
        . rw [g];unfold jH;rw [if_neg (by rw [hb];decide),ko]
        . rw [g];unfold jH;rw [if_neg (by rw [hb];decide),ko];exact T
       case measure=>have:=r.out;simp [intOf]<;>omega
     . have Z:=hide3 K j n;clear K j n;go_wp2_with fail;refine (iM a.1 i (by omega) (by omega) X).mono ?_;rintro e w4 ⟨rfl,q6⟩;subst q6;go_wp2;go_roundw
       case rel=>
        obtain ⟨g,d,T,A,B,h6⟩:=HN.out;obtain ⟨K,j,n⟩:=Z.out;refine ⟨k+1,by have:=r.out;omega,?_,by congr 1;omega,?_,?_,XU A n.size,B⟩
        . rw [g];unfold jH;rw [if_neg (by rw [hb];decide),K]
        . rw [g];unfold jH;rw [if_neg (by rw [hb];decide),K];exact j
        . have q2:=d.below.size;exact ⟨(n.block _ (by omega) (λe=>by have:=XM e;omega)).trans d.par,(n.block _ (by omega) (λe=>by have:=XM e;omega)).trans d.res,d.below.grown n q2 (λq e=>by have:=XM e;omega)⟩
       case measure=>have:=r.out;simp [intOf]<;>omega
  . have kz:k=D+L+G:=(by omega);subst kz;have F:=Px hD hG h16 hl hC;have J:((D+L+G:Nat):Int)-1-((D+L+G:Nat):Int)=-1:=(by omega);rw [J];have e0:(rdTo (D+L+G) (lost,C) (D+L+G)).1=Pv D L G lost C:=rfl;rw [e0] at W ⊢;obtain ⟨s,ks⟩:=nM (Pv D L G lost C);rw [ks] at F W ⊢;obtain ⟨C2,E⟩:=F.told;have P:=Eh D L G s hr hD1 hD hL hL4 hG hdiv h16 (by omega) E wo (hT.mono (by omega) b.below) (XN d b.below.size);obtain ⟨Q,R,S⟩:=ft b.par;obtain ⟨z,o⟩:∃ z:Int,1+((ab (av (D+L+G) s)).length:Int)=z:=⟨_,rfl⟩;unfold zM at P;try change Below _ _ _ at P
    rw [o] at P;have H:=hide5 F P b E o;clear F P b E o kf I l e0 ks;go_wp2_with fail;refine H.out.2.1.mono ?_;rintro e X ⟨ao,m,c,rfl,M,f⟩;have b:=H.out.2.2.1;have kx:=(XH.1 b.res).1;have N:=(f.block (w.heap.size+1) kx (λq=>q)).trans b.res;obtain ⟨r0,r1,g1,g0⟩:=aG N;have Z:=hide4 M f N kx;clear M f N Q R S b;go_wp2;obtain ⟨M,f,N,F⟩:=Z.out;obtain ⟨n0,n1,_⟩:=aG (ll (y':=.slice ao m c) (lj (x':=Z7 Z9 z) N));have hn:(Value.slice ao m c).ownBlock≠ZW (w.heap.size+1):=λe=>by have:=jY M e;omega
    have ke:=(M.kept (dm X (w.heap.size+1) 0 (Z7 Z9 z)) (.inr hn)).kept (dm _ (w.heap.size+1) 1 (.slice ao m c)) (.inr hn);refine bodyPost_ret (v:=ZZ #[.agg #[Z7 Z9 z,.slice ao m c],.nilIface]) (by simp [results,results187,go_sem,n0,n1]) rfl ?_;obtain ⟨q1,_,b,E,o⟩:=H.out;have ky:bW w X:=⟨f.os.trans b.below.os,f.tape.trans b.below.tape,f.output.trans b.below.output,XN b.below.size f.size,λk U=>(f.block k (by omega) (λq=>q)).trans (b.below.block k U)⟩;exact ⟨s,C2,q1,E,ao,m,c,by rw [o],fZ ke (by omega),aa.TG ((ky.setCell (p:=⟨w.heap.size+1,0,ZX⟩) (by show w.heap.size<=w.heap.size+1;omega) _).setCell (p:=⟨w.heap.size+1,1,ZX⟩) (by show w.heap.size<=w.heap.size+1;omega) _) _⟩
end
end
def aK (D L G:Nat) (dl:List Nat):List (List Nat):=dF (aO D L G) (dq D dl) 44
def gz (D L G:Nat) (dl:List Nat):(aK D L G dl).length=D+L+G:=by unfold aK dF;rw [XK,dj]
def G8 (hl:dl.length<=D*44) (d:1<=D):QD (dq D dl)/\((dq D dl).getD 0 []).length=44:=by
 have a:((dq D dl).getD 0 []).length=44:=by
  have e:(dq D dl).getD 0 []=(dq D dl)[0]'(by rw [dP];omega):=by simp [dP,show 0<D by omega]
  rw [e,oM];exact mw hl (by omega)
 refine ⟨λi c=>?_,a⟩;have b:=c;rw [dP] at b;unfold AK;rw [a,oM c,mw hl b];exact ⟨rfl,by decide⟩
noncomputable def SM:Array Oper:=((Tryz.f141.body.bind (mW · 1))).getD #[]
def RV:List (Op×Option Nat×List Nat):=[(Op.move (Z1 0),ZW 11,[]),
 (Op.nilCheck (Z1 11),ZW 12,[0]),
 (Op.fieldAddr 130 (Z1 12) 1,ZW 13,[1]),
 (Op.load 25 (Z1 13),ZW 14,[2]),
 (Op.move (Z1 0),ZW 15,[]),
 (Op.move (Z1 2),ZW 16,[]),
 (Op.call { callee:=Callee.value (Operand.func 164),args:=#[Z1 15,Z1 16],argTypes:=#[115,34] },ZW 17,[4,5]),
 (Op.call { callee:=Callee.value (Operand.func 163),args:=#[Z1 14,Z1 17],argTypes:=#[25,95] },ZW 18,[3,6,6]),
 (Op.move (Z1 18),ZW 10,[7]),
 (Op.extract (Z1 10) 0,ZW 19,[8]),
 (Op.extract (Z1 10) 1,ZW 20,[8]),
 (Op.assign (Z1 19),ZW 7,[9,7,0,1,2,3,4,5,6,7,8,9]),
 (Op.assign (Z1 20),ZW 8,[10,11,0,1,2,3,4,5,6,7,8,9,10,11])]
def G9:aN SM 7 21 RV:=bx (by kernel_rfl) (by kernel_rfl)
def m8 (w:ZT) (base:Nat) (M:List (List Nat)) (u:ZS):Prop:=∃ T,iV w base u T/\di T 44 M
def m8.mono (h:m8 w base M u) (c:bW w w'):m8 w' base M u:=by
 obtain ⟨T,a,b⟩:=h;exact ⟨T,a.below c,b⟩
def Qj (v D L G base:Nat) (vd:ZS) (dl:List Nat) (i:Nat) (u:ZS) (w:ZT):Prop:=match i with
 | 0|1|4=>u=Z6 (ZW ⟨v,0,ZX⟩)
 | 2=>u=Z6 (ZW ⟨v,1,ZX⟩)
 | 3=>u=.agg #[Z7 Z9 D,Z7 Z9 L,Z7 Z9 G]
 | 5=>u=vd
 | 6=>Rd w u (dq D dl)
 | 7|8=>∃ x,u=ZZ #[x,.nilIface]/\m8 w base (aK D L G dl) x
 | 9|11=>m8 w base (aK D L G dl) u
 | 10|12=>u=.nilIface
 | _=>True
def BA {vd:ZS} (a:bW w w') (i:Nat) (u:ZS) (h:Qj v D L G base vd dl i u w):Qj v D L G base vd dl i u w':=by
 match i,h with
 | 0,h|1,h|2,h|3,h|4,h|5,h|10,h|12,h=>exact h
 | 6,h=>exact Rd.mono h a
 | 7,⟨x,h1,h2⟩=>exact ⟨x,h1,h2.mono a⟩
 | 8,⟨x,h1,h2⟩=>exact ⟨x,h1,h2.mono a⟩
 | 9,h|11,h=>exact m8.mono h a
 | i+13,_=>trivial
theorem nP (M:SM=ops) (z:bt w v p D L G ps ho) (hr:bU D L G=ZV) (E:1<=D) (hD:D<=12) (hL:1<=L) (V:L<=4) (hG:G<=4) (J:D%L=0)
 (s:ZS) (dl:List Nat) (U:Bs w s dl) (hl:dl.length<=D*44) (Z:a.tmps.size=42) (C:a.eval (Z1 0)=Z6 (ZW ⟨v,0,ZX⟩)) (H:a.eval (Z1 2)=s)
 (O:∀ (w':ZT) (vs:List ZS) (x:ZS),vs.length=11->m8 w' w.heap.size (aK D L G dl) x->bW w w'->Q .normal (Act.putFrom a 7 (x::.nilIface::a.eval (Z1 9)::vs)) w'):(Code.region 1 ops ZV).wp ZQ Q a w:=by
 subst M;obtain ⟨K,S⟩:=G8 hl E;refine cU (by kernel_rfl) G9 a w (by omega) (Qj v D L G w.heap.size s dl) (λ_ w'=>bW w w') ((Below.refl _ w).drew) ?_ ?_
 . intro i y;match i,y with
   | 0,_=>exact λo c w' Dn r ho g k l m h b d=>ae (ag ho ((k.slot 0 (by omega)).trans C) w') g ⟨b,rfl,kq⟩
   | 1,_=>
    intro o c w' Dn r ho g k l m h b d;have u0:c.eval (Z1 11)=Z6 (ZW ⟨v,0,ZX⟩):=d 0 (h 0 (by decide));exact ae (eo ho u0 w') g ⟨b,rfl,kq⟩
   | 2,_=>
    intro o c w' Dn r ho g k l m h b d;have u0:c.eval (Z1 12)=Z6 (ZW ⟨v,0,ZX⟩):=d 1 (h 1 (by decide));exact ae (v:=Z6 (ZW ⟨v,1,ZX⟩)) (by simp only [execOp,show o.op=Op.fieldAddr 130 (Z1 12) 1 from ho,u0];go_simp) g ⟨b,rfl,kq⟩
   | 3,_=>
    intro o c w' Dn r ho g k l m h b d;have u0:c.eval (Z1 13)=Z6 (ZW ⟨v,1,ZX⟩):=d 2 (h 2 (by decide));obtain ⟨_,c1,X,Y,_⟩:=(z.keep (b.block _ z.lt)).cells;exact ae (v:=.agg #[Z7 Z9 D,Z7 Z9 L,Z7 Z9 G]) (by simp only [execOp,show o.op=Op.load 25 (Z1 13) from ho,u0];go_simp) g ⟨b,rfl,kq⟩
   | 4,_=>exact λo c w' Dn r ho g k l m h b d=>ae (ag ho ((k.slot 0 (by omega)).trans C) w') g ⟨b,rfl,kq⟩
   | 5,_=>exact λo c w' Dn r ho g k l m h b d=>ae (ag ho ((k.slot 2 (by omega)).trans H) w') g ⟨b,rfl,kq⟩
   | 6,_=>
    intro o c w' Dn r ho g k l m h b d;have u0:c.eval (Z1 15)=Z6 (ZW ⟨v,0,ZX⟩):=d 4 (h 4 (by decide));have u1:c.eval (Z1 16)=s:=d 5 (h 5 (by decide));refine dD (f:=164) (args:=#[Z6 (ZW ⟨v,0,ZX⟩),s]) (w1:=w') (by simp only [execOp,show o.op=Op.call { callee:=Callee.value (Operand.func 164),args:=#[Z1 15,Z1 16],argTypes:=#[115,34] } from ho];go_simp;exact ⟨by simpa [Act.eval] using u0,by simpa [Act.eval] using u1⟩) g (O1 (z.keep (b.block _ z.lt)) hD s dl (U.mono b) hl) ?_;rintro e B ⟨u,rfl,P,t⟩;exact ⟨u,rfl,b.trans (t.mono b.size),P,λj u _ q=>BA t j u q⟩
   | 7,_=>
    intro o c w' Dn r ho g k l m h b d;have u0:c.eval (Z1 14)=.agg #[Z7 Z9 D,Z7 Z9 L,Z7 Z9 G]:=d 3 (h 3 (by decide));have u1:Rd w' (c.eval (Z1 17)) (dq D dl):=d 6 (h 6 (by decide));have F:=DD D L G hr E hD hL V hG J (c.eval (Z1 17)) (dq D dl) w' u1 (dP D dl) K;rw [S] at F;refine dD (f:=163) (args:=#[.agg #[Z7 Z9 D,Z7 Z9 L,Z7 Z9 G],c.eval (Z1 17)]) (w1:=w') (by simp only [execOp,show o.op=Op.call { callee:=Callee.value (Operand.func 163),args:=#[Z1 14,Z1 17],argTypes:=#[25,95] } from ho];go_simp;simpa [Act.eval] using u0) g F ?_;rintro e B ⟨x,T,rfl,R,N,t⟩;exact ⟨_,rfl,b.trans (t.mono b.size),⟨x,rfl,T,R.weaken b.size,N⟩,λj u _ q=>BA t j u q⟩
   | 8,_=>
    intro o c w' Dn r ho g k l m h b d;obtain ⟨x,u0,A⟩:Qj v D L G w.heap.size s dl 7 (c.eval (Z1 18)) w':=d 7 (h 7 (by decide));exact ae (ag ho u0 w') g ⟨b,⟨x,rfl,A⟩,kq⟩
   | 9,_=>
    intro o c w' Dn r ho g k l m h b d;obtain ⟨x,u0,A⟩:Qj v D L G w.heap.size s dl 8 (c.eval (Z1 10)) w':=d 8 (h 8 (by decide));exact ae (v:=x) (by simp only [execOp,show o.op=Op.extract (Z1 10) 0 from ho,u0];go_simp) g ⟨b,A,kq⟩
   | 10,_=>
    intro o c w' Dn r ho g k l m h b d;obtain ⟨x,u0,A⟩:Qj v D L G w.heap.size s dl 8 (c.eval (Z1 10)) w':=d 8 (h 8 (by decide));exact ae (v:=.nilIface) (by simp only [execOp,show o.op=Op.extract (Z1 10) 1 from ho,u0];go_simp) g ⟨b,rfl,kq⟩
   | 11,_=>
    intro o c w' Dn r ho g k l m h b d;have u0:m8 w' w.heap.size (aK D L G dl) (c.eval (Z1 19)):=d 9 (h 9 (by decide));exact ae (v:=c.eval (Z1 19)) (by simp [execOp,show o.op=Op.assign (Z1 19) from ho]) g ⟨b,u0,kq⟩
   | 12,_=>
    intro o c w' Dn r ho g k l m h b d;have u0:c.eval (Z1 20)=.nilIface:=d 10 (h 10 (by decide));exact ae (v:=.nilIface) (by simp [execOp,show o.op=Op.assign (Z1 20) from ho,u0]) g ⟨b,rfl,kq⟩
   | n+13,hn=>exact absurd hn (by show ¬ n+13<13;omega)
 . rintro c w' W I ⟨Dn,hD,b⟩ d;have e:c=Act.putFrom a 7 (c.eval (Z1 7)::.nilIface::a.eval (Z1 9)::(XG 11).map λi=>c.eval (.tmp (10+i))):=W.out _ (by simp) (by omega) (λi y=>by
    simp at y;match i,y with
    | 0,_=>rfl
    | 1,_=>exact d 12 (by decide)
    | 2,_=>exact I 9 (by decide)
    | i+3,y=>
     rw [Yg,Yg,Yg,XW,X4,X5 (by omega),show 7+(i+3)=10+i by omega];rfl)
   rw [e];exact O w' _ _ (by rw [XK,XS]) (d 11 (by decide)) b
def jl (hD:D<=12) (hG:G<=4) (dl:List Nat) (i:Nat) (a:i<(aK D L G dl).length):((aK D L G dl)[i]).length=44/\∀ x∈(aK D L G dl)[i],x<256:=by
 have b:i<(aO D L G).length:=by rw [dj];rw [gz] at a;exact a
 have e:(aK D L G dl)[i]=cQ (aO D L G)[i] (dq D dl) 44 (dq D dl).length:=by simp [aK,dF]
 rw [e];exact ⟨fU _ _ _ _,pX _ _ (oR D L G hD hG _ (XI b)) _ _⟩
theorem m8.rows (h:m8 w base M u) (v:M≠[]) (r:∀ i (d:i<M.length),M[i].length=44/\∀ x∈M[i],x<256):∃ g c,u=Z5 (ZW ⟨g,0,ZX⟩) M.length c/\Mc w base g M:=by
 obtain ⟨T,l,k⟩:=h;have f:T.length=M.length:=by simpa using congrArg List.length k
 rcases l.shape with ⟨_,q⟩|⟨g,cap,m,n,D,E,o,p,_,_⟩
 . exact absurd (Yh (by rw [<- f,q];rfl)) v
 . refine ⟨g,cap,by rw [m,f],n,o,λi d=>?_⟩;have a:i<T.length:=(by omega);have s:=k.at a d;obtain ⟨A,e,F,G,H⟩:=l.row T[i] (XI a);have b:=p i a;unfold lB at b;rw [s] at b e;obtain ⟨B,C⟩:=r i d;refine ⟨T[i].1,0,M[i].length,b,A,e.lt,λj u z=>?_,B,C⟩;have y:=e.Uv;have t:(aH M[i]).toArray[j]?=ZW u:=(by simpa using z);simp [World.cell?,y,t]
def PD (h:vs.length=11):∃ a b c d e f g i j k l,vs=[a,b,c,d,e,f,g,i,j,k,l]:=by
 match vs,h with
 | [a,b,c,d,e,f,g,i,j,k,l],_=>exact ⟨a,b,c,d,e,f,g,i,j,k,l,rfl⟩
def gT (A:ay) (D L G:Nat):Prop:=bH A (XG A.n)≠0->qt D L G (bH A (XG A.n))
def gT.here {A:ay} (h:∀ i,A.lost i=ZU) (D L G:Nat):gT A D L G:=λq=>absurd (xt λi _=>h i) q
theorem gT.congr {A B:ay} (h:gT A D L G) (a:B.n=A.n) (hl:B.lost=A.lost):gT B D L G:=by
 have e:bH B (XG B.n)=bH A (XG A.n):=by unfold bH;rw [a,hl]
 unfold gT;rw [e];exact h
theorem lu {A:ay} (I:nF w v p D L G ps ho A F) (Z:jT F p A.n v) (hf:A.fit) (hn:A.n=D+L+G) (hr:bU D L G=ZV) (hz:1<=D) (hD:D<=12) (hL:1<=L) (E:L<=4) (hG:G<=4) (X:D%L=0) (C:D+L+G<=16)
 (b:Nat) (hb:b<A.nb) (hw:A.wait<0) (R:gT A D L G) (T:ZS) (dl:List Nat) (N:Bs w T dl) (k6:dl.length<=D*44) :
 ZR ZQ 141 #[Z6 (ZW ⟨v,0,ZX⟩),Z7 Z9 b,T] w λe w'=>e=Z3 .nilIface/\aq w' p (A.putAt (XG A.n) b (λi=>(aX.shard ((aK D L G dl).getD i [])).blk)) F/\aa (F.has p A.n) w w':=by
 have HD:=hide N;have a:=gz D L G dl;have B:=jl (L:=L) hD hG dl;obtain ⟨M,H⟩:=nM (aK D L G dl);rw [H] at a B;have h:=hide2 H a;clear H a;go_enter func141,ntmps141;go_wp2_with fail;refine nP (by kernel_rfl) I.vol hr hz hD hL E hG X T dl HD.out k6 rfl rfl rfl ?_;intro w1 vs x hx J P;rw [h.out.1] at J;have a:=h.out.2;obtain ⟨x0,x1,x2,x3,x4,x5,x6,x7,x8,x9,xa,rfl⟩:=PD hx;obtain ⟨g,c,rfl,hm⟩:=J.rows (λe=>by rw [e] at a;simp at a;omega) B;have hp:=I.below P lR;have f:=hide3 hp hm P;clear J hm hp P hx B a;rename_i hK
 refine hK _ _ ?_;clear hK;simp only [Act.putFrom,Act.put,XO,XP,XQ];go_wp2_with fail;refine (nG f.out.1.vol hD E hG C).mono ?_;rintro e w2 ⟨rfl,j⟩;obtain ⟨S,u⟩:=nM (2^(D+L+G)-1);rw [u];have s:ab S=XG A.n:=by rw [<- u,hn];exact oF C
 have k0:S<65536:=by
  have:2^(D+L+G)<=2^16:=Yi (by decide) C;omega
 have O:=f.out.1.below j lR;have hj:Mc w2 w.heap.size g M:=f.out.2.1.keep j.size (λk _ Q=>j.block k Q);have t:=rN O Z hf b S hb k0 (λi o=>by rw [s] at o;simpa using o) hw (m:=M.length) (c:=c) hj (λi o=>by have:=h.out.2;rw [s] at o;simp at o;omega) lR (λk Q=>I.arr.TH Q);rw [s] at t;have k7:bH A (XG A.n)<65536:=pq A _ (λd N=>by have:=X6.1 N;omega);obtain ⟨y,Y⟩:=nM (bH A (XG A.n));unfold gT at R;rw [Y] at t R k7;have q:=hide4 t j u O;clear O hj t j s u Y;go_wp2_with fail;refine q.out.1.mono ?_;rintro e w3 ⟨rfl,hh,K⟩;have hO:aa (F.has p A.n) w w3:=(aa.TG (f.out.2.2.trans (q.out.2.1.mono f.out.2.2.size)) _).trans K;have hq:=q.out.2.2.2.vol.keep (K.block _ q.out.2.2.2.vol.lt Z.v);obtain ⟨_,c1,V,W,_⟩:=hq.cells;have r:=hide2 hh hO;clear hh K hO hq;by_cases z:y=0
 . subst z;clear c1 V W;go_wp2;go_ret;have l:=r.out.1;rw [<- h.out.1] at l;exact ⟨rfl,l,r.out.2⟩
 . have hy:¬ (y:Int)=0:=(by omega);have k9:((y:Int) != 0)=ZV:=(by simpa using hy);have hv:=gI D L G y hr hD hL E hG X (by omega) w3;have k8:=R z;clear z;go_wp2_with fail;refine hv.mono ?_;rintro e w4 ⟨bb,rfl,k5,hs⟩;obtain rfl:bb=ZV:=k5.2 k8;have U:=hide hs;clear hs hv c1 V W;go_wp2;go_ret;have l:=r.out.1;rw [<- h.out.1] at l;exact ⟨rfl,l.below U.out lR,r.out.2.trans (aa.TG U.out _)⟩
def fH (D:Nat) (P l:List Nat) (k:Nat):List Nat:=be (P.getD (k+1) 0) 4++(l.drop (k*(D*44-4))).take (D*44-4)
def ay.pagesTo (A:ay) (D L G:Nat) (P l:List Nat):Nat->ay
 | 0=>A
 | k+1=>(ay.pagesTo A D L G P l k).putAt (XG A.n) (P.getD k 0) (λi=>(aX.shard ((aK D L G (fH D P l k)).getD i [])).blk)
def iz (A:ay) (D L G:Nat) (P l:List Nat):∀ k,(A.pagesTo D L G P l k).n=A.n/\(A.pagesTo D L G P l k).nb=A.nb/\(A.pagesTo D L G P l k).wait=A.wait/\(A.pagesTo D L G P l k).lost=A.lost
 | 0=>⟨rfl,rfl,rfl,rfl⟩
 | k+1=>iz A D L G P l k
def gA {A:ay} (h:A.fit) {D L G:Nat} (hD:D<=12) (hG:G<=4) (d:A.n=D+L+G) (P l:List Nat):∀ k,(A.pagesTo D L G P l k).fit
 | 0=>h
 | k+1=>(gA h hD hG d P l k).putAt _ _ _ λi c=>by
  rw [X6,d] at c;have a:i<(aK D L G (fH D P l k)).length:=by rw [gz];exact c
  have e:(aK D L G (fH D P l k)).getD i []=(aK D L G (fH D P l k))[i]:=by simp [a]
  have b:(aX.shard ((aK D L G (fH D P l k)).getD i [])).ok:=by rw [e];exact jl hD hG _ i a
  exact ⟨eJ b,jv b⟩
def xu (a:1<=D) (P l:List Nat) (k:Nat):(fH D P l k).length<=D*44:=by
 unfold fH;rw [XL,bY,X7];omega
def KZ (hl:∀ x∈l,x<256) (P:List Nat) (k:Nat):∀ x∈fH D P l k,x<256:=by
 intro x a;unfold fH at a;rw [XT] at a;rcases a with a|a
 . exact sC _ _ x a
 . exact hl x (X8 (Yj a))
def BB {v:ZS} (h:w.ownsRow base e size v n xs) (f:aa S w w') (i:∀ k,S k->k<base):w'.ownsRow base e size v n xs:=by
 refine ⟨h.1,?_⟩;rcases h.2 with d|⟨g,cap,cur,b,c,a,r⟩
 . exact .inl d
 . exact .inr ⟨g,cap,cur,b,c,(f.block g (XH.1 a).1 (λq=>by have:=i g q;omega)).trans a,r⟩
def eR.T1 (h:aa S w w'):eR (λk=>¬ S k) w w':=⟨h.size,λk a b=>h.block k a b⟩
def sn {v:ZS} (h:bN K w v l) (hl:l≠[]):∃ b off c,v=Z5 (ZW ⟨b,off,ZX⟩) l.length c/\∀ i (e:i<l.length),w.cell? ⟨b,off+i,ZX⟩=ZW (Z7 Z9 ((l[i]:Nat):Int)):=by
 obtain ⟨ao,c,rfl,_,a⟩:=h;obtain ⟨b,off,rfl,_,_,d⟩:=a hl;exact ⟨b,off,c,rfl,d⟩
def Tryz.Ul:(ZQ.info? 5).map (λi=>(i.zero,i.size,i.bytes))=ZW (ZW (Z7 .u8 0),1,1):=by kernel_rfl
theorem tT {A:ay} (I:bM w ar v D' L' G' t f nn pg ob off) (N:nF w v p D L G ps ho A F) (hF:jT F p A.n v) (qm:¬ F.has p A.n ar) (hf:A.fit) (hn:A.n=D+L+G) (hr:bU D L G=ZV) (kc:1<=D) (hD:D<=12) (hL:1<=L) (qh:L<=4) (hG:G<=4) (kh:D%L=0) (qe:D+L+G<=16)
 (hw:A.wait<0) (k8:gT A D L G) (g cap base:Nat) (l:List Nat) (Y:w.ownsRow base 5 1 (Z5 (ZW ⟨g,0,ZX⟩) l.length cap) l.length (aH l)) (qq:∀ x∈l,x<256) (x4:l.length<=1000000) (k6:∀ k,F.has p A.n k->k<base)
 (vp:ZS) (P:List Nat) (M:bN (λk=>¬ F.has p A.n k) w vp P) (kr:∀ x∈P,x<A.nb) (qj:∀ k,k<P.length->k*(D*44-4)<=l.length) :
 ZR ZQ 121 #[Z6 (ZW ⟨ar,0,ZX⟩),Z5 (ZW ⟨g,0,ZX⟩) l.length cap,vp] w λe w'=>e=Z3 .nilIface/\aq w' p (A.pagesTo D L G P l P.length) F/\aa (F.has p A.n) w w':=by
 obtain ⟨i0,kz,qa,qb,qc⟩:=info_parts Tryz.Ul;obtain ⟨pa,pc,rfl,kp,_⟩:=id M;have kk:=oL I N.vol kc (by omega);obtain ⟨c,km⟩:=nM (D*44-4);have x1:40<=c/\c<=524:=by omega
 rw [km] at kk;have x5:=hf.nb;have H0:=hide4 I N Y M;clear I N Y M;go_enter func121,ntmps121;go_wp2_with fail;refine kk.mono ?_;rintro e w1 ⟨rfl,rfl⟩;clear kk;go_wp2;go_loopw [17] (λi wr=>∃ k:Nat,i=Z7 Z9 (k:Nat)/\k<=P.length/\aq wr p (A.pagesTo D L G P l k) F/\aa (F.has p A.n) w1 wr) (λi _=>P.length-(intOf i).toNat)
 case atStart=>exact ⟨0,rfl,XV _,H0.out.2.1.arr,aa.refl _ _⟩
 case round=>
  obtain ⟨k,rfl,hk,k0,C⟩:=hrel;by_cases Q:k<P.length
  . obtain ⟨I,N,Y,M⟩:=H0.out;have kv:=M.keep (eR.T1 C);obtain ⟨b,bo,c',e1,kg⟩:=sn kv (λe=>by rw [e] at Q;simp at Q);simp only [Value.slice.injEq] at e1;obtain ⟨rfl,_,rfl⟩:=e1;have c1:=kg k Q;obtain ⟨y,hy⟩:=nM (P[k]);rw [hy] at c1;have ko:y<A.nb:=(by rw [<- hy];exact kr _ (XI Q));obtain ⟨B,R⟩:=nM (P.getD (k+1) 0);have ki:(k+1<P.length/\wr.cell? ⟨b,bo+(k+1),ZX⟩=ZW (Z7 Z9 (B:Nat)))\/(¬ k+1<P.length/\B=0):=by
     by_cases m:k+1<P.length
     . have:=kg (k+1) m;have e:P.getD (k+1) 0=P[k+1]:=(by simp [m]);rw [<- e,R] at this;exact .inl ⟨m,this⟩
     . exact .inr ⟨m,by rw [<- R];simp [show P.length<=k+1 by omega]⟩
    have qz:B<1000001:=by
     rcases Yk (k+1) P.length with m|m
     . have e:P.getD (k+1) 0=P[k+1]:=(by simp [m]);rw [<- R,e];have:=kr _ (XI m);omega
     . rw [<- R];simp [m]
    have q0:=iz A D L G P l k;have kx:nF wr v p D L G ps ho (A.pagesTo D L G P l k) F:=N.turn hF C k0;have hh:=BB Y C k6;have kf:=I.keep (C.block _ I.lt qm);obtain ⟨ca,_⟩:=kf.cells;have d:=hide8 k0 C kx hh q0 kf R hy;clear k0 C kx hh q0 kf R hy kg kv I N Y M;have kj:=qj k Q;rw [km] at kj;have qn:l.length<=cap:=by
     rcases d.out.2.2.2.1.2 with ⟨e,_⟩|⟨g',hb,cur,e,_,_,hc,_⟩
     . cases e
     . simp only [Value.slice.injEq] at e;omega
    have he:(k+1)*c=k*c+c:=Nat.succ_mul k c;have qs:(k:Int)*(c:Int)=((k*c:Nat):Int):=(by rw [Yu]);have qv:((k:Int)+1)*(c:Int)=(((k+1)*c:Nat):Int):=(by rw [Yu];rfl);obtain ⟨a,ke⟩:=nM (k*c);obtain ⟨r,hq⟩:=nM ((k+1)*c);rw [ke] at qs he kj;rw [hq] at qv he;obtain ⟨bb,ky⟩:=nM (min r l.length);have x2:a<=bb:=(by omega);have x3:bb<=cap:=(by omega);have E:bb-a<=524:=(by omega);have hp:((l.drop a).take c).length=bb-a:=(by rw [X7,Yl];omega);have qx:∀ T ty w,(Builtin.min_ T ty #[Z7 Z9 (r:Nat),Z7 Z9 (l.length:Nat)]).run ZQ w=.ok (Z7 Z9 (bb:Nat)) w:=λT ty w=>by
     rw [jb];by_cases m:((l.length:Nat):Int)<((r:Nat):Int)
     . rw [if_pos m,show bb=l.length by omega]
     . rw [if_neg m,show bb=r by omega]
    have hj:∀ W:ZT,W.ownsRow base 5 1 (Z5 (ZW ⟨g,0,ZX⟩) l.length cap) l.length (aH l)->Src ZQ 1 34 (.slice (if cap=a then ZW ⟨g,0,ZX⟩ else ZW ⟨g,a,ZX⟩) (bb-a) (cap-a)) (bb-a) (aH ((l.drop a).take c)) W:=λW hW=>by
     have x0:W.rangeAt g 0 (aH l):=λj u h=>by have:=hW.cells (g:=g) rfl j u h;rw [mN] at this;rw [XY];exact this
     by_cases O:cap=a
     . have h0:(l.drop a).take c=[]:=Yh (by omega);rw [if_pos O,h0,show bb-a=0 by omega];exact Src.ofSlice W underlying34 ⟨g,0,ZX⟩ 0 (cap-a) (aH []) rfl (λj u h=>by simp [aH] at h) (λu h=>by simp [aH] at h)
     . rw [if_neg O];have q9:=nv c (fQ a x0);rw [XY] at q9;exact Src.ofSlice W underlying34 ⟨g,a,ZX⟩ (bb-a) (cap-a) _ (by rw [bp,hp,Nat.mul_one]) (λj u h=>by rw [Addr.add_mid];exact q9 j u h) (λu h=>by unfold aH at h;rw [XZ] at h;obtain ⟨x,_,rfl⟩:=h;rfl)
    have hi:∀ (W:ZT) (u:ZS),W.ownsRow wr.heap.size 5 1 u (0+4+(bb-a)) ([]++aH (be B 4)++aH ((l.drop a).take c))->Bs W u (fH D P l k):=λW u h=>by
     have e:[]++aH (be B 4)++aH ((l.drop a).take c)=aH (fH D P l k):=by
      unfold fH;rw [km,ke,d.out.2.2.2.2.2.2.1,cd,Ym]
     rw [e] at h;exact Bs.Ue h (KZ qq P k) (XN (xu kc P l k) (by omega))
    have h8:∀ (W:ZT) (u:ZS),bW wr W->Bs W u (fH D P l k)->ZR ZQ 141 #[Z6 (ZW ⟨v,0,ZX⟩),Z7 Z9 (y:Nat),u] W λe w'=>e=Z3 .nilIface/\aq w' p (A.pagesTo D L G P l (k+1)) F/\aa (F.has p A.n) w1 w':=λW u hW h=>by
     obtain ⟨q1,q2,q3,q4,J,q6,q7,q8⟩:=d.out;have qk:=q3.below hW lR;have qg:jT F p (A.pagesTo D L G P l k).n v:=(by rw [J.1];exact hF);have hc:=lu qk qg (gA hf hD hG hn P l k) (by rw [J.1];exact hn) hr kc hD hL qh hG kh qe y (by rw [J.2.1];exact ko) (by rw [J.2.2.1];exact hw) (k8.congr J.1 J.2.2.2) u (fH D P l k) h (xu kc P l k);rw [J.1] at hc;refine hc.mono ?_;rintro e w' ⟨rfl,qf,qi⟩;refine ⟨rfl,?_,q2.trans ((aa.TG hW _).trans qi)⟩;have ey:P.getD k 0=y:=(by rw [<- q8];simp [Q]);show aq w' p ((A.pagesTo D L G P l k).putAt (XG A.n) (P.getD k 0) (λi=>(aX.shard ((aK D L G (fH D P l k)).getD i [])).blk)) F;rw [ey];exact qf
    have kb:=hide2 hi h8;clear hi h8;have HK:=hide6 ke hq ky hp kj he;have x6:IntKind.u64.wrap (B:Int)=(B:Int):=(by rw [IntKind.wrap_u64];omega);have qp:a<=1000000/\r<=1000524/\bb<=1000000:=(by omega);clear ke hq ky hp he;rcases ki with ⟨m,c2⟩|⟨m,qy⟩
    . have qd:(k:Int)+1<((P.length:Nat):Int):=(by omega);go_wp2_with fail;refine (eY wr.heap.size (Z5 ZX 0 0) 0 [] B 4 wr (World.ownsRow_nil _ _ _ _) lR (by decide) (by decide)).mono ?_;rintro e w2 ⟨v2,rfl,k9,q,X⟩;have z:bW wr w2:=⟨q.os,q.tape,q.output,q.size,λk hk=>q.block k hk (λe=>by simp [Value.ownBlock] at e)⟩;have H:=aB d.out.2.2.2.1 z;have U:=d.out.2.2.2.2.2.1.keep (z.block _ d.out.2.2.2.2.2.1.lt);obtain ⟨cb,_⟩:=U.cells;have Z:Src ZQ 1 34 (.slice (if cap=a then ZW ⟨g,0,ZX⟩ else ZW ⟨g,a,ZX⟩) (bb-a) (cap-a)) (bb-a) (aH ((l.drop a).take c)) w2:=hj w2 H;have o:=hide5 k9 z Z H X;clear k9 q z Z H X U;go_wp2_with (
       at_builtin;
       refine af _ rfl (Z1 35) (Z1 47) 34 34 rfl wr.heap.size 5 i0 (Z7 .u8 0) 1 1 underlying34 kz qa qb qc rfl v2 (0+4) ([]++aH (be B 4)) (by rfl) (by exact o.out.1) _ (by rfl) (bb-a) (aH ((l.drop a).take c)) (by exact o.out.2.2.1) (by unfold maxLen;omega) (by omega) (by exact o.out.2.1.size) ?_;
       intro v3 K ka k7 hm;
       have E:bW wr K:=o.out.2.1.grown k7 o.out.2.1.size (λk e=>(o.out.1.lt k e).1);
       have V:=d.out.2.2.2.2.2.1.keep (E.block _ d.out.2.2.2.2.2.1.lt);
       obtain ⟨cc,_⟩:=V.cells;
       have S:=hide2 ka E;
       clear ka E k7 hm V)
      all_goals
       refine (kb.out.2 K v3 S.out.2 (kb.out.1 K v3 S.out.1)).mono ?_;rintro e w4 ⟨rfl,hz,k5⟩;have s:=hide2 hz k5;clear hz k5;go_wp2;first
        | exact ⟨⟨k+1,by go_num,by omega,s.out.1,s.out.2⟩,by simp only [intOf];omega⟩
        | (have O:cap=a:=by assumption
           subst O;go_roundw
           case rel=>exact ⟨k+1,by go_num,by omega,s.out.1,s.out.2⟩
           case measure=>
            show P.length-((k:Int)+1).toNat<P.length-((k:Nat):Int).toNat;omega)
    . have qd:¬ (k:Int)+1<((P.length:Nat):Int):=(by omega);subst qy;go_wp2_with fail;refine (eY wr.heap.size (Z5 ZX 0 0) 0 [] 0 4 wr (World.ownsRow_nil _ _ _ _) lR (by decide) (by decide)).mono ?_;rintro e w2 ⟨v2,rfl,k9,q,X⟩;have z:bW wr w2:=⟨q.os,q.tape,q.output,q.size,λk hk=>q.block k hk (λe=>by simp [Value.ownBlock] at e)⟩;have H:=aB d.out.2.2.2.1 z;have U:=d.out.2.2.2.2.2.1.keep (z.block _ d.out.2.2.2.2.2.1.lt);obtain ⟨cb,_⟩:=U.cells;have Z:Src ZQ 1 34 (.slice (if cap=a then ZW ⟨g,0,ZX⟩ else ZW ⟨g,a,ZX⟩) (bb-a) (cap-a)) (bb-a) (aH ((l.drop a).take c)) w2:=hj w2 H;have o:=hide5 k9 z Z H X;clear k9 q z Z H X U;go_wp2_with (
       at_builtin;
       refine af _ rfl (Z1 35) (Z1 47) 34 34 rfl wr.heap.size 5 i0 (Z7 .u8 0) 1 1 underlying34 kz qa qb qc rfl v2 (0+4) ([]++aH (be 0 4)) (by rfl) (by exact o.out.1) _ (by rfl) (bb-a) (aH ((l.drop a).take c)) (by exact o.out.2.2.1) (by unfold maxLen;omega) (by omega) (by exact o.out.2.1.size) ?_;
       intro v3 K ka k7 hm;
       have E:bW wr K:=o.out.2.1.grown k7 o.out.2.1.size (λk e=>(o.out.1.lt k e).1);
       have V:=d.out.2.2.2.2.2.1.keep (E.block _ d.out.2.2.2.2.2.1.lt);
       obtain ⟨cc,_⟩:=V.cells;
       have S:=hide2 ka E;
       clear ka E k7 hm V)
      all_goals
       refine (kb.out.2 K v3 S.out.2 (kb.out.1 K v3 S.out.1)).mono ?_;rintro e w4 ⟨rfl,hz,k5⟩;have s:=hide2 hz k5;clear hz k5;go_wp2;first
        | exact ⟨⟨k+1,by go_num,by omega,s.out.1,s.out.2⟩,by simp only [intOf];omega⟩
        | (have O:cap=a:=by assumption
           subst O;go_roundw
           case rel=>exact ⟨k+1,by go_num,by omega,s.out.1,s.out.2⟩
           case measure=>
            show P.length-((k:Int)+1).toNat<P.length-((k:Nat):Int).toNat;omega)
  . have qo:k=P.length:=(by omega);subst qo;have d:=hide2 k0 C;clear k0 C;go_wp2;go_ret;exact ⟨rfl,d.out.1,d.out.2⟩
theorem D9 {a':Act} {lo:Nat} {v:ZS} (f:a'.tmps.size=a.tmps.size) (c:a'.defers=a.defers) (m:lo+vs.length<=a.tmps.size) (n:d<lo) (j:a'.eval (.tmp d)=v) (g:∀ i,i<vs.length->a'.eval (.tmp (lo+i))=vs.getD i ZY) (h:∀ s,s≠d->s<lo\/lo+vs.length<=s->a'.eval (.tmp s)=a.eval (.tmp s)):a'=Act.putFrom (a.put (ZW d) v) lo vs:=by
 obtain ⟨k,l⟩:=fA vs (a.put (ZW d) v) lo;refine yx (f.trans ((k.trans (oh _ _ _)).symm)) (c.trans l.symm) λs _=>?_;rw [fC vs _ lo s (by rw [oh];omega)];by_cases e:lo<=s/\s<lo+vs.length
 . rw [if_pos e];have:=g (s-lo) (by omega);rwa [show lo+(s-lo)=s by omega] at this
 . rw [if_neg e];by_cases b:s=d
   . subst b;rw [rU _ _ _ (by omega),j]
   . rw [iB _ _ _ _ (λq=>b q.symm)];exact h s b (by omega)
noncomputable def SN:Array Oper:=((Tryz.f85.body.bind (mW · 5))).getD #[]
def PE:List (Op×Option Nat×List Nat):=[(Op.move (Z1 0),ZW 19,[]),
 (Op.nilCheck (Z1 19),ZW 20,[0]),
 (Op.fieldAddr 121 (Z1 20) 0,ZW 21,[1]),
 (Op.load 115 (Z1 21),ZW 22,[2]),
 (Op.call { callee:=Callee.value (Operand.func 96),args:=#[Z1 22],argTypes:=#[115] },ZW 23,[3]),
 (Op.move (Z1 0),ZW 24,[]),
 (Op.nilCheck (Z1 24),ZW 25,[5]),
 (Op.fieldAddr 121 (Z1 25) 1,ZW 26,[6]),
 (Op.fieldAddr 117 (Z1 26) 1,ZW 27,[7]),
 (Op.load 47 (Z1 27),ZW 28,[8]),
 (Op.binOp BinOp.add 47 (Z1 28) (Operand.const (Value.int IntKind.u64 1)) 47,ZW 29,[9]),
 (Op.move (Z1 2),ZW 30,[]),
 (Op.indexAddr 41 (Z1 30) (Operand.const (Value.int IntKind.i64 0)),ZW 31,[11]),
 (Op.load 3 (Z1 31),ZW 32,[12]),
 (Op.move (Z1 7),ZW 33,[]),
 (Op.call { callee:=Callee.builtin Builtin.len,args:=#[Z1 33],argTypes:=#[34] },ZW 34,[14]),
 (Op.build 117 #[(0,Z1 23),(1,Z1 29),(2,Z1 32),(3,Z1 34)],ZW 35,[4,10,13,15]),
 (Op.alloc 117,ZW 9,[]),
 (Op.store 117 (Z1 9) (Z1 35),ZX,[17,16,4,0,1,2,3,4,5,6,7,8,9,10,11,12,13,14,15,16,17])]
def Ha:aN SN 9 36 PE:=bx (by kernel_rfl) (by kernel_rfl)
def zy {s:Operand} (ho:o.op=.call { callee:=.builtin .len,args:=#[s],argTypes:=#[34] }) {so:Option Addr} {n c:Nat} (hx:a.eval s=.slice so n c) (w:ZT):(execOp a.eval o).run ZQ w=.ok (.value (Z7 Z9 n)) w:=by
 unfold execOp;simp only [ho,resolve,invoke,builtin,Sem.run_bind,Sem.run_pure,Result.andThen_ok,Yn,Yo,Yp,hx];simp [Builtin.len_,run_underlying underlying34,goInt]
def kR (w:ZT) (b:Nat):Prop:=∃ cs:Array ZS,cs.size=6/\w.heap[b]?=ZW (Z4 cs 117 (0,0))
def Rs (s ar v D L G t m pb po pn pc f:Nat) (so:Option Addr) (cap:Nat) (i:Nat) (u:ZS) (w:ZT):Prop:=match i with
 | 0|1|2|5|6=>u=Z6 (ZW ⟨ar,0,ZX⟩)
 | 3=>u=Z6 (ZW ⟨v,0,ZX⟩)
 | 4=>u=.agg #[Z7 Z9 D,Z7 Z9 L,Z7 Z9 G]
 | 7=>u=Z6 (ZW ⟨ar,1,ZX⟩)
 | 8=>u=Z6 (ZW ⟨ar,4,ZX⟩)
 | 9=>u=Z7 Z8 t
 | 10=>u=Z7 Z8 ((t+1:Nat):Int)
 | 11=>u=Z5 (ZW ⟨pb,po,ZX⟩) pn pc
 | 12=>u=Z6 (ZW ⟨pb,po,ZX⟩)
 | 13=>u=Z7 Z9 f
 | 14=>u=.slice so m cap
 | 15=>u=Z7 Z9 m
 | 16=>u=.agg (aQ D L G (t+1) f m)
 | 17=>∃ b,u=Z6 (ZW ⟨b,0,ZX⟩)/\s<=b/\kR w b
 | 18=>∃ b,s<=b/\w.heap[b]?=ZW (Z4 (aQ D L G (t+1) f m) 117 (0,0))
 | _=>True
def RX (w0:ZT) (Dn:Nat->Bool) (w:ZT):Prop:=bW w0 w/\(∀ b b',w0.heap.size<=b->w0.heap.size<=b'->kR w b->kR w b'->b=b')/\(Dn 17=ZU->∀ b,w0.heap.size<=b->¬ kR w b)
def cO (h:RX w0 Dn w) (i:Nat) (a:i≠17):RX w0 (dR Dn i) w:=⟨h.1,h.2.1,λq=>h.2.2 (by unfold dR at q;rwa [if_neg (λe=>a e.symm)] at q)⟩
def xw (w:ZT):(zeroValue 117).run ZQ w=.ok (.agg (aQ 0 0 0 0 0 0)) w:=by
 obtain ⟨a,b,c⟩:∃ a,ZQ.info? 117=ZW a/\a.zero=ZW (.agg (aQ 0 0 0 0 0 0)):=by
  have:(ZQ.info? 117).map (λi=>i.zero)=ZW (ZW (.agg (aQ 0 0 0 0 0 0))):=by kernel_rfl
  rw [Yw] at this;exact this
 simp [zeroValue,typeInfo,Sem.run_bind,b,c]
def nQ (D L G t f n:Nat):(ZQ.info? 117).map (λi=>i.size)=ZW (aQ D L G t f n).size:=by kernel_rfl
def xA (D L G t f n:Nat):(aQ D L G t f n).all (λv=>v.oneCell')=ZV:=by simp [aQ,Value.oneCell']
def tU {b:Nat} (h:w.heap[b]?=ZW (Z4 cs 117 (0,0))) (a:cs.size=6):(Instr.storeAt 117 (Z6 (ZW ⟨b,0,ZX⟩)) (.agg (aQ D L G t f n))).run ZQ w=.ok () (w.setRow b (aQ D L G t f n)):=by
 simp only [Instr.storeAt,Instr.sureAddr,Sem.run_bind,Sem.run_pure,Result.andThen_ok,run_storeVar_row w b 117 117 cs (aQ D L G t f n) h (nQ D L G t f n) (by rw [a];rfl) (xA D L G t f n)]
theorem vI {cap pb po pn pc:Nat} {so:Option Addr} (hp:SN=ops) (l:bt w v p D L G ps ho) (T:w.heap[ar]?=ZW (Z4 cs 121 (0,0))) (h0:cs[0]?=ZW (Z6 (ZW ⟨v,0,ZX⟩))) (h4:cs[4]?=ZW (Z7 Z8 t)) (ht:t<=1000000000) (k9:1<=pn) (hx:w.cell? ⟨pb,po,ZX⟩=ZW (Z7 Z9 f))
 (ka:a.tmps.size=60) (X:a.eval (Z1 0)=Z6 (ZW ⟨ar,0,ZX⟩)) (e2:a.eval (Z1 2)=Z5 (ZW ⟨pb,po,ZX⟩) pn pc) (e7:a.eval (Z1 7)=.slice so m cap)
 (hQ:∀ (w':ZT) (vs:List ZS) (b:Nat),vs.length=17->w.heap.size<=b->w'.heap[b]?=ZW (Z4 (aQ D L G (t+1) f m) 117 (0,0))->bW w w'->Q .normal (Act.putFrom (a.put (ZW 9) (Z6 (ZW ⟨b,0,ZX⟩))) 19 vs) w'):(Code.region 5 ops ZV).wp ZQ Q a w:=by
 subst hp;have Y:ar<w.heap.size:=(XH.1 T).1;have n1:IntKind.u64.wrap ((t:Int)+1)=((t+1:Nat):Int):=by rw [IntKind.wrap_u64];omega
 refine cU (by kernel_rfl) Ha a w (by omega) (Rs w.heap.size ar v D L G t m pb po pn pc f so cap) (RX w) ⟨(Below.refl _ w).drew,λb I H _ hr _=>?_,λ_ b H hr=>?_⟩ ?_ ?_
 . obtain ⟨c,_,hr⟩:=hr;have:=(XH.1 hr).1;have k6:w.drew.heap.size=w.heap.size:=rfl;omega
 . obtain ⟨c,_,hr⟩:=hr;have:=(XH.1 hr).1;have k6:w.drew.heap.size=w.heap.size:=rfl;omega
 . intro i O;match i,O with
   | 0,_=>exact λo g w' Dn C ho x z y B r d l=>ae (ag ho ((z.slot 0 (by omega)).trans X) w') x ⟨cO d _ (by decide),rfl,kq⟩
   | 1,_=>
    intro o g w' Dn C ho x z y B r d l;have u0:g.eval (Z1 19)=Z6 (ZW ⟨ar,0,ZX⟩):=l 0 (r 0 (by decide));exact ae (eo ho u0 w') x ⟨cO d _ (by decide),rfl,kq⟩
   | 2,_=>
    intro o g w' Dn C ho x z y B r d l;have u0:g.eval (Z1 20)=Z6 (ZW ⟨ar,0,ZX⟩):=l 1 (r 1 (by decide));exact ae (v:=Z6 (ZW ⟨ar,0,ZX⟩)) (by simp only [execOp,show o.op=Op.fieldAddr 121 (Z1 20) 0 from ho,u0];go_simp) x ⟨cO d _ (by decide),rfl,kq⟩
   | 3,_=>
    intro o g w' Dn C ho x z y B r d l;have u0:g.eval (Z1 21)=Z6 (ZW ⟨ar,0,ZX⟩):=l 2 (r 2 (by decide));have S:=(d.1.block ar Y).trans T;have c:w'.cell? ⟨ar,0,ZX⟩=ZW (Z6 (ZW ⟨v,0,ZX⟩)):=(by simp [World.cell?,S,h0]);exact ae (v:=Z6 (ZW ⟨v,0,ZX⟩)) (by simp only [execOp,show o.op=Op.load 115 (Z1 21) from ho,u0];go_simp) x ⟨cO d _ (by decide),rfl,kq⟩
   | 4,_=>
    intro o g w' Dn C ho x z y B r d k0;have u0:g.eval (Z1 22)=Z6 (ZW ⟨v,0,ZX⟩):=k0 3 (r 3 (by decide));have R:Dn 18=ZU:=by
     cases q:Dn 18 with
     | false=>rfl
     | true=>have:=(B 18 q).2 4 (by decide);rw [y] at this;cases this
    refine dD (f:=96) (args:=#[Z6 (ZW ⟨v,0,ZX⟩)]) (w1:=w') (by simp only [execOp,show o.op=Op.call { callee:=Callee.value (Operand.func 96),args:=#[Z1 22],argTypes:=#[115] } from ho];go_simp;simpa [Act.eval] using u0) x (oK (l.keep (d.1.block _ l.lt))) ?_;rintro e W ⟨rfl,H,hz,U⟩;have N:∀ b,kR W b->kR w' b:=λb ⟨c,F,A⟩=>by
     have:=(XH.1 A).1;by_cases e:b=w'.heap.size
     . subst e;rw [U] at A;simp at A
     . exact ⟨c,F,(H.block b (by omega)).symm.trans A⟩
    refine ⟨_,rfl,⟨d.1.trans (H.mono d.1.size),λb I J K F A=>d.2.1 b I J K (N b F) (N I A),λq b J K=>d.2.2 (by unfold dR at q;rwa [if_neg (by decide)] at q) b J (N b K)⟩,rfl,λj u E q=>?_⟩;match j,E,q with
    | 0,_,q|1,_,q|2,_,q|3,_,q|4,_,q|5,_,q|6,_,q|7,_,q|8,_,q|9,_,q|10,_,q|11,_,q|12,_,q|13,_,q|14,_,q|15,_,q|16,_,q=>exact q
    | 17,_,⟨b,F,A,c,P,M⟩=>exact ⟨b,F,A,c,P,(H.block b (XH.1 M).1).trans M⟩
    | 18,E,_=>rw [R] at E;cases E
    | n+19,_,_=>trivial
   | 5,_=>exact λo g w' Dn C ho x z y B r d l=>ae (ag ho ((z.slot 0 (by omega)).trans X) w') x ⟨cO d _ (by decide),rfl,kq⟩
   | 6,_=>
    intro o g w' Dn C ho x z y B r d l;have u0:g.eval (Z1 24)=Z6 (ZW ⟨ar,0,ZX⟩):=l 5 (r 5 (by decide));exact ae (eo ho u0 w') x ⟨cO d _ (by decide),rfl,kq⟩
   | 7,_=>
    intro o g w' Dn C ho x z y B r d l;have u0:g.eval (Z1 25)=Z6 (ZW ⟨ar,0,ZX⟩):=l 6 (r 6 (by decide));exact ae (v:=Z6 (ZW ⟨ar,1,ZX⟩)) (by simp only [execOp,show o.op=Op.fieldAddr 121 (Z1 25) 1 from ho,u0];go_simp) x ⟨cO d _ (by decide),rfl,kq⟩
   | 8,_=>
    intro o g w' Dn C ho x z y B r d l;have u0:g.eval (Z1 26)=Z6 (ZW ⟨ar,1,ZX⟩):=l 7 (r 7 (by decide));exact ae (v:=Z6 (ZW ⟨ar,4,ZX⟩)) (by simp only [execOp,show o.op=Op.fieldAddr 117 (Z1 26) 1 from ho,u0];go_simp) x ⟨cO d _ (by decide),rfl,kq⟩
   | 9,_=>
    intro o g w' Dn C ho x z y B r d l;have u0:g.eval (Z1 27)=Z6 (ZW ⟨ar,4,ZX⟩):=l 8 (r 8 (by decide));have S:=(d.1.block ar Y).trans T;have c:w'.cell? ⟨ar,4,ZX⟩=ZW (Z7 Z8 t):=(by simp [World.cell?,S,h4]);exact ae (v:=Z7 Z8 t) (by simp only [execOp,show o.op=Op.load 47 (Z1 27) from ho,u0];go_simp) x ⟨cO d _ (by decide),rfl,kq⟩
   | 10,_=>
    intro o g w' Dn C ho x z y B r d l;have u0:g.eval (Z1 28)=Z7 Z8 t:=l 9 (r 9 (by decide));exact ae (v:=Z7 Z8 ((t+1:Nat):Int)) (by simp only [execOp,show o.op=Op.binOp BinOp.add 47 (Z1 28) (Operand.const (Value.int IntKind.u64 1)) 47 from ho,u0,show g.eval (Operand.const (Value.int IntKind.u64 1))=Value.int IntKind.u64 1 from rfl];go_simp) x ⟨cO d _ (by decide),rfl,kq⟩
   | 11,_=>exact λo g w' Dn C ho x z y B r d l=>ae (ag ho ((z.slot 2 (by omega)).trans e2) w') x ⟨cO d _ (by decide),rfl,kq⟩
   | 12,_=>
    intro o g w' Dn C ho x z y B r d l;have u0:g.eval (Z1 30)=Z5 (ZW ⟨pb,po,ZX⟩) pn pc:=l 11 (r 11 (by decide));exact ae (v:=Z6 (ZW ⟨pb,po,ZX⟩)) (by simp only [execOp,show o.op=Op.indexAddr 41 (Z1 30) (Operand.const (Value.int IntKind.i64 0)) from ho,u0,show g.eval (Operand.const (Value.int IntKind.i64 0))=Value.int IntKind.i64 0 from rfl];go_simp;intro h;omega) x ⟨cO d _ (by decide),rfl,kq⟩
   | 13,_=>
    intro o g w' Dn C ho x z y B r d l;have u0:g.eval (Z1 31)=Z6 (ZW ⟨pb,po,ZX⟩):=l 12 (r 12 (by decide));have c:w'.cell? ⟨pb,po,ZX⟩=ZW (Z7 Z9 f):=(d.1.cell (p:=⟨pb,po,ZX⟩) (block_lt_of_cell hx)).trans hx;exact ae (v:=Z7 Z9 f) (by simp only [execOp,show o.op=Op.load 3 (Z1 31) from ho,u0];go_simp) x ⟨cO d _ (by decide),rfl,kq⟩
   | 14,_=>exact λo g w' Dn C ho x z y B r d l=>ae (ag ho ((z.slot 7 (by omega)).trans e7) w') x ⟨cO d _ (by decide),rfl,kq⟩
   | 15,_=>
    intro o g w' Dn C ho x z y B r d l;have u0:g.eval (Z1 33)=.slice so m cap:=l 14 (r 14 (by decide));exact ae (v:=Z7 Z9 m) (zy ho u0 w') x ⟨cO d _ (by decide),rfl,kq⟩
   | 16,_=>
    intro o g w' Dn C ho x z y B r d l;have u0:g.eval (Z1 23)=.agg #[Z7 Z9 D,Z7 Z9 L,Z7 Z9 G]:=l 4 (r 4 (by decide));have u1:g.eval (Z1 29)=Z7 Z8 ((t+1:Nat):Int):=l 10 (r 10 (by decide));have u2:g.eval (Z1 34)=Z7 Z9 m:=l 15 (r 15 (by decide));have u3:g.eval (Z1 32)=Z7 Z9 f:=l 13 (r 13 (by decide));exact ae (v:=.agg (aQ D L G (t+1) f m)) (by simp only [execOp,show o.op=Op.build 117 #[(0,Z1 23),(1,Z1 29),(2,Z1 32),(3,Z1 34)] from ho,Yn,Yo,Yp,u0,u1,u2,u3];go_simp;rfl) x ⟨cO d _ (by decide),rfl,kq⟩
   | 17,_=>
    intro o g w' Dn C ho x z y B r d l;have R:Dn 18=ZU:=by
     cases q:Dn 18 with
     | false=>rfl
     | true=>have:=(B 18 q).2 17 (by decide);rw [y] at this;cases this
    have N:∀ b,w.heap.size<=b->kR (w'.alloc (Z4 (aQ 0 0 0 0 0 0) 117)) b->b=w'.heap.size:=λb H ⟨c,F,A⟩=>by
     have:=(XH.1 A).1;simp at this;by_cases e:b=w'.heap.size
     . exact e
     . exact absurd ⟨c,F,(blk_alloc_lt _ _ _ (by omega)).symm.trans A⟩ (d.2.2 y b H)
    refine ae (v:=Z6 (ZW ⟨w'.heap.size,0,ZX⟩)) (w':=w'.alloc (Z4 (aQ 0 0 0 0 0 0) 117)) (by simp only [execOp,show o.op=Op.alloc 117 from ho];go_simp;rfl) x ⟨⟨d.1.alloc d.1.size _,λb I J K F A=>(N b J F).trans (N I K A).symm,λq=>(by unfold dR at q;rw [if_pos rfl] at q;cases q)⟩,⟨_,rfl,d.1.size,_,rfl,blk_alloc_new _ _⟩,λj u E q=>?_⟩;match j,E,q with
    | 0,_,q|1,_,q|2,_,q|3,_,q|4,_,q|5,_,q|6,_,q|7,_,q|8,_,q|9,_,q|10,_,q|11,_,q|12,_,q|13,_,q|14,_,q|15,_,q|16,_,q=>exact q
    | 17,E,_=>rw [y] at E;cases E
    | 18,E,_=>rw [R] at E;cases E
    | n+19,_,_=>trivial
   | 18,_=>
    intro o g w' Dn C ho x z y B r d l;obtain ⟨b,u0,H,c,P,M⟩:Rs w.heap.size ar v D L G t m pb po pn pc f so cap 17 (g.eval (Z1 9)) w':=l 17 (r 17 (by decide));have u1:g.eval (Z1 35)=.agg (aQ D L G (t+1) f m):=l 16 (r 16 (by decide));have V:∀ I,kR (w'.setRow b (aQ D L G (t+1) f m)) I->kR w' I:=λI ⟨c',F,A⟩=>by
     by_cases e:I=b
     . subst e;exact ⟨c,P,M⟩
     . exact ⟨c',F,((aI w' b _).block I (by have:=(XH.1 A).1;rwa [gn] at this) (λq=>e (by cases q;rfl))).symm.trans A⟩
    have hO:Below w.heap.size w' (w'.setRow b (aQ D L G (t+1) f m)):=⟨rfl,rfl,rfl,by rw [gn];exact XR _,λk z=>(aI w' b _).block k (by have:=d.1.size;omega) (λq=>by cases q;omega)⟩;refine ja (w':=w'.setRow b (aQ D L G (t+1) f m)) (by simp [execOp,show o.op=Op.store 117 (Z1 9) (Z1 35) from ho,u0,u1,tU M P]) ⟨⟨d.1.trans hO,λb1 b2 J K F A=>d.2.1 b1 b2 J K (V b1 F) (V b2 A),λq b1 J K=>d.2.2 (by unfold dR at q;rwa [if_neg (by decide)] at q) b1 J (V b1 K)⟩,⟨b,H,setRow_heap w' b c _ _ _ M⟩,λj u E q=>?_⟩;match j,E,q with
    | 0,_,q|1,_,q|2,_,q|3,_,q|4,_,q|5,_,q|6,_,q|7,_,q|8,_,q|9,_,q|10,_,q|11,_,q|12,_,q|13,_,q|14,_,q|15,_,q|16,_,q=>exact q
    | 17,_,⟨b1,F,A,c1,q5,q6⟩=>
     refine ⟨b1,F,A,?_⟩;have e:b1=b:=d.2.1 b1 b A H ⟨c1,q5,q6⟩ ⟨c,P,M⟩;subst e;exact ⟨_,rfl,setRow_heap w' b1 c1 _ _ _ q6⟩
    | 18,E,_=>rw [y] at E;cases E
    | n+19,_,_=>trivial
   | n+19,U=>exact absurd U (by show ¬ n+19<19;omega)
 . rintro g w' Z hh ⟨Dn,hD,d⟩ l;obtain ⟨b,u0,H,hr⟩:Rs w.heap.size ar v D L G t m pb po pn pc f so cap 17 (g.eval (Z1 9)) w':=l 17 (by decide);obtain ⟨b2,k5,hy⟩:Rs w.heap.size ar v D L G t m pb po pn pc f so cap 18 ZY w':=l 18 (by decide);have e:b2=b:=d.2.1 b2 b k5 H ⟨_,rfl,hy⟩ hr;subst e;have e:g=Act.putFrom (a.put (ZW 9) (Z6 (ZW ⟨b2,0,ZX⟩))) 19 ((XG 17).map λi=>g.eval (.tmp (19+i))):=D9 Z.size Z.defers (by rw [XK,XS];omega) (by decide) u0 (λi O=>by
    rw [XK,XS] at O;rw [XW,X4,X5 O];rfl) (λs hs k7=>by
    rw [XK,XS] at k7;refine hh s λi O=>?_;have k8:i<19:=O;rcases Yk i 17 with h|h
    . intro q;have h3:(bZ PE i).2.1=ZW (19+i):=by
       have:∀ i,i<17->(bZ PE i).2.1=ZW (19+i):=by decide
       exact this i h
      rw [h3] at q;have:=XM q;omega
    . rcases Yk i 18 with h5|h5
      . have:i=17:=by omega
        subst this;intro q;have:=XM q;omega
      . have:i=18:=by omega
        subst this;intro q;cases q)
   rw [e];exact hQ w' _ b2 (by rw [XK,XS]) H hy d.1
def tV (h:w.heap[q]?=ZW (Z4 (aQ D L G t f n) 117 (0,0))):(Instr.loadAt 117 (Z6 (ZW ⟨q,0,ZX⟩))).run ZQ w=.ok (.agg (aQ D L G t f n)) w:=by
 simp only [Instr.loadAt,Instr.sureAddr,Sem.run_bind,Sem.run_pure,Result.andThen_ok,run_loadVar_row w q 117 117 (aQ D L G t f n) (0,0) _ h underlying117 rfl (by kernel_rfl)]
noncomputable def SO:Array Oper:=((Tryz.f85.body.bind (mW · 6))).getD #[]
def QZ:List (Op×Option Nat×List Nat):=[(Op.move (Z1 0),ZW 36,[]),
 (Op.nilCheck (Z1 36),ZW 37,[0]),
 (Op.fieldAddr 121 (Z1 37) 0,ZW 38,[1]),
 (Op.load 115 (Z1 38),ZW 39,[2]),
 (Op.load 117 (Z1 9),ZW 40,[]),
 (Op.makeInterface 117 (Z1 40),ZW 41,[4]),
 (Op.move (Z1 0),ZW 42,[]),
 (Op.nilCheck (Z1 42),ZW 43,[6]),
 (Op.fieldAddr 121 (Z1 43) 0,ZW 44,[7]),
 (Op.load 115 (Z1 44),ZW 45,[8]),
 (Op.call { callee:=Callee.value (Operand.func 123),args:=#[Z1 45],argTypes:=#[115] },ZW 46,[9]),
 (Op.call { callee:=Callee.value (Operand.func 122),args:=#[Z1 39,Operand.const (Value.int IntKind.i64 0),Z1 41,Z1 46],argTypes:=#[115,3,219,124] },ZW 47,[3,5,10,10])]
def Hb:aN SO 36 48 QZ:=bx (by kernel_rfl) (by kernel_rfl)
def PF (ar v D L G t f m S z:Nat):List ZS:=[Z6 (ZW ⟨ar,0,ZX⟩),Z6 (ZW ⟨ar,0,ZX⟩),Z6 (ZW ⟨ar,0,ZX⟩),Z6 (ZW ⟨v,0,ZX⟩),.agg (aQ D L G t f m),br (.root D L G t f m),Z6 (ZW ⟨ar,0,ZX⟩),Z6 (ZW ⟨ar,0,ZX⟩),Z6 (ZW ⟨ar,0,ZX⟩),Z6 (ZW ⟨v,0,ZX⟩),Z7 Z8 S,Z7 Z8 z]
def zA (A:ay) (r:aX) (D:Nat->Bool):ay:=if D 11=ZV then A.putAt (XG A.n) 0 (λ_=>r.blk) else A
def RY (w0:ZT) (p:Nat) (A:ay) (F:bh) (r:aX) (Dn:Nat->Bool) (w:ZT):Prop:=aq w p (zA A r Dn) F/\aa (F.has p A.n) w0 w
def jm {A:ay} {r:aX} (h:RY w0 p A F r Dn w) (i:Nat) (b:i≠11) (a:bW w w'):RY w0 p A F r (dR Dn i) w':=by
 refine ⟨?_,h.2.trans (aa.TG a _)⟩;have e:zA A r (dR Dn i)=zA A r Dn:=by unfold zA dR;rw [if_neg (λe:11=i=>b e.symm)]
 rw [e];exact h.1.below a lR
theorem nR {A:ay} (ha:SO=ops) (B:nF w v p D L G ps ho A F) (E:jT F p A.n v) (X:¬ F.has p A.n ar) (P:w.heap[ar]?=ZW (Z4 cs 121 (0,0))) (V:cs[0]?=ZW (Z6 (ZW ⟨v,0,ZX⟩)))
 (hf:A.fit) (I:A.n=D+L+G) (hD:D<=12) (hr:L<=4) (hG:G<=4) (C:D+L+G<=16) (hb:0<A.nb) (hw:A.wait<0) {D' L' G' t f m q:Nat} (R:(aX.root D' L' G' t f m).ok) (T:w.heap[q]?=ZW (Z4 (aQ D' L' G' t f m) 117 (0,0))) (k6:¬ F.has p A.n q)
 (k9:a.tmps.size=60) (K:a.eval (Z1 0)=Z6 (ZW ⟨ar,0,ZX⟩)) (U:a.eval (Z1 9)=Z6 (ZW ⟨q,0,ZX⟩))
 (Z:∀ (w':ZT) (vs:List ZS),vs.length=12->aq w' p (A.putAt (XG A.n) 0 (λ_=>(aX.root D' L' G' t f m).blk)) F->aa (F.has p A.n) w w'->Q .normal (Act.putFrom a 36 vs) w'):(Code.region 6 ops ZV).wp ZQ Q a w:=by
 subst ha;obtain ⟨S,N⟩:=nM (2^(D+L+G)-1);have O:ab S=XG A.n:=by rw [<- N,I];exact oF C
 have hv:S<65536:=by
  have:2^(D+L+G)<=2^16:=Yi (by decide) C;omega
 obtain ⟨z,hz⟩:=nM (bH A (XG A.n));have W:ar<w.heap.size:=(XH.1 P).1;have k7:q<w.heap.size:=(XH.1 T).1;have M:∀ w',aa (F.has p A.n) w w'->w'.cell? ⟨ar,0,ZX⟩=ZW (Z6 (ZW ⟨v,0,ZX⟩)):=λw' Y=>by
  have:=(Y.block ar W X).trans P;simp [World.cell?,this,V]
 refine cB (by kernel_rfl) Hb a w (by omega) (λi u _=>u=(PF ar v D' L' G' t f m S z).getD i ZY) (RY w p A F (.root D' L' G' t f m)) ⟨B.arr.keep λ_ _=>rfl,aa.drew w⟩ ?_ ?_
 . intro i x;match i,x with
   | 0,_=>exact λo d w' Dn s ho g k l r j b h=>ae (ag ho ((k.slot 0 (by omega)).trans K) w') g ⟨jm b _ (by decide) (Below.refl _ _),rfl,kq⟩
   | 1,_|2,_|7,_|8,_=>
    intro o d w' Dn s ho g k l r j b h;have u0:=h _ (j _ (.head _));simp only [QZ,PF,bZ,cT,pM,pL] at ho u0;exact ae (by simp only [execOp,ho,u0,PF,pM,pL];go_simp) g ⟨jm b _ (by decide) (Below.refl _ _),rfl,kq⟩
   | 3,_=>
    intro o d w' Dn s ho g k l r j b h;have u0:d.eval (Z1 38)=Z6 (ZW ⟨ar,0,ZX⟩):=h 2 (j 2 (by decide));have c:=M w' b.2;exact ae (v:=Z6 (ZW ⟨v,0,ZX⟩)) (by simp only [execOp,show o.op=Op.load 115 (Z1 38) from ho,u0];go_simp) g ⟨jm b _ (by decide) (Below.refl _ _),rfl,kq⟩
   | 4,_=>
    intro o d w' Dn s ho g k l r j b h;have u0:d.eval (Z1 9)=Z6 (ZW ⟨q,0,ZX⟩):=(k.slot 9 (by omega)).trans U;have k5:=tV ((b.2.block q k7 k6).trans T);exact ae (v:=.agg (aQ D' L' G' t f m)) (by simp [execOp,show o.op=Op.load 117 (Z1 9) from ho,u0,k5]) g ⟨jm b _ (by decide) (Below.refl _ _),rfl,kq⟩
   | 5,_=>
    intro o d w' Dn s ho g k l r j b h;have u0:d.eval (Z1 40)=.agg (aQ D' L' G' t f m):=h 4 (j 4 (by decide));exact ae (v:=br (.root D' L' G' t f m)) (by simp only [execOp,show o.op=Op.makeInterface 117 (Z1 40) from ho,u0,br];go_simp) g ⟨jm b _ (by decide) (Below.refl _ _),rfl,kq⟩
   | 6,_=>exact λo d w' Dn s ho g k l r j b h=>ae (ag ho ((k.slot 0 (by omega)).trans K) w') g ⟨jm b _ (by decide) (Below.refl _ _),rfl,kq⟩
   | 9,_=>
    intro o d w' Dn s ho g k l r j b h;have u0:d.eval (Z1 44)=Z6 (ZW ⟨ar,0,ZX⟩):=h 8 (j 8 (by decide));have c:=M w' b.2;exact ae (v:=Z6 (ZW ⟨v,0,ZX⟩)) (by simp only [execOp,show o.op=Op.load 115 (Z1 44) from ho,u0];go_simp) g ⟨jm b _ (by decide) (Below.refl _ _),rfl,kq⟩
   | 10,_=>
    intro o d w' Dn s ho g k l r j b h;have u0:d.eval (Z1 45)=Z6 (ZW ⟨v,0,ZX⟩):=h 9 (j 9 (by decide));refine dD (f:=123) (args:=#[Z6 (ZW ⟨v,0,ZX⟩)]) (w1:=w') (by simp only [execOp,show o.op=Op.call { callee:=Callee.value (Operand.func 123),args:=#[Z1 45],argTypes:=#[115] } from ho];go_simp;simpa [Act.eval] using u0) g (nG (B.vol.keep (b.2.block _ B.vol.lt E.v)) hD hr hG C) ?_;rintro e J ⟨rfl,hy⟩;rw [N];exact ⟨_,rfl,jm b 10 (by decide) hy,rfl,kq⟩
   | 11,_=>
    intro o d w' Dn k8 ho g k l r j b h;have u0:d.eval (Z1 39)=Z6 (ZW ⟨v,0,ZX⟩):=h 3 (j 3 (by decide));have u1:d.eval (Z1 41)=br (.root D' L' G' t f m):=h 5 (j 5 (by decide));have u2:d.eval (Z1 46)=Z7 Z8 S:=h 10 (j 10 (by decide));have y:aq w' p A F:=(by have:=b.1;unfold zA at this;rw [if_neg (by rw [l];decide)] at this;exact this);have hx:=B.turn E b.2 y;have H:=lq hx E hf 0 S hb hv (λi x=>by rw [O] at x;simpa using x) hw (.root D' L' G' t f m) R (CW R);rw [O] at H;rw [hz] at H;refine dD (f:=122) (args:=#[Z6 (ZW ⟨v,0,ZX⟩),Z7 Z9 (0:Nat),br (.root D' L' G' t f m),Z7 Z8 S]) (w1:=w') (by simp only [execOp,show o.op=Op.call { callee:=Callee.value (Operand.func 122),args:=#[Z1 39,Operand.const (Value.int IntKind.i64 0),Z1 41,Z1 46],argTypes:=#[115,3,219,124] } from ho];go_simp;exact ⟨by simpa [Act.eval] using u0,by simpa [Act.eval] using u1,by simpa [Act.eval] using u2⟩) g H ?_;rintro e J ⟨rfl,hm,hs⟩;refine ⟨_,rfl,⟨?_,b.2.trans hs⟩,rfl,kq⟩;have e:zA A (.root D' L' G' t f m) (dR Dn 11)=A.putAt (XG A.n) 0 (λ_=>(aX.root D' L' G' t f m).blk):=(by unfold zA dR;rw [if_pos (by rw [if_pos rfl])]);rw [e];exact hm
   | n+12,I=>exact absurd I (by show ¬ n+12<12;omega)
 . rintro d w' k0 ⟨Dn,hp,b⟩ h;have e:zA A (.root D' L' G' t f m) Dn=A.putAt (XG A.n) 0 (λ_=>(aX.root D' L' G' t f m).blk):=(by unfold zA;rw [if_pos (hp 11 (by decide))]);have y:=b.1;rw [e] at y;have e:d=Act.putFrom a 36 ((XG 12).map λi=>d.eval (.tmp (36+i))):=k0.out _ (by rw [XK,XS]) (by omega) (λi x=>by
    rw [XK,XS] at x;rw [XW,X4,X5 x];rfl)
   rw [e];exact Z w' _ (by rw [XK,XS]) y b.2
def zB (e:o.guard=ZX) (x:Operand) (ho:o.op=.load 117 x) {b D L G t f n:Nat} {ra:Array ZS} (c:ra=aQ D L G t f n)
 (g:a.eval x=Z6 (ZW ⟨b,0,ZX⟩)) (d:w.heap[b]?=ZW (Z4 (aQ D L G t f n) 117 (0,0))) (h:wpList ZQ ops Q rest (a.put o.dst (.agg ra)) w):wpList ZQ ops Q (o::rest) a w:=by
 refine wpList_plain e λK hK=>?_;subst c;unfold Oper.wp;simp [execOp,ho,g,tV d,Result.andThen];exact hK _ _ h
def K2 (h:bM w ar v D' L' G' t' f' n' pg ob off):bM (w.setCells ar 1 (aQ D L G t f n).toList) ar v D L G t f n pg ob off:=by
 have a:w.heap[ar]?=ZW (Z4 (mR v D' L' G' t' f' n' pg ob off) 121 (0,0)):=h;have:=aj (j:=6) (aj (j:=5) (aj (j:=4) (aj (j:=3) (aj (j:=2) (aj (j:=1) a (Z7 Z9 (D:Int))) (Z7 Z9 (L:Int))) (Z7 Z9 (G:Int))) (Z7 Z8 (t:Int))) (Z7 Z9 (f:Int))) (Z7 Z9 (n:Int));exact this
def bM.there (h:bM w ar v D' L' G' t' f' n' pg ob off):w.there ar 1 6:=by
 have a:w.heap[ar]?=ZW (Z4 (mR v D' L' G' t' f' n' pg ob off) 121 (0,0)):=h;intro j b;match j,b with
 | 0,_|1,_|2,_|3,_|4,_|5,_=>simp [World.cell?,World.frozen?,a,mR]
 | n+6,hn=>exact absurd hn (by omega)
def bM.late (h:bM w ar v D' L' G' t' f' n' pg ob off) (b a:ZS):bM ((w.setCell ⟨ar,7,ZX⟩ b).setCell ⟨ar,8,ZX⟩ a) ar v D' L' G' t' f' n' b a off:=by
 have c:w.heap[ar]?=ZW (Z4 (mR v D' L' G' t' f' n' pg ob off) 121 (0,0)):=h;exact aj (j:=8) (aj (j:=7) c b) a
def bM.tail (h:bM w ar v D' L' G' t' f' n' pg ob off):w.cell? ⟨ar,7,ZX⟩=ZW pg/\w.frozen? ⟨ar,7,ZX⟩=ZU/\w.cell? ⟨ar,8,ZX⟩=ZW ob/\w.frozen? ⟨ar,8,ZX⟩=ZU:=by
 have a:w.heap[ar]?=ZW (Z4 (mR v D' L' G' t' f' n' pg ob off) 121 (0,0)):=h;simp [World.cell?,World.frozen?,a,mR]
def PG (h:vs.length=17):∃ a b c d e f g i j k l m n o p q r,vs=[a,b,c,d,e,f,g,i,j,k,l,m,n,o,p,q,r]:=by
 match vs,h with
 | [a,b,c,d,e,f,g,i,j,k,l,m,n,o,p,q,r],_=>exact ⟨_,_,_,_,_,_,_,_,_,_,_,_,_,_,_,_,_,rfl⟩
def Ea (w:ZT) (vo:ZS) (l:List Nat):Prop:=∀ W,bW w W->ZR ZQ 120 #[vo] W λe w'=>∃ g cap,e=Z3 (Z5 (ZW ⟨g,0,ZX⟩) l.length cap)/\w'.ownsRow W.heap.size 5 1 (Z5 (ZW ⟨g,0,ZX⟩) l.length cap) l.length (aH l)/\bW W w'
def K3 (w:ZT) (ar v p D L G t:Nat) (A:ay) (F:bh) (P l:List Nat) (vp vo:ZS) (off:Bool) (e:Ending) (w':ZT):Prop:=e=Z3 .nilIface/\aq w' p ((A.pagesTo D L G P l P.length).putAt (XG A.n) 0 (λ_=>(aX.root D L G (t+1) (P.getD 0 0) l.length).blk)) F/\bM w' ar v D L G (t+1) (P.getD 0 0) l.length vp vo off/\aa (λk=>k=ar\/F.has p A.n k) w w'
theorem nS {A:ay} (ha:bM w ar v D' L' G' t f nn pg ob off) (R:nF w v p D L G ps ho A F) (Q:jT F p A.n v) (o:¬ F.has p A.n ar) (U:A.fit) (V:A.n=D+L+G) (hr:bU D L G=ZV) (kx:1<=D) (hD:D<=12) (hL:1<=L) (kj:L<=4) (hG:G<=4) (ka:D%L=0) (kg:D+L+G<=16)
 (hw:A.wait<0) (hv:gT A D L G) (ht:t<=1000000000) (oo:Option Addr) (on oc:Nat) (l:List Nat) (q1:∀ x∈l,x<256) (q0:l.length<=1000000) (q3:Ea w (.slice oo on oc) l)
 (pb po pc:Nat) (P:List Nat) (hP:bN (λk=>¬ F.has p A.n k) w (Z5 (ZW ⟨pb,po,ZX⟩) P.length pc) P) (kk:P≠[]) (ko:∀ x∈P,x<A.nb) (ky:∀ k,k<P.length->k*(D*44-4)<=l.length) :
 ZR ZQ 85 #[Z6 (ZW ⟨ar,0,ZX⟩),.slice oo on oc,Z5 (ZW ⟨pb,po,ZX⟩) P.length pc] w λe w'=>K3 w ar v p D L G t A F P l (Z5 (ZW ⟨pb,po,ZX⟩) P.length pc) (.slice oo on oc) off e w':=by
 have h5:0<P.length:=List.length_pos_iff.2 kk;obtain ⟨f0,N⟩:=nM (P.getD 0 0);have T:P[0]=f0:=by rw [<- N];simp [h5]
 have q5:=U.nb;have kz:f0<A.nb:=by rw [<- T];exact ko _ (XI _)
 have q2:(aX.root D L G (t+1) f0 l.length).ok:=⟨by omega,by omega,by omega,by omega,by omega,by omega⟩;unfold K3;rw [N];have HA:=hide2 N T;have HP:=hide hP;clear N T hP;go_enter func85,ntmps85;go_wp2_with fail;refine (q3 w (Below.refl _ w)).mono ?_;rintro e w1 ⟨g,cap,rfl,hx,b⟩;have d:=ha.keep (b.block _ ha.lt);have j:=R.below b lR;have O:=HP.out.keep (eR.TF b);have kv:=tT d j Q o U V hr kx hD hL kj hG ka kg hw hv g cap w.heap.size l hx q1 q0 (λk y=>R.arr.TH y) _ P O ko ky;have H1:=hide5 b kv O d j;clear b kv O hx d j;go_wp2_with fail;refine H1.out.2.1.mono ?_;rintro e w2 ⟨rfl,kh,u⟩;obtain ⟨b,_,hm,d,j⟩:=H1.out;have m:=d.keep (u.block _ d.lt o);have q4:=iz A D L G P l P.length;have z:=j.turn Q u kh;have km:=hm.keep (eR.T1 u);obtain ⟨b',q6,c',e1,kp⟩:=sn km kk;simp only [Value.slice.injEq,Option.some.injEq,Addr.mk.injEq] at e1;obtain ⟨⟨rfl,rfl,_⟩,_,rfl⟩:=e1;have Z:=kp 0 h5;rw [Nat.add_zero,HA.out.2] at Z;have i:aa (F.has p A.n) w w2:=(aa.TG b _).trans u;have I:=hide4 m z i Z;clear b hm d j kh u m z km kp Z i;go_wp2_with fail;refine vI (f:=f0) (by kernel_rfl) I.out.2.1.vol I.out.1 rfl rfl ht (by omega) I.out.2.2.2 rfl rfl rfl rfl ?_;intro w3 vs rb E ke c M;obtain ⟨x0,x1,x2,x3,x4,x5,x6,x7,x8,x9,xa,xb,xc,xd,xe,xf,xg,rfl⟩:=PG E;obtain ⟨m,z,i,kc⟩:=I.out;clear kc;have h:=m.keep (M.block _ m.lt);have B:=z.below M lR;have r:aa (F.has p A.n) w w3:=i.trans (aa.TG M _);have s:¬ F.has p A.n rb:=λq=>by have:=R.arr.TH q;have:=i.size;omega
 have H3:=hide6 h B r c s ke;clear m z i h B r c s ke M E;rename_i hK
 refine hK _ _ ?_;clear hK;simp only [Act.putFrom,Act.put,XO,XP,XQ];go_wp2_with fail;obtain ⟨h,B,r,c,s,ke⟩:=H3.out;obtain ⟨a,hb,hd,q7⟩:=q4;refine nR (by kernel_rfl) B (by rw [a];exact Q) (by rw [a];exact o) h rfl (gA U hD hG V P l _) (by rw [a];exact V) hD kj hG kg (by rw [hb];omega) (by rw [hd];exact hw) q2 c (by rw [a];exact s) rfl rfl rfl ?_;rw [a];intro w4 vs E ki J;obtain ⟨y0,y1,y2,y3,y4,y5,y6,y7,y8,y9,ya,yb,rfl⟩:=yT E;have Y:=h.keep (J.block _ h.lt o);have h4:=(J.block rb (XH.1 c).1 s).trans c;have hi:aa (λk=>k=ar\/F.has p A.n k) w w4:=(r.trans J).mono λ_ _ q=>.inr q;have ks:=Y.there;have K:=K2 (D:=D) (L:=L) (G:=G) (t:=t+1) (f:=f0) (n:=l.length) Y;have X:=hi.trans (aa.setCells (S:=λk=>k=ar\/F.has p A.n k) _ ar 1 (aQ D L G (t+1) f0 l.length).toList (.inl rfl));have W:=ki.outside (aa.setCells (S:=λk=>k=ar) w4 ar 1 (aQ D L G (t+1) f0 l.length).toList rfl) (λk y e=>o (by have C:F.has p (A.pagesTo D L G P l P.length).n k:=y;rw [a] at C;exact e▸C));obtain ⟨w8,kf⟩:=nM (w4.setCells ar 1 (aQ D L G (t+1) f0 l.length).toList);rw [kf] at K X W;obtain ⟨c7,f7,c8,f8⟩:=K.tail;have H:=hide6 W X K ks h4 kf;clear ki J Y hi ks K X W kf h4 h B r c E;rename_i hK
 refine hK _ _ ?_;clear hK;simp only [Act.putFrom,Act.put,XO,XP,XQ];go_wp2_with (first|(refine zB rfl (Z1 9) rfl rfl (by rfl) (by exact H.out.2.2.2.2.1) ?_)|(refine wpList_store_mid rfl 117 (Z1 55) (Z1 51) rfl ar 1 (aQ D L G (t+1) f0 l.length) (by rfl) (by rfl) (by exact H.out.2.2.2.1) (nQ _ _ _ _ _ _) (xA _ _ _ _ _ _) ?_;rw [H.out.2.2.2.2.2]));go_ret;refine ⟨rfl,?_,H.out.2.2.1.late _ _,(H.out.2.1.trans (aa.setCell _ _ _ (.inl rfl))).trans (aa.setCell _ _ _ (.inl rfl))⟩;exact H.out.1.keep λk y=>by
  have C:F.has p (A.pagesTo D L G P l P.length).n k:=y;rw [a] at C;have kr:k≠ar:=λe=>o (e▸C);exact (blk_setCell_other _ _ _ _ kr).trans (blk_setCell_other _ _ _ _ kr)
def gU (s:ByteArray):List Nat:=s.toList.map (λ(b:UInt8)=>b.toNat)++XJ (16-s.size) 0
def gN (o:Ob):List Nat:=be o.name.size 1++gU o.name++be o.size 2++o.TE.flatMap (λs=>be s 4)
def az (os:List Ob):List Nat:=os.flatMap gN
structure Ob.fit (o:Ob):Prop where
 name:1<=o.name.size/\o.name.size<=16
 size:o.size<=1500
 st:∀ s∈o.TE,s<4294967296
 len:o.TE.length<=1000
def xB (l:List Nat):(l.flatMap (λs=>be s 4)).length=4*l.length:=by
 induction l with
 | nil=>rfl
 | cons x l ih=>rw [List.flatMap_cons,XL,ih,bY,Yx];omega
def xC {s:ByteArray} (h:s.size<=16):(gU s).length=16:=by
 unfold gU;rw [XL,XK,List.length_replicate,ByteArray.toList_eq];have:s.data.toList.length=s.size:=by rw [Array.length_toList];rfl
 omega
def gd {o:Ob} (h:o.fit):(gN o).length=19+4*o.TE.length:=by
 unfold gN;rw [XL,XL,XL,bY,bY,xC h.name.2,xB]
def kS (os:List Ob) (k:Nat) (a:k<os.length):az (os.take (k+1))=az (os.take k)++gN os[k]:=by
 unfold az;rw [Yy,XX a,Yz];simp
theorem nT (k:Nat) (b:k<=1000000) (w:ZT):ZR ZQ 101 #[Z7 Z9 k] w λe w'=>e=Z3 (Z7 Z9 ((19+4*k:Nat):Int))/\w'=w:=by
 have a:((19+4*k:Nat):Int)=19+4*(k:Int):=by omega
 rw [a];go_enter func101,ntmps101;go_wp2;go_ret;exact ⟨rfl,rfl⟩
def Tw (w:ZT) (os:List Ob) (s i:ZS) (wr:ZT):Prop:=∃ k:Nat,k<=os.length/\i=Z7 Z9 k/\s=Z7 Z9 (((az (os.take k)).length:Nat):Int)/\bW w wr
theorem tW {v:ZS} {os:List Ob} (hC:gE K w v os) (j:∀ o∈os,o.fit) (P:os.length<=10000):ZR ZQ 84 #[v] w λe w'=>e=Z3 (Z7 Z9 (((az os).length:Nat):Int))/\bW w w':=by
 obtain ⟨ao,c,rfl,_,l⟩:=hC;have g:∀ k,k<=os.length->(az (os.take k)).length<=k*5000:=by
  intro k E;induction k with
  | zero=>simp [az]
  | succ k ih=>
   have f:k<os.length:=(by omega);have:=ih (by omega);have B:=j _ (XI f);rw [kS os k f,XL,gd B];have:=B.len;omega
 obtain ⟨N,p⟩:=nM (os.length);have r:=hide4 l j g p;rw [p] at P ⊢;clear l j g p;go_enter func84,ntmps84;go_wp2_with fail;go_loopw [3,8] (λs i wr=>Tw w os s i wr) (λ_ i _=>N-(intOf i).toNat)
 case atStart=>exact ⟨0,XV _,rfl,rfl,Below.refl _ _⟩
 case round=>
  obtain ⟨k,E,rfl,rfl,d⟩:=hrel;rw [r.out.2.2.2] at E;by_cases X:k<N
  . obtain ⟨l,j,g,p⟩:=r.out;have f:k<os.length:=(by omega);obtain ⟨b,off,rfl,W,u,A⟩:=l (λe=>by rw [e] at f;cases f);obtain ⟨U,y,c1,z,J⟩:=A k f;obtain ⟨T,Z,Q,R,_⟩:=J;have G:wr.cell? ⟨b,off+k*3,ZX⟩=ZW (Z0 os[k].name):=(World.cell?_of_block (d.block b u)).trans y;have d1:wr.cell? ⟨b,off+k*3+1,ZX⟩=ZW (Z7 Z9 (os[k].size:Nat)):=(World.cell?_of_block (d.block b u)).trans c1;have I:wr.cell? ⟨b,off+k*3+2,ZX⟩=ZW U:=(World.cell?_of_block (d.block b u)).trans z;subst Q;have M:=g k (by omega);have O:=g (k+1) (by omega);have n:(az (os.take (k+1))).length=(az (os.take k)).length+(19+4*os[k].TE.length):=(by rw [kS os k f,XL,gd (j _ (XI f))]);obtain ⟨a,x⟩:=nM ((az (os.take k)).length);obtain ⟨V,h⟩:=nM ((az (os.take (k+1))).length);obtain ⟨m,t⟩:=nM (os[k].TE.length);obtain ⟨nm,C⟩:=nM (os[k].name);obtain ⟨sz,D⟩:=nM (os[k].size);rw [x,h,t] at n;rw [x] at M ⊢;rw [h] at O;rw [t] at I;rw [C] at G;rw [D] at d1;rw [t] at R;have S:=d.size;have H:=hide3 d h n;have hr:((k:Nat):Int).toNat=k:=(by omega);clear d y c1 z l j g A n x h t C D p;go_wp2_with fail;refine (nT m (by omega) _).mono ?_;obtain ⟨q,F⟩:=nM (19+4*m);rw [F];rintro e w2 ⟨rfl,rfl⟩;have Y:a+q<=100000000:=(by have:=H.out.2.2;omega);go_wp2;obtain ⟨d,h,n⟩:=H.out;refine ⟨⟨k+1,by rw [r.out.2.2.2];omega,by go_num,?_,d.alloc S _⟩,by simp [intOf];omega⟩;rw [h,n,F];first|rfl|(congr 1)
  . have L:k=N:=(by omega);subst L;have H:=hide d;clear d;go_wp2;go_ret;refine ⟨?_,H.out⟩;rw [X9 (by rw [r.out.2.2.2];exact XR _)];rfl
theorem BC (s:ByteArray):(List.take 0 (aH (XJ 16 0))++Lib.byteCells s.data.toList++List.drop (0+s.size) (aH (XJ 16 0))).toArray=(aH (gU s)).toArray:=by
 congr 1;unfold gU aH Lib.byteCells;rw [ByteArray.toList_eq,YA,YB,Ym,XY,List.drop_replicate,Ya,YA,List.map_map];rfl
def Nc (w:ZT) (g:Nat) (s:ByteArray) (Dn:Nat->Bool) (w':ZT):Prop:=w'=if Dn 3=ZV then w.drew.setRow g (aH (gU s)).toArray else w.drew
def zC {s:ByteArray} (h:Nc w g s Dn w') (i:Nat) (a:3≠i):Nc w g s (dR Dn i) w':=by unfold Nc;rw [jB a];exact h
theorem K4 {s:ByteArray} (h:Nc w g s Dn w') {a:Addr} (c:a.block≠g) {v:ZS} (b:w.cell? a=ZW v):w'.cell? a=ZW v:=by
 unfold Nc at h;subst h;split
 . exact (World.cell?_of_block ((aI w.drew g _).block a.block (block_lt_of_cell b) (λe=>c (XM e)))).trans b
 . exact b
noncomputable def SP:Array Oper:=((Tryz.f120.body.bind (mW · 6))).getD #[]
def RZ:List (Op×Option Nat×List Nat):=[(Op.slice 221 (Z1 6) ZX ZX ZX,ZW 18,[]),
 (Op.fieldAddr 123 (Z1 5) 0,ZW 19,[]),
 (Op.load 9 (Z1 19),ZW 20,[1]),
 (Op.call { callee:=Callee.builtin Builtin.copy,args:=#[Z1 18,Z1 20],argTypes:=#[34,9] },ZW 21,[0,2])]
def Hc:aN SP 18 22 RZ:=bx (by kernel_rfl) (by kernel_rfl)
def R2 (g q:Nat) (s:ByteArray):List ZS:=[Z5 (ZW ⟨g,0,ZX⟩) 16 16,Z6 (ZW ⟨q,0,ZX⟩),Z0 s,Z7 Z9 (s.size:Nat)]
theorem zD {s:ByteArray} (x:s.size<=16) (D:w.heap[g]?=ZW (Z4 (aH (XJ 16 0)).toArray 221 (0,0))) (G:w.cell? ⟨q,0,ZX⟩=ZW (Z0 s)) (E:q≠g) (A:SP=ops) (t:a.tmps.size=50)
 (y:a.eval (Z1 5)=Z6 (ZW ⟨q,0,ZX⟩)) (z:a.eval (Z1 6)=Z6 (ZW ⟨g,0,ZX⟩))
 (C:∀ (w':ZT),w'=w.drew.setRow g (aH (gU s)).toArray->Q .normal (Act.putFrom a 18 [Z5 (ZW ⟨g,0,ZX⟩) 16 16,Z6 (ZW ⟨q,0,ZX⟩),Z0 s,Z7 Z9 (s.size:Nat)]) w'):(Code.region 6 ops ZV).wp ZQ Q a w:=by
 subst A;have t:(ZQ.info? 5).map (λi=>i.size)=ZW 1:=by kernel_rfl
 refine cU (by kernel_rfl) Hc a w (by omega) (λi u _=>u=(R2 g q s).getD i ZY) (Nc w g s) rfl ?_ ?_
 . intro i p;match i,p with
   | 0,_=>
    intro o d w' Dn m ho f j k l h b c;have u0:d.eval (Z1 6)=Z6 (ZW ⟨g,0,ZX⟩):=(j.slot 6 (by omega)).trans z;exact ae (v:=Z5 (ZW ⟨g,0,ZX⟩) 16 16) (by simp only [execOp,show o.op=Op.slice 221 (Z1 6) ZX ZX ZX from ho,u0];go_simp) f ⟨zC b 0 (by decide),rfl,kq⟩
   | 1,_=>
    intro o d w' Dn m ho f j k l h b c;have u0:d.eval (Z1 5)=Z6 (ZW ⟨q,0,ZX⟩):=(j.slot 5 (by omega)).trans y;exact ae (v:=Z6 (ZW ⟨q,0,ZX⟩)) (by simp only [execOp,show o.op=Op.fieldAddr 123 (Z1 5) 0 from ho,u0];go_simp) f ⟨zC b 1 (by decide),rfl,kq⟩
   | 2,_=>
    intro o d w' Dn m ho f j k l h b c;have u0:d.eval (Z1 19)=Z6 (ZW ⟨q,0,ZX⟩):=c 1 (h 1 (by decide));have I:w'.cell? ⟨q,0,ZX⟩=ZW (Z0 s):=K4 b E G;exact ae (v:=Z0 s) (by simp only [execOp,show o.op=Op.load 9 (Z1 19) from ho,u0];go_simp) f ⟨zC b 2 (by decide),rfl,kq⟩
   | 3,_=>
    intro o d w' Dn m ho f j k l h b c;have u0:d.eval (Z1 18)=Z5 (ZW ⟨g,0,ZX⟩) 16 16:=c 0 (h 0 (by decide));have u1:d.eval (Z1 20)=Z0 s:=c 2 (h 2 (by decide));have H:w'=w.drew:=(by have:=b;unfold Nc at this;rw [if_neg (by rw [k];decide)] at this;exact this);subst H;have r:=Lib.run_copy_row_string (P:=ZQ) w.drew 34 9 o.type 5 g 0 16 16 s (aH (XJ 16 0)).toArray 221 underlying34 t D x (by rw [Yq,bp];simpa using x);rw [show (aH (XJ 16 0)).toArray.toList=aH (XJ 16 0) from rfl,BC s] at r;exact ae (v:=Z7 Z9 (s.size:Nat)) (by
     simp only [execOp,show o.op=Op.call { callee:=Callee.builtin Builtin.copy,args:=#[Z1 18,Z1 20],argTypes:=#[34,9] } from ho,resolve,invoke,builtin,Sem.run_bind,Sem.run_pure,Result.andThen_ok,Yn,Yo,Yp,u0,u1,r];rfl) f ⟨by unfold Nc;rw [if_pos kI],rfl,kq⟩
   | n+4,hn=>exact absurd hn (by show ¬ n+4<4;omega)
 . rintro d w' F J ⟨Dn,B,b⟩ c;have e:d=Act.putFrom a 18 [Z5 (ZW ⟨g,0,ZX⟩) 16 16,Z6 (ZW ⟨q,0,ZX⟩),Z0 s,Z7 Z9 (s.size:Nat)]:=F.out _ rfl (by omega) (λi p=>?_)
   . rw [e];exact C w' (by unfold Nc at b;rw [if_pos (B 3 (by decide))] at b;exact b)
   . match i,p with
     | 0,_=>exact c 0 (by decide)
     | 1,_=>exact c 1 (by decide)
     | 2,_=>exact c 2 (by decide)
     | 3,_=>exact c 3 (by decide)
     | n+4,hn=>exact absurd hn (by simp)
structure Pk (w:ZT) (l:List Nat) (v:ZS) (wr:ZT):Prop where
 own:wr.ownsRow w.heap.size 5 1 v l.length (aH l)
 some_:v.ownBlock≠ZX
 below:bW w wr
def BD {v:ZS} (h:w.ownsRow base e size v n xs) (c:0<n):v.ownBlock≠ZX:=by
 rcases h.2 with ⟨_,b⟩|⟨g,cap,cur,a,_⟩
 . omega
 . rw [a];simp [Value.ownBlock]
def Pk.out {v:ZS} (h:Pk w l v wr) {S:Nat->Prop} (a:aa S wr w') (b:∀ k,S k->w.heap.size<=k) (d:∀ k,v.ownBlock=ZW k->¬ S k):Pk w l v w':=
 ⟨dA h.own a d,h.some_,⟨a.os.trans h.below.os,a.tape.trans h.below.tape,a.output.trans h.below.output,XN h.below.size a.size,λk c=>(a.block k (by have:=h.below.size;omega) (λq=>by have:=b k q;omega)).trans (h.below.block k c)⟩⟩
def Pk.num {v:ZS} (h:Pk w l v wr) (n s:Nat) (d:s<=8) (g:0<s) (hl:l.length<=1000000000) :
 ZR ZQ 149 #[v,Z7 Z8 n,Z7 Z9 s] wr λe w'=>∃ b,e=Z3 b/\Pk w (l++be n s) b w'/\aa (λj=>v.ownBlock=ZW j) wr w':=by
 refine (eY w.heap.size v l.length (aH l) n s wr h.own h.below.size d hl).mono ?_;rintro e w' ⟨b,rfl,ho,a,f⟩;refine ⟨b,rfl,⟨?_,BD ho (by omega),?_⟩,a⟩
 . rw [cd,XL,bY];exact ho
 . exact ⟨a.os.trans h.below.os,a.tape.trans h.below.tape,a.output.trans h.below.output,XN h.below.size a.size,λk c=>(a.block k (by have:=h.below.size;omega) (λq=>by have:=gJ h.own q;omega)).trans (h.below.block k c)⟩
def Nd {v:ZS} (h:Pk w l v wr):w.heap.size<=wr.heap.size:=h.below.size
def Tx (w:ZT) (pre:List Nat) (st:List Nat) (v i:ZS) (wr:ZT):Prop:=∃ j:Nat,j<=st.length/\i=Z7 Z9 j/\Pk w (pre++(st.take j).flatMap (λs=>be s 4)) v wr
def R3 (w:ZT) (os:List Ob) (v i:ZS) (wr:ZT):Prop:=∃ k:Nat,k<=os.length/\i=Z7 Z9 k/\Pk w (az (os.take k)) v wr
def PH (w:ZT) (os:List Ob) (e:Ending) (w':ZT):Prop:=∃ g cap,e=Z3 (Z5 (ZW ⟨g,0,ZX⟩) (az os).length cap)/\w'.ownsRow w.heap.size 5 1 (Z5 (ZW ⟨g,0,ZX⟩) (az os).length cap) (az os).length (aH (az os))/\bW w w'
theorem Hd {v:ZS} {os:List Ob} (hC:gE K w v os) (A:∀ o∈os,o.fit) (qi:os.length<=10000):ZR ZQ 120 #[v] w λe w'=>PH w os e w':=by
 obtain ⟨ib,qf,hy,hz,k0⟩:=info_parts Tryz.Ua;have G:∀ k,k<=os.length->(az (os.take k)).length<=k*5000:=by
  intro k D;induction k with
  | zero=>simp [az]
  | succ k ih=>
   have z:k<os.length:=(by omega);have:=ih (by omega);have l:=A _ (XI z);rw [kS os k z,XL,gd l];have:=l.len;omega
 have kh:=tW hC A qi;have hp:=G os.length lR;rw [X9 lR] at hp;obtain ⟨ao,c,rfl,_,P⟩:=hC;obtain ⟨N,J⟩:=nM (os.length);obtain ⟨M,I⟩:=nM ((az os).length);rw [I] at kh hp;have W:=hide5 P A G J I;rw [J] at qi kh hp ⊢;clear P A G J I;go_enter func120,ntmps120;go_wp2_with fail;refine kh.mono ?_;rintro e w1 ⟨rfl,kr⟩;have x6:=kr.size;have H1:=hide kr;clear kr kh;go_wp2_with (at_make;refine wpList_make_own w1 rfl (.const (Z7 Z9 0)) (Z1 10) 34 rfl w.heap.size 5 ib (Z7 .u8 0) 1 underlying34 qf hy hz .i64 .i64 _ M (by rfl) (by rfl) rfl (by rw [k0];omega) (by unfold maxLen;omega) x6 ?_;intro w2 qh qe);have q9:Pk w [] (Z5 (ZW ⟨w1.heap.size,0,ZX⟩) 0 M) w2:=⟨qh,by simp [Value.ownBlock],H1.out.grown qe H1.out.size (λk e=>by cases e)⟩;have H2:=hide q9;clear q9 qh qe;go_loopw [3,14] (λv i wr=>R3 w os v i wr) (λ_ i _=>N-(intOf i).toNat)
 case atStart=>exact ⟨0,XV _,rfl,H2.out⟩
 case round=>
  clear H2;obtain ⟨k,D,rfl,a⟩:=hrel;rw [W.out.2.2.2.1] at D;by_cases xb:k<N
  . obtain ⟨P,A,G,J,I⟩:=W.out;have z:k<os.length:=(by omega);obtain ⟨b,off,rfl,x7,kv,qc⟩:=P (λe=>by rw [e] at z;cases z);obtain ⟨sv,c0,c1,c2,hI⟩:=qc k z;have l:=A _ (XI z);have d0:wr.cell? ⟨b,off+k*3,ZX⟩=ZW (Z0 os[k].name):=(World.cell?_of_block (a.below.block b kv)).trans c0;have d1:wr.cell? ⟨b,off+k*3+1,ZX⟩=ZW (Z7 Z9 (os[k].size:Nat)):=(World.cell?_of_block (a.below.block b kv)).trans c1;have d2:wr.cell? ⟨b,off+k*3+2,ZX⟩=ZW sv:=(World.cell?_of_block (a.below.block b kv)).trans c2;have qx:=G k (by omega);have y:=kS os k z;obtain ⟨pre,k7⟩:=nM (az (os.take k));obtain ⟨o,ho⟩:=nM (os[k]);rw [k7] at qx a y;rw [ho] at d0 d1 l hI y;obtain ⟨d,F,x0,x2,Q⟩:=hI;subst x0;obtain ⟨m,L⟩:=nM (o.TE.length);obtain ⟨nm,T⟩:=nM (o.name);obtain ⟨p,U⟩:=nM (o.size);have kx:=l.name;have qq:=l.size;have qp:=l.len;rw [T] at d0 kx;rw [U] at d1 qq;rw [L] at d2 x2 qp;have x5:=a.below.size;have x9:((k:Nat):Int).toNat=k:=(by omega);have ks:bW wr (wr.alloc (Z4 #[Z0 nm,Z7 Z9 (p:Int),.slice d m F] 123)):=bA wr _;have qn:(wr.alloc (Z4 #[Z0 nm,Z7 Z9 (p:Int),.slice d m F] 123)).heap.size=wr.heap.size+1:=(by simp);have q4:(wr.alloc (Z4 #[Z0 nm,Z7 Z9 (p:Int),.slice d m F] 123)).heap[wr.heap.size]?=ZW (Z4 #[Z0 nm,Z7 Z9 (p:Int),.slice d m F] 123 (0,0)):=blk_alloc_new _ _;obtain ⟨r,x3⟩:=nM (wr.alloc (Z4 #[Z0 nm,Z7 Z9 (p:Int),.slice d m F] 123));rw [x3] at ks qn q4;have n:(r.alloc (Z4 (aH (XJ 16 0)).toArray 221)).heap[r.heap.size]?=ZW (Z4 (aH (XJ 16 0)).toArray 221 (0,0)):=blk_alloc_new _ _;have ke:bW r (r.alloc (Z4 (aH (XJ 16 0)).toArray 221)):=bA r _;have qo:(r.alloc (Z4 (aH (XJ 16 0)).toArray 221)).heap.size=r.heap.size+1:=(by simp);obtain ⟨wb,q6⟩:=nM (r.alloc (Z4 (aH (XJ 16 0)).toArray 221));rw [q6] at n ke qo;have E:=(ke.block _ (by omega)).trans q4;have x4:r.alloc (Z4 #[Z7 .u8 0,Z7 .u8 0,Z7 .u8 0,Z7 .u8 0,Z7 .u8 0,Z7 .u8 0,Z7 .u8 0,Z7 .u8 0,Z7 .u8 0,Z7 .u8 0,Z7 .u8 0,Z7 .u8 0,Z7 .u8 0,Z7 .u8 0,Z7 .u8 0,Z7 .u8 0] 221)=wb:=q6;have hr:Pk w pre u3 wb:=(a.out (aa.TG ks (λ_=>False)) (λ_ h=>h.elim) (λ_ _ h=>h)).out (aa.TG ke (λ_=>False)) (λ_ h=>h.elim) (λ_ _ h=>h);have X:=hide7 Q l y ho L T U;have HB:=hide4 hr E n qo;clear a P A G J I qc c0 c1 c2 Q l y ho L T U hr E n q6 q4 ks ke k7;go_wp2_with fail;obtain ⟨hr,E,n,ka⟩:=HB.out;rw [qn] at n ka;obtain ⟨q,hq⟩:=nM (wr.heap.size);rw [hq] at E n ka x5;refine zD (s:=nm) (q:=wr.heap.size) (g:=wr.heap.size+1) kx.2 (by rw [hq];exact n) (by rw [hq];simp [World.cell?,E]) (by omega) (by kernel_rfl) rfl rfl rfl ?_;intro w6 kj;rw [hq] at kj ⊢;have kb:aa (λk=>k=q+1) wb w6:=by
     rw [kj];have R:=aI wb.drew (q+1) (aH (gU nm)).toArray;exact ⟨R.os,R.tape,R.output,R.size,λk D qy=>R.block k D (λe=>qy (XM e))⟩
    have B:Pk w pre u3 w6:=hr.out kb (λk D=>by omega) (λk D e=>dz hr.own n (by decide) (by rw [D,e]));have C:=(kb.block q (by omega) (by omega)).trans E;have O:w6.heap[q+1]?=ZW (Z4 (aH (gU nm)).toArray 221 (0,0)):=(by rw [kj];exact setRow_heap _ _ _ _ _ _ n);have xc:=kb.size;have q0:w6.cell? ⟨q,0,ZX⟩=ZW (Z0 nm):=(by simp [World.cell?,C]);have qd:=B.num nm.size 1 (by omega) (by omega) (by omega);have H6:=hide4 B C O qd;have qz:nm.size<=16:=kx.2;clear hr E n kb B C O qd kj d0 d1 d2;rename_i q7
    refine q7 _ _ ?_;clear q7;simp only [Act.putFrom,Act.put,XO,XP,XQ];go_wp2_with fail;refine H6.out.2.2.2.mono ?_;rintro e w7 ⟨v7,rfl,kk,kc⟩;obtain ⟨B,C,O,hx⟩:=H6.out;clear hx;have qj:=(kc.block q (by omega) (λe=>dz B.own C (by decide) e)).trans C;have ky:=(kc.block (q+1) (by omega) (λe=>dz B.own O (by decide) e)).trans O;have xd:=kc.size;have kg:(pre++be nm.size 1).length=pre.length+1:=(by rw [XL,bY]);have ki:(gU nm).length=16:=xC qz;have he:Src ZQ 1 34 (Z5 (ZW ⟨q+1,0,ZX⟩) 16 16) 16 (aH (gU nm)) w7:=Src.ofSlice w7 underlying34 ⟨q+1,0,ZX⟩ 16 16 (aH (gU nm)) (by rw [bp,ki]) (λi u hu=>by
     have h9:w7.cell? ⟨q+1,i,ZX⟩=ZW u:=(by simp [World.cell?,ky];simpa using hu);unfold Addr.add;split
     . rename_i h0;subst h0;exact h9
     . rw [XY];exact h9) (λu hu=>by obtain ⟨x,_,rfl⟩:=XZ.1 hu;rfl)
    have h7:=kk.own;rw [kg] at h7;have t:=hide5 kk qj ky he h7;clear B C O kk kc qj ky he h7 q0;have qm:=Nd t.out.1;go_wp2_with (show wpList _ _ _ ({ dst:=ZW 30,op:=_,type:=_,pos:=_,after:=_,guard:=_ }::_) _ _;refine af _ rfl (Z1 28) (Z1 29) 34 34 rfl w.heap.size 5 ib (Z7 .u8 0) 1 1 underlying34 qf hy hz k0 rfl v7 (pre.length+1) (aH (pre++be nm.size 1)) (by rfl) (by exact t.out.2.2.2.2) _ (by rfl) 16 (aH (gU nm)) (by exact t.out.2.2.2.1) (by unfold maxLen;omega) (by omega) (by exact qm) ?_;intro v8 w8 kz kf kp;have q3:w8.heap[q]?=ZW (Z4 #[Z0 nm,Z7 Z9 (p:Int),.slice d m F] 123 (0,0)):=(kf.block q (by omega) (λe=>dz t.out.1.own t.out.2.1 (by decide) e.symm)).trans t.out.2.1;have q1:w8.cell? ⟨q,1,ZX⟩=ZW (Z7 Z9 (p:Int)):=(by simp [World.cell?,q3]);have qa:Pk w ((pre++be nm.size 1)++gU nm) v8 w8:=⟨(by rw [cd,XL,kg,ki];exact kz),BD kz (by omega),t.out.1.below.grown kf qm (λj e=>gJ t.out.1.own e)⟩;have xe:=kf.size;have V:=hide2 qa q3;clear kz kf kp q3 qa);refine (V.out.1.num p 2 (by omega) (by omega) (by rw [XL,kg,ki];omega)).mono ?_;rintro e w9 ⟨v9,rfl,km,q8⟩;have qk:=(q8.block q (by omega) (λe=>dz V.out.1.own V.out.2 (by decide) e)).trans V.out.2;have q2:w9.cell? ⟨q,2,ZX⟩=ZW (.slice d m F):=(by simp [World.cell?,qk]);obtain ⟨f,Y⟩:=nM (pre++be nm.size 1++gU nm++be p 2);have xa:f.length=pre.length+19:=(by rw [<- Y,XL,XL,kg,ki,bY]);rw [Y] at km;have H9:=hide2 km Y;clear km q8 qk q1 Y;go_wp2_with fail;go_loopw [3,39] (λv i hb=>Tx w f o.TE v i hb) (λ_ i _=>m-(intOf i).toNat)
    case atStart=>exact ⟨0,XV _,rfl,by rw [YB,List.flatMap_nil,YC];exact H9.out.1⟩
    case round=>
     obtain ⟨j,hj,rfl,a⟩:=hrel;rw [X.out.2.2.2.2.1] at hj;by_cases x8:j<m
     . obtain ⟨Q,l,y,ho,L,_,_⟩:=X.out;have S:j<o.TE.length:=(by omega);obtain ⟨sb,so,rfl,_,q5,k8⟩:=Q (λe=>by rw [e] at S;cases S);have cs:=(World.cell?_of_block (a.below.block sb q5)).trans (k8 j S);have x1:=l.st _ (XI S);have hv:((o.TE.take j).flatMap (λs=>be s 4)).length=4*j:=(by rw [xB,X7];omega);have qg:f++(o.TE.take (j+1)).flatMap (λs=>be s 4)=(f++(o.TE.take j).flatMap (λs=>be s 4))++be o.TE[j] 4:=by
        rw [Yy,XX S,Yz,Yb];simp
       have Z:=a.num o.TE[j] 4 (by omega) (by omega) (by rw [XL,hv];omega);rw [<- qg] at Z;obtain ⟨x,hx⟩:=nM (o.TE[j]);rw [hx] at cs x1 Z;have HP:=hide Z;clear a Q l y ho L k8 Z qg hx hv;go_wp2_with fail;refine HP.out.mono ?_;rintro e wj ⟨vj,rfl,qb,_⟩;have Hj:=hide qb;clear qb;go_wp2;go_roundw
       case rel=>exact ⟨j+1,by have:=X.out.2.2.2.2.1;omega,by go_num,Hj.out⟩
       case measure=>simp [intOf];omega
     . have qs:j=m:=(by omega);have Hq:=hide a;clear a;go_wp2;go_roundw
       case rel=>
        refine ⟨k+1,by have:=W.out.2.2.2.1;omega,by go_num,?_⟩;obtain ⟨_,_,y,_,L,T,U⟩:=X.out;have ko:=Hq.out;rw [X9 (by omega),<- H9.out.2] at ko;rw [y];unfold gN;rw [T,U];simp only [Yb] at ko ⊢;exact ko
       case measure=>simp [intOf];omega
  . have qv:k=N:=(by omega);subst qv;have H:=hide a;clear a;go_wp2;go_ret;have a:=H.out;obtain ⟨_,_,_,J,I⟩:=W.out;rw [X9 (by omega)] at a;rcases a.own.2 with ⟨h0,_⟩|⟨g,cap,cur,e1,_⟩
    . exact absurd (by rw [h0];rfl) a.some_
    . have ho:=a.own;rw [e1] at ho;exact ⟨g,cap,by rw [<- e1];rfl,ho,a.below⟩
def tX {vo:ZS} {os:List Ob} (hC:gE (λk=>k<w.heap.size) w vo os) (c:∀ o∈os,o.fit) (b:os.length<=10000):Ea w vo (az os):=λ_ a=>Hd (hC.keep ⟨a.size,λk d _=>a.block k d⟩) c b
noncomputable def SQ:Array Oper:=((Tryz.f99.body.bind (mW · 1))).getD #[]
def Q0:List (Op×Option Nat×List Nat):=[(Op.move (Z1 0),ZW 5,[]),
 (Op.nilCheck (Z1 5),ZW 6,[0]),
 (Op.fieldAddr 121 (Z1 6) 0,ZW 7,[1]),
 (Op.load 115 (Z1 7),ZW 8,[2]),
 (Op.build 174 #[],ZW 9,[]),
 (Op.makeInterface 174 (Z1 9),ZW 10,[4]),
 (Op.move (Z1 0),ZW 11,[]),
 (Op.nilCheck (Z1 11),ZW 12,[6]),
 (Op.fieldAddr 121 (Z1 12) 0,ZW 13,[7]),
 (Op.load 115 (Z1 13),ZW 14,[8]),
 (Op.call { callee:=Callee.value (Operand.func 123),args:=#[Z1 14],argTypes:=#[115] },ZW 15,[9]),
 (Op.call { callee:=Callee.value (Operand.func 122),args:=#[Z1 8,Operand.const (Value.int IntKind.i64 1),Z1 10,Z1 15],argTypes:=#[115,3,219,124] },ZW 16,[3,5,10,10])]
def He:aN SQ 5 17 Q0:=bx (by kernel_rfl) (by kernel_rfl)
def PI (ar v S:Nat):List ZS:=[Z6 (ZW ⟨ar,0,ZX⟩),Z6 (ZW ⟨ar,0,ZX⟩),Z6 (ZW ⟨ar,0,ZX⟩),Z6 (ZW ⟨v,0,ZX⟩),.agg #[],br .filled,Z6 (ZW ⟨ar,0,ZX⟩),Z6 (ZW ⟨ar,0,ZX⟩),Z6 (ZW ⟨ar,0,ZX⟩),Z6 (ZW ⟨v,0,ZX⟩),Z7 Z8 S,Z7 Z8 0]
def zE (A:ay) (r:aX) (D:Nat->Bool):ay:=if D 11=ZV then A.putAt (XG A.n) 1 (λ_=>r.blk) else A
def R4 (w0:ZT) (p:Nat) (A:ay) (F:bh) (r:aX) (Dn:Nat->Bool) (w:ZT):Prop:=aq w p (zE A r Dn) F/\aa (F.has p A.n) w0 w
def jn {A:ay} {r:aX} (h:R4 w0 p A F r Dn w) (i:Nat) (b:i≠11) (a:bW w w'):R4 w0 p A F r (dR Dn i) w':=by
 refine ⟨?_,h.2.trans (aa.TG a _)⟩;have e:zE A r (dR Dn i)=zE A r Dn:=by unfold zE dR;rw [if_neg (λe:11=i=>b e.symm)]
 rw [e];exact h.1.below a lR
theorem pr {A:ay} (T:SQ=ops) (t:nF w v p D L G ps ho A F) (y:jT F p A.n v) (O:¬ F.has p A.n ar) (J:w.heap[ar]?=ZW (Z4 cs 121 (0,0))) (M:cs[0]?=ZW (Z6 (ZW ⟨v,0,ZX⟩)))
 (V:A.fit) (z:A.n=D+L+G) (hD:D<=12) (Y:L<=4) (hG:G<=4) (x:D+L+G<=16) (U:1<A.nb) (hw:A.wait<0) (hl:∀ i,A.lost i=ZU)
 (hz:a.tmps.size=30) (C:a.eval (Z1 0)=Z6 (ZW ⟨ar,0,ZX⟩))
 (R:∀ (w':ZT) (vs:List ZS),vs.length=12->aq w' p (A.putAt (XG A.n) 1 (λ_=>aX.filled.blk)) F->aa (F.has p A.n) w w'->Q .normal (Act.putFrom a 5 vs) w'):(Code.region 1 ops ZV).wp ZQ Q a w:=by
 subst T;obtain ⟨S,H⟩:=nM (2^(D+L+G)-1);have I:ab S=XG A.n:=by rw [<- H,z];exact oF x
 have hr:S<65536:=by
  have:2^(D+L+G)<=2^16:=Yi (by decide) x;omega
 have N:ar<w.heap.size:=(XH.1 J).1;have E:∀ w',aa (F.has p A.n) w w'->w'.cell? ⟨ar,0,ZX⟩=ZW (Z6 (ZW ⟨v,0,ZX⟩)):=λw' P=>by
  have:=(P.block ar N O).trans J;simp [World.cell?,this,M]
 refine cB (by kernel_rfl) He a w (by omega) (λi u _=>u=(PI ar v S).getD i ZY) (R4 w p A F .filled) ⟨t.arr.keep λ_ _=>rfl,aa.drew w⟩ ?_ ?_
 . intro i r;match i,r with
   | 0,_=>exact λo d w' Dn q ho g k l m j b h=>ae (ag ho ((k.slot 0 (by omega)).trans C) w') g ⟨jn b _ (by decide) (Below.refl _ _),rfl,kq⟩
   | 1,_|2,_|7,_|8,_=>
    intro o d w' Dn q ho g k l m j b h;have u0:=h _ (j _ (.head _));simp only [Q0,PI,bZ,cT,pM,pL] at ho u0;exact ae (by simp only [execOp,ho,u0,PI,pM,pL];go_simp) g ⟨jn b _ (by decide) (Below.refl _ _),rfl,kq⟩
   | 3,_=>
    intro o d w' Dn q ho g k l m j b h;have u0:d.eval (Z1 7)=Z6 (ZW ⟨ar,0,ZX⟩):=h 2 (j 2 (by decide));have c:=E w' b.2;exact ae (v:=Z6 (ZW ⟨v,0,ZX⟩)) (by simp only [execOp,show o.op=Op.load 115 (Z1 7) from ho,u0];go_simp) g ⟨jn b _ (by decide) (Below.refl _ _),rfl,kq⟩
   | 4,_=>
    intro o d w' Dn q ho g k l m j b h;exact ae (v:=.agg #[]) (by simp only [execOp,show o.op=Op.build 174 #[] from ho];go_simp) g ⟨jn b _ (by decide) (Below.refl _ _),rfl,kq⟩
   | 5,_=>
    intro o d w' Dn q ho g k l m j b h;have u0:d.eval (Z1 9)=.agg #[]:=h 4 (j 4 (by decide));exact ae (v:=br .filled) (by simp only [execOp,show o.op=Op.makeInterface 174 (Z1 9) from ho,u0,br];go_simp) g ⟨jn b _ (by decide) (Below.refl _ _),rfl,kq⟩
   | 6,_=>exact λo d w' Dn q ho g k l m j b h=>ae (ag ho ((k.slot 0 (by omega)).trans C) w') g ⟨jn b _ (by decide) (Below.refl _ _),rfl,kq⟩
   | 9,_=>
    intro o d w' Dn q ho g k l m j b h;have u0:d.eval (Z1 13)=Z6 (ZW ⟨ar,0,ZX⟩):=h 8 (j 8 (by decide));have c:=E w' b.2;exact ae (v:=Z6 (ZW ⟨v,0,ZX⟩)) (by simp only [execOp,show o.op=Op.load 115 (Z1 13) from ho,u0];go_simp) g ⟨jn b _ (by decide) (Below.refl _ _),rfl,kq⟩
   | 10,_=>
    intro o d w' Dn q ho g k l m j b h;have u0:d.eval (Z1 14)=Z6 (ZW ⟨v,0,ZX⟩):=h 9 (j 9 (by decide));refine dD (f:=123) (args:=#[Z6 (ZW ⟨v,0,ZX⟩)]) (w1:=w') (by simp only [execOp,show o.op=Op.call { callee:=Callee.value (Operand.func 123),args:=#[Z1 14],argTypes:=#[115] } from ho];go_simp;simpa [Act.eval] using u0) g (nG (t.vol.keep (b.2.block _ t.vol.lt y.v)) hD Y hG x) ?_;rintro e B ⟨rfl,hv⟩;rw [H];exact ⟨_,rfl,jn b 10 (by decide) hv,rfl,kq⟩
   | 11,_=>
    intro o d w' Dn hy ho g k l m j b h;have u0:d.eval (Z1 8)=Z6 (ZW ⟨v,0,ZX⟩):=h 3 (j 3 (by decide));have u1:d.eval (Z1 10)=br .filled:=h 5 (j 5 (by decide));have u2:d.eval (Z1 15)=Z7 Z8 S:=h 10 (j 10 (by decide));have s:aq w' p A F:=(by have:=b.1;unfold zE at this;rw [if_neg (by rw [l];decide)] at this;exact this);have hs:=t.turn y b.2 s;have K:=tS hs y V 1 S U hr (λi r=>by rw [I] at r;simpa using r) hw (λi _=>hl i) .filled trivial yD;rw [I] at K;refine dD (f:=122) (args:=#[Z6 (ZW ⟨v,0,ZX⟩),Z7 Z9 (1:Nat),br .filled,Z7 Z8 S]) (w1:=w') (by simp only [execOp,show o.op=Op.call { callee:=Callee.value (Operand.func 122),args:=#[Z1 8,Operand.const (Value.int IntKind.i64 1),Z1 10,Z1 15],argTypes:=#[115,3,219,124] } from ho];go_simp;exact ⟨by simpa [Act.eval] using u0,by simpa [Act.eval] using u1,by simpa [Act.eval] using u2⟩) g K ?_;rintro e B ⟨rfl,W,Z⟩;refine ⟨_,rfl,⟨?_,b.2.trans Z⟩,rfl,kq⟩;have e:zE A .filled (dR Dn 11)=A.putAt (XG A.n) 1 (λ_=>aX.filled.blk):=(by unfold zE dR;rw [if_pos (by rw [if_pos rfl])]);rw [e];exact W
   | n+12,z=>exact absurd z (by show ¬ n+12<12;omega)
 . rintro d w' hx ⟨Dn,X,b⟩ h;have e:zE A .filled Dn=A.putAt (XG A.n) 1 (λ_=>aX.filled.blk):=(by unfold zE;rw [if_pos (X 11 (by decide))]);have s:=b.1;rw [e] at s;have e:d=Act.putFrom a 5 ((XG 12).map λi=>d.eval (.tmp (5+i))):=hx.out _ (by rw [XK,XS]) (by omega) (λi r=>by
    rw [XK,XS] at r;rw [XW,X4,X5 r];rfl)
   rw [e];exact R w' _ (by rw [XK,XS]) s b.2
theorem Eb (w:ZT):Ea w (Z5 ZX 0 0) []:=by
 intro W _;go_enter func120,ntmps120;go_wp2_with fail;refine (length_nil W).mono ?_;rintro e w' ⟨rfl,rfl⟩;go_wp2_with (at_make;refine eH _ rfl (.const (Z7 Z9 0)) (Z1 10) rfl _ 0 rfl rfl rfl (by omega) ?_;intro w2 b a c);have H:=hide2 b a;clear b a;refine wp_loop_rounds 1 ?_;rw [rounds_succ];go_wp2;go_ret;obtain ⟨b,a⟩:=H.out;exact ⟨_,0,rfl,⟨rfl,.inr ⟨_,0,_,rfl,XR _,b.Uv,XR _,by unfold maxLen;omega,rfl,rfl⟩⟩,a⟩
def bN.weaken {K':Nat->Prop} {v:ZS} (h:bN K w v l) (f:∀ k,K k->K' k):bN K' w v l:=by
 obtain ⟨ao,c,a,d,e⟩:=h;refine ⟨ao,c,a,d,λhl=>?_⟩;obtain ⟨b,off,g,i,j⟩:=e hl;exact ⟨b,off,g,f b i,j⟩
def Hf (h:3<=nb):(bj (tk nb ([]++ah [])).1 nb).take 1=[2]/\1<=(bj (tk nb ([]++ah [])).1 nb).length:=by
 have e:(tk nb ([]++ah [])).1=λ_=>ZU:=rfl;rw [e];have a:bj (λ_=>ZU) 3=[2]:=by simp [bj,YD]
 obtain ⟨r,hr⟩:=kO (λ_=>ZU) h;rw [a] at hr;rw [<- hr];exact ⟨rfl,by simp⟩
def fj (A:ay) (D L G:Nat):ay:=((A.putAt (XG A.n) 1 (λ_=>aX.filled.blk)).pagesTo D L G [2] [] 1).putAt (XG A.n) 0 (λ_=>(aX.root D L G 1 2 0).blk)
def K5 (h:w.ownsRow base 3 1 u n (Aa l)) (hl:l≠[]) (f:l.length<=1000000) {K:Nat->Prop} (hK:∀ k,base<=k->K k):∃ g c,u=Z5 (ZW ⟨g,0,ZX⟩) l.length c/\bN K w u l:=by
 have b:n=l.length:=by have:=h.1;unfold Aa at this;rw [XK,Nat.mul_one] at this;omega
 rcases h.2 with ⟨_,m⟩|⟨g,cap,cur,a,d,e,_⟩
 . exact absurd (Yh (by omega)) hl
 . refine ⟨g,cap,by rw [a,b],ZW ⟨g,0,ZX⟩,cap,by rw [a,b],f,λ_=>⟨g,0,rfl,hK g d,(XH.1 e).1,λi j=>?_⟩⟩;have:=h.cells (g:=g) (by rw [a];rfl) i (Z7 Z9 ((l[i]:Nat):Int)) (by unfold Aa;simp [j]);rw [mN] at this;rw [XY];exact this
theorem Hg {A:ay} (C:bM w ar v 0 0 0 0 0 0 (Z5 ZX 0 0) (Z5 ZX 0 0) off) (hV:nF w v p D L G ps ho A F) (T:jT F p A.n v) (W:¬ F.has p A.n ar) (hf:A.fit) (hn:A.n=D+L+G) (hr:bU D L G=ZV) (k6:1<=D) (hD:D<=12) (hL:1<=L) (k7:L<=4) (hG:G<=4) (hs:D%L=0) (k5:D+L+G<=16)
 (kg:3<=A.nb) (hw:A.wait<0) (h5:∀ i,A.lost i=ZU) :
 ZR ZQ 99 #[Z6 (ZW ⟨ar,0,ZX⟩)] w λe w'=>e=Z3 .nilIface/\aq w' p (fj A D L G) F/\(∃ u,bM w' ar v D L G 1 2 0 u (Z5 ZX 0 0) off/\bN (λk=>w.heap.size<=k) w' u [2])/\aa (λk=>k=ar\/F.has p A.n k) w w':=by
 have ke:=C;go_enter func99,ntmps99;go_wp2_with fail;refine pr (by kernel_rfl) hV T W C rfl hf hn hD k7 hG k5 (by omega) hw h5 rfl rfl ?_;intro w1 vs kb U h;obtain ⟨y0,y1,y2,y3,y4,y5,y6,y7,y8,y9,ya,yb,rfl⟩:=yT kb;obtain ⟨j,l⟩:=nM (A.putAt (XG A.n) 1 (λ_=>aX.filled.blk));have o:j.fit:=by rw [<- l];exact hf.putAt _ _ _ λ_ _=>⟨eJ (r:=.filled) trivial,jv (r:=.filled) trivial⟩
 have hj:j.n=A.n/\j.nb=A.nb/\j.wait=A.wait/\j.lost=A.lost:=by rw [<- l];exact ⟨rfl,rfl,rfl,rfl⟩
 obtain ⟨a,s,P,Q⟩:=hj;rw [l] at U;have f:=C.keep (h.block _ C.lt W);have d:=hV.turn T h U;have X:=jj f d.vol k6 (by omega) 0 (by decide);have hv:pgs D 0=1:=by unfold pgs;rw [Nat.div_eq_of_lt (by omega)];rfl
 rw [hv] at X;have Y:=lW f d.vol d.arr o (by rw [a];omega) [] [] (bN.nil _ _) (gE.nil _ _) 1 (by decide);obtain ⟨t,y⟩:=Hf (nb:=j.nb) (by rw [s];exact kg);rw [t,decide_eq_true y] at Y;have O:=hide7 f d h X Y o l;clear f d h X Y o l U kb t y;rename_i hK
 refine hK _ _ ?_;clear hK;simp only [Act.putFrom,Act.put,XO,XP,XQ];go_wp2_with fail;refine O.out.2.2.2.1.mono ?_;rintro e w2 ⟨rfl,kh⟩;subst kh;go_wp2_with fail;refine O.out.2.2.2.2.1.mono ?_;rintro e w3 ⟨u,rfl,h9,I⟩;obtain ⟨f,d,h,_,_,o,l⟩:=O.out;have k9:=f.keep (I.block _ f.lt);have k8:=d.below I lR;obtain ⟨g,c,hu,V⟩:=K5 (K:=λk=>w2.heap.size<=k) h9 (by simp) (by decide) (λk J=>J);subst hu;have E:bN (λk=>¬ F.has p j.n k) w3 (Z5 (ZW ⟨g,0,ZX⟩) [2].length c) [2]:=by
  obtain ⟨ao,S,Z,q2,q3⟩:=V;refine ⟨ao,S,Z,q2,λhl=>?_⟩;obtain ⟨b,R,r1,r2,N⟩:=q3 hl;exact ⟨b,R,r1,λq=>by have:=d.arr.TH q;omega,N⟩
 have ka:=nS k9 k8 (by rw [a];exact T) (by rw [a];exact W) o (by rw [a];exact hn) hr k6 hD hL k7 hG hs k5 (by rw [P];exact hw) ((gT.here h5 D L G).congr a Q) (by decide) ZX 0 0 [] (λx M=>by cases M) (by decide) (Eb w3) g 0 c [2] E (by simp) (λx M=>by simp at M;subst M;rw [s];omega) (λk J=>by simp at J;subst J;simp);have B:aa (F.has p A.n) w w3:=h.trans (aa.TG I _);have H3:=hide6 ka B V d f.lt h.size;clear ka B E V k9 k8 h9 I f d h o;go_wp2_with fail;refine H3.out.1.mono ?_;rintro e w4 ⟨rfl,z,H,m⟩;have H4:=hide3 z H m;clear z H m;go_wp2;go_ret;obtain ⟨z,H,m⟩:=H4.out;obtain ⟨_,B,E,d,kc,k0⟩:=H3.out;rw [a] at z m;refine ⟨rfl,?_,⟨_,H,?_⟩,(B.mono λ_ _ q=>.inr q).trans m⟩
 . unfold fj;rw [l];exact z
 . obtain ⟨ao,S,Z,q2,q3⟩:=E;refine ⟨ao,S,Z,q2,λhl=>?_⟩;obtain ⟨b,R,r1,r2,N,r4⟩:=q3 hl;have hq:b≠ar:=λe=>by omega
   have kf:¬ F.has p A.n b:=λq=>by have:=d.arr.TH (k:=b) (by rw [a];exact q);omega
   refine ⟨b,R,r1,XN k0 r2,XU N m.size,λi hi=>?_⟩;exact (World.cell?_of_block (m.block b N (λq=>q.elim hq kf))).trans (r4 i hi)
def Tryz.TU:(ZQ.info? 123).map (λi=>(i.zero,i.size,i.bytes))=ZW (ZW (.agg #[Z0 ByteArray.empty,Z7 Z9 0,Z5 ZX 0 0]),3,48):=by kernel_rfl
def K6:∀ (x y:List UInt8),Op.bytesLess x y=decide (x<y)
 | [],[]=>by simp [Op.bytesLess]
 | _::_,[]=>by simp [Op.bytesLess]
 | [],_::_=>by simp [Op.bytesLess]
 | a::x,b::y=>by
  rw [Op.bytesLess,K6 x y];simp only [List.cons_lt_cons_iff];by_cases c:a<b<;>by_cases d:a=b<;>by_cases e:x<y<;>simp [c,d,e]
def kT (a b:ByteArray):Bool:=Op.bytesLess a.toList b.toList
def zF {a:ByteArray}:kT a b=ZV↔a.toList<b.toList:=by unfold kT;rw [K6];simp
def zG {a:ByteArray}:kT a b=ZU↔¬ a.toList<b.toList:=by unfold kT;rw [K6];simp
def kU (a:ByteArray):kT a a=ZU:=zG.2 (List.lt_irrefl _)
def qK {a c:ByteArray} (h:kT a b=ZV) (k:kT b c=ZV):kT a c=ZV:=zF.2 (List.lt_trans (zF.1 h) (zF.1 k))
def toList_inj {a:ByteArray} (h:a.toList=b.toList):a=b:=by
 have c:a.data.toList=b.data.toList:=by rw [<- Lib.toList_data,<- Lib.toList_data];exact h
 have d:a.data=b.data:=Array.toList_inj.1 c;cases a;cases b;simpa using d
def zH {a:ByteArray} (h:kT a b=ZU) (k:kT b a=ZU):a=b:=toList_inj (List.le_antisymm (zG.1 k) (zG.1 h))
def Up (ns:List ByteArray):Prop:=ns.Pairwise (λa b=>kT a b=ZV)
def bg (os:List Ob):List ByteArray:=os.map (·.name)
def bS (os:List Ob):(bg os).length=os.length:=by unfold bg;rw [XK]
def aD (ns:List ByteArray) (x:ByteArray):Nat:=(ns.takeWhile (λn=>kT n x)).length
def xD (ns:List ByteArray) (x:ByteArray):aD ns x<=ns.length:=by unfold aD;exact (List.takeWhile_prefix _).length_le
def gB:∀ (ns:List ByteArray) (x:ByteArray) (i:Nat),i<=ns.length->(∀ j (e:j<ns.length),j<i->kT ns[j] x=ZV)->(∀ a:i<ns.length,kT ns[i] x=ZU)->aD ns x=i
 | [],x,i,a,_,_=>by simp at a;subst a;rfl
 | n::ns,x,0,a,b,c=>by
  have:=c (by simp);unfold aD;rw [X0];simp at this;simp [this]
 | n::ns,x,i+1,a,b,c=>by
  have d:=b 0 (by simp) (by omega);simp at d;have:=gB ns x i (by simpa using a) (λj e g=>b (j+1) (YE e) (by omega)) (λf=>c (YE f));unfold aD at this ⊢;rw [X0];simp [d,this]
def m9:∀ (ns:List ByteArray) (x:ByteArray) (j:Nat) (a:j<ns.length),j<aD ns x->kT ns[j] x=ZV
 | [],_,j,a,_=>by simp at a
 | n::ns,x,j,a,h=>by
  unfold aD at h;rw [X0] at h;cases b:kT n x
  . simp [b] at h
  . simp [b] at h;cases j with
    | zero=>simpa using b
    | succ j=>simpa using m9 ns x j (by simpa using a) (by unfold aD;omega)
def xE:∀ (ns:List ByteArray) (x:ByteArray) (a:aD ns x<ns.length),kT ns[aD ns x] x=ZU
 | [],x,a=>by simp at a
 | n::ns,x,a=>by
  by_cases b:kT n x=ZV
  . have e:aD (n::ns) x=aD ns x+1:=(by unfold aD;rw [X0];simp [b]);have c:=xE ns x (by rw [e] at a;simpa using a);simp only [e,List.getElem_cons_succ];exact c
  . have e:aD (n::ns) x=0:=(by unfold aD;rw [X0];simp [b]);simp only [e,List.getElem_cons_zero];simpa using b
def vJ (b:Up ns) (x:ByteArray) (j:Nat) (f:j<ns.length) (h:aD ns x<=j):kT ns[j] x=ZU:=by
 have a:=xE ns x (by omega);rcases Yc h with e|d
 . subst e;exact a
 . unfold Up at b;rw [X1] at b;have c:=b _ _ (by omega) f d;cases hb:kT ns[j] x
   . rfl
   . rw [qK c hb] at a;cases a
def im (a:Up ns) {x:ByteArray} {k:Nat} (b:k<ns.length) (e:ns[k]=x):aD ns x=k:=by
 refine gB ns x k (Nat.le_of_lt b) (λj d c=>?_) (λf=>by rw [e];exact kU x);unfold Up at a;rw [X1] at a;have:=a j k d b c;rwa [e] at this
def tY (b:Up ns) {x:ByteArray} (c:x∈ns):∃ h:aD ns x<ns.length,ns[aD ns x]=x:=by
 obtain ⟨k,a,e⟩:=X2 c;have:=im b a e;exact ⟨by omega,by simp only [this];exact e⟩
theorem Hh (c:Up ns) {x:ByteArray} (m:x∉ns):Up (ns.take (aD ns x)++x::ns.drop (aD ns x)):=by
 have n:=xD ns x;unfold Up;rw [List.pairwise_append,List.pairwise_cons];refine ⟨Yr (List.take_sublist _ _) c,⟨λa g=>?_,Yr (YF _ _) c⟩,λa g b f=>?_⟩
 . obtain ⟨j,h,e⟩:=X2 g;rw [Yl] at h;rw [YG] at e;have d:=vJ c x (aD ns x+j) (by omega) (by omega);rw [e] at d;cases f:kT x a
   . exact absurd (X8 g) (by rw [zH d f];exact m)
   . rfl
 . obtain ⟨j,h,e⟩:=X2 g;rw [X7] at h;rw [List.getElem_take] at e;have d:=m9 ns x j (by omega) (by omega);rw [e] at d;rcases List.mem_cons.1 f with rfl|f
   . exact d
   . obtain ⟨i,l,k⟩:=X2 f;rw [Yl] at l;rw [YG] at k;unfold Up at c;rw [X1] at c;have:=c j (aD ns x+i) (by omega) (by omega) (by omega);rwa [e,k] at this
def K7 (b:Up ns) (k:Nat):Up (ns.take k++ns.drop (k+1)):=by
 refine Yr ?_ b;have a:(ns.take k++ns.drop (k+1)).Sublist (ns.take k++ns.drop k):=List.Sublist.append (List.Sublist.refl _) (by rw [<- List.drop_drop];exact YF _ _);rwa [List.take_append_drop] at a
structure Rt where
 D:Nat
 L:Nat
 G:Nat
 t:Nat
 f:Nat
 n:Nat
def Hl (x:Rt):Array ZS:=aQ x.D x.L x.G x.t x.f x.n
def pt:Option aX->ZS
 | none=>.nilIface
 | some r=>br r
def ud (x:Rt):Option aX->Rt
 | some (.root D L G t f n)=>if x.t<t then ⟨D,L,G,t,f,n⟩ else x
 | _=>x
def cy (R:Nat->Option aX):Nat->Rt
 | 0=>⟨0,0,0,0,0,0⟩
 | k+1=>ud (cy R k) (R k)
def K8 (x k:Nat):Option aX->Nat
 | some .blank=>x|||2^k
 | _=>x
def fI (R:Nat->Option aX):Nat->Nat
 | 0=>0
 | k+1=>K8 (fI R k) k (R k)
theorem ue (R:Nat->Option aX):∀ k,k<=60->fI R k<2^k
 | 0,_=>by simp [fI]
 | k+1,h=>by
  have ih:=ue R k (by omega);have a:2^k<2^(k+1):=Nat.pow_lt_pow_right (by decide) (by omega);show K8 (fI R k) k (R k)<2^(k+1);unfold K8;split
  . exact Ys (by omega) a
  . omega
def uf (e:o.guard=ZX) (x y:Operand) (ho:o.op=.store 117 x y) {b D L G t f n:Nat} {cs:Array ZS}
 (g:a.eval x=Z6 (ZW ⟨b,0,ZX⟩)) (i:a.eval y=.agg (aQ D L G t f n)) (c:w.heap[b]?=ZW (Z4 cs 117 (0,0))) (d:cs.size=6) (h:wpList ZQ ops Q rest (a.put o.dst ZY) (w.setRow b (aQ D L G t f n))):wpList ZQ ops Q (o::rest) a w:=by
 refine wpList_plain e λK hK=>?_;unfold Oper.wp;simp [execOp,ho,g,i,tU c d,Result.andThen];exact hK _ _ h
def Nf (v:ZS) (w:ZT):(Instr.typeAssert (.iface 117 v) 219 117 ZV).run ZQ w=.ok (ZZ #[v,Z2 ZV]) w:=by
 simp [Instr.typeAssert,run_underlying underlying117]
def lY (t:TypeId) (h:t≠117) (v:ZS) (w:ZT):(Instr.typeAssert (.iface t v) 219 117 ZV).run ZQ w=.ok (ZZ #[.agg (aQ 0 0 0 0 0 0),Z2 ZU]) w:=by
 simp [Instr.typeAssert,run_underlying underlying117,h];rfl
def BE (w:ZT):(Instr.typeAssert .nilIface 219 117 ZV).run ZQ w=.ok (ZZ #[.agg (aQ 0 0 0 0 0 0),Z2 ZU]) w:=by
 simp [Instr.typeAssert,run_underlying underlying117];rfl
def Ed (w:ZT):(zeroValue 235).run ZQ w=.ok (.agg #[]) w:=by
 obtain ⟨a,b,c⟩:∃ a,ZQ.info? 235=ZW a/\a.zero=ZW (.agg #[]):=by
  have:(ZQ.info? 235).map (λi=>i.zero)=ZW (ZW (.agg #[])):=by kernel_rfl
  rw [Yw] at this;exact this
 simp [zeroValue,typeInfo,Sem.run_bind,b,c]
def K9 (v:ZS) (w:ZT):(Instr.typeAssert (.iface 235 v) 219 235 ZV).run ZQ w=.ok (ZZ #[v,Z2 ZV]) w:=by
 simp [Instr.typeAssert,run_underlying underlying235]
def kV (t:TypeId) (h:t≠235) (v:ZS) (w:ZT):(Instr.typeAssert (.iface t v) 219 235 ZV).run ZQ w=.ok (ZZ #[.agg #[],Z2 ZU]) w:=by
 simp [Instr.typeAssert,run_underlying underlying235,h]
def zK (w:ZT):(Instr.typeAssert .nilIface 219 235 ZV).run ZQ w=.ok (ZZ #[.agg #[],Z2 ZU]) w:=by
 simp [Instr.typeAssert,run_underlying underlying235]
def fJ (w:ZT) (D L G t f n:Nat):ZT:=(w.alloc (Z4 (aQ 0 0 0 0 0 0) 117)).setRow w.heap.size (aQ D L G t f n)
def ug (w:ZT) (D L G t f n:Nat):(fJ w D L G t f n).heap[w.heap.size]?=ZW (Z4 (aQ D L G t f n) 117 (0,0)):=setRow_heap _ _ _ _ _ _ (blk_alloc_new w (Z4 (aQ 0 0 0 0 0 0) 117))
def eW (w:ZT) (D L G t f n:Nat):bW w (fJ w D L G t f n):=(bA w _).trans ⟨rfl,rfl,rfl,by unfold fJ;rw [gn];exact XR _,λk a=>(aI _ _ _).block k (by simp;omega) (λq=>by have:=XM q;omega)⟩
def nU (b:o.guard=ZX) (x y:Operand) (ho:o.op=.store 117 x y) {D L G t f n:Nat}
 (c:a.eval x=Z6 (ZW ⟨w.heap.size,0,ZX⟩)) (d:a.eval y=.agg (aQ D L G t f n)) (h:wpList ZQ ops Q rest (a.put o.dst ZY) (fJ w D L G t f n)):wpList ZQ ops Q (o::rest) a (w.alloc (Z4 (aQ 0 0 0 0 0 0) 117)):=
 uf b x y ho c d (blk_alloc_new _ _) rfl h
def Ty (w:ZT) (R:Nat->Option aX) (N:Nat) (s i:ZS) (wr:ZT):Prop:=∃ k:Nat,k<=N/\i=Z7 Z9 k/\s=Z7 Z8 (fI R k:Nat)/\bW w wr
theorem Ee (R:Nat->Option aX) (x:N<=60) (d:w.rowIs g 219 N (λi=>pt (R i))) :
 ZR ZQ 98 #[Z5 (ZW ⟨g,0,ZX⟩) N N] w λe w'=>e=Z3 (Z7 Z8 (fI R N:Nat))/\bW w w':=by
 have q:=d.lt;have z:=Ed;go_enter func98,ntmps98;go_wp2_with fail;go_loopw [2,9] (λs i wr=>Ty w R N s i wr) (λ_ i _=>N-(intOf i).toNat)
 case atStart=>exact ⟨0,XV _,rfl,rfl,Below.refl _ _⟩
 case round=>
  obtain ⟨k,y,rfl,rfl,b⟩:=hrel;by_cases v:k<N
  . have j:wr.rowIs g 219 N (λi=>pt (R i)):=d.of_block (b.block g q);have c:=j.cell (i:=k) v;have a:fI R (k+1)=K8 (fI R k) k (R k):=rfl;have h:=ue R k (by omega);have p:fI R k<18446744073709551616:=Nat.lt_trans h (JK (by omega));have m:=b.size;cases h4:R k with
    | none=>
     have o:=zK;rw [h4] at c a;simp only [pt] at c;have H:=hide2 b a;clear b j a h d;go_wp2;refine ⟨⟨k+1,by omega,by go_num,by rw [H.out.2];rfl,H.out.1.alloc m _⟩,by simp [intOf];omega⟩
    | some r=>
     cases r with
     | shard l=>
      have o:=kV 217 (by decide);rw [h4] at c a;simp only [pt,br] at c;have H:=hide2 b a;clear b j a h d;go_wp2;refine ⟨⟨k+1,by omega,by go_num,by rw [H.out.2];rfl,H.out.1.alloc m _⟩,by simp [intOf];omega⟩
     | filled=>
      have o:=kV 174 (by decide);rw [h4] at c a;simp only [pt,br] at c;have H:=hide2 b a;clear b j a h d;go_wp2;refine ⟨⟨k+1,by omega,by go_num,by rw [H.out.2];rfl,H.out.1.alloc m _⟩,by simp [intOf];omega⟩
     | root D L G t f n=>
      have o:=kV 117 (by decide);rw [h4] at c a;simp only [pt,br] at c;have H:=hide2 b a;clear b j a h d;go_wp2;refine ⟨⟨k+1,by omega,by go_num,by rw [H.out.2];rfl,H.out.1.alloc m _⟩,by simp [intOf];omega⟩
     | blank=>
      have o:=K9;rw [h4] at c a;simp only [pt,br] at c;have H:=hide2 b a;clear b j a h d;go_wp2_with fail;refine (iM _ k p (by omega) _).mono ?_;rintro e w2 ⟨rfl,rfl⟩;go_wp2;refine ⟨⟨k+1,by omega,by go_num,by rw [H.out.2];rfl,H.out.1.alloc m _⟩,by simp [intOf];omega⟩
  . have u:k=N:=(by omega);subst u;have H:=hide b;clear b d;go_wp2;go_ret;exact ⟨rfl,H.out⟩
def Tz (w:ZT) (R:Nat->Option aX) (N:Nat) (i:ZS) (wr:ZT):Prop:=∃ k:Nat,k<=N/\i=Z7 Z9 k/\wr.heap[w.heap.size]?=ZW (Z4 (Hl (cy R k)) 117 (0,0))/\bW w wr
theorem zL (R:Nat->Option aX) (W:N<=60) (m:w.rowIs g 219 N (λi=>pt (R i))) :
 ZR ZQ 95 #[Z5 (ZW ⟨g,0,ZX⟩) N N] w λe w'=>e=Z3 (.agg (Hl (cy R N)))/\bW w w':=by
 have P:=m.lt;have E:(w.alloc (Z4 (aQ 0 0 0 0 0 0) 117)).heap[w.heap.size]?=ZW (Z4 (Hl (cy R 0)) 117 (0,0)):=blk_alloc_new _ _;have I:bW w (w.alloc (Z4 (aQ 0 0 0 0 0 0) 117)):=bA w _;have X:=xw;go_enter func95,ntmps95;go_wp2_with fail;go_loopw [9] (λi wr=>Tz w R N i wr) (λi _=>N-(intOf i).toNat)
 case atStart=>exact ⟨0,XV _,rfl,E,I⟩
 case round=>
  clear E I;obtain ⟨k,u,rfl,d,a⟩:=hrel;by_cases S:k<N
  . have o:wr.rowIs g 219 N (λi=>pt (R i)):=m.of_block (a.block g P);have c:=o.cell (i:=k) S;have hl:cy R (k+1)=ud (cy R k) (R k):=rfl;have K:=a.size;have F:w.heap.size<wr.heap.size:=(XH.1 d).1;have j:(fJ wr 0 0 0 0 0 0).heap[w.heap.size]?=ZW (Z4 (Hl (cy R k)) 117 (0,0)):=((eW wr 0 0 0 0 0 0).block _ F).trans d;have h:bW w (fJ wr 0 0 0 0 0 0):=a.trans ((eW wr 0 0 0 0 0 0).mono K);cases h7:R k with
    | none=>
     have y:=BE;rw [h7] at c hl;simp only [pt] at c;have H:=hide3 j h hl;clear d a o hl m j h;go_wp2_with (show wpList _ _ _ ({ dst:=ZX,op:=Op.store 117 (Z1 5) (Z1 16),type:=_,pos:=_,after:=_,guard:=_ }::_) _ _;refine nU (w:=wr) (D:=0) (L:=0) (G:=0) (t:=0) (f:=0) (n:=0) rfl (Z1 5) (Z1 16) rfl (by rfl) (by rfl) ?_);refine ⟨⟨k+1,by omega,by go_num,by rw [H.out.2.2];exact H.out.1,H.out.2.1⟩,by simp [intOf];omega⟩
    | some r=>
     cases r with
     | shard l=>
      have y:=lY 217 (by decide);rw [h7] at c hl;simp only [pt,br] at c;have H:=hide3 j h hl;clear d a o hl m j h;go_wp2_with (show wpList _ _ _ ({ dst:=ZX,op:=Op.store 117 (Z1 5) (Z1 16),type:=_,pos:=_,after:=_,guard:=_ }::_) _ _;refine nU (w:=wr) (D:=0) (L:=0) (G:=0) (t:=0) (f:=0) (n:=0) rfl (Z1 5) (Z1 16) rfl (by rfl) (by rfl) ?_);refine ⟨⟨k+1,by omega,by go_num,by rw [H.out.2.2];exact H.out.1,H.out.2.1⟩,by simp [intOf];omega⟩
     | blank=>
      have y:=lY 235 (by decide);rw [h7] at c hl;simp only [pt,br] at c;have H:=hide3 j h hl;clear d a o hl m j h;go_wp2_with (show wpList _ _ _ ({ dst:=ZX,op:=Op.store 117 (Z1 5) (Z1 16),type:=_,pos:=_,after:=_,guard:=_ }::_) _ _;refine nU (w:=wr) (D:=0) (L:=0) (G:=0) (t:=0) (f:=0) (n:=0) rfl (Z1 5) (Z1 16) rfl (by rfl) (by rfl) ?_);refine ⟨⟨k+1,by omega,by go_num,by rw [H.out.2.2];exact H.out.1,H.out.2.1⟩,by simp [intOf];omega⟩
     | filled=>
      have y:=lY 174 (by decide);rw [h7] at c hl;simp only [pt,br] at c;have H:=hide3 j h hl;clear d a o hl m j h;go_wp2_with (show wpList _ _ _ ({ dst:=ZX,op:=Op.store 117 (Z1 5) (Z1 16),type:=_,pos:=_,after:=_,guard:=_ }::_) _ _;refine nU (w:=wr) (D:=0) (L:=0) (G:=0) (t:=0) (f:=0) (n:=0) rfl (Z1 5) (Z1 16) rfl (by rfl) (by rfl) ?_);refine ⟨⟨k+1,by omega,by go_num,by rw [H.out.2.2];exact H.out.1,H.out.2.1⟩,by simp [intOf];omega⟩
     | root D L G t f n=>
      have y:=Nf;rw [h7] at c hl;simp only [pt,br] at c;have s:=ug wr D L G t f n;have p:(fJ wr D L G t f n).heap[w.heap.size]?=ZW (Z4 (Hl (cy R k)) 117 (0,0)):=((eW wr D L G t f n).block _ F).trans d;have z:bW w (fJ wr D L G t f n):=a.trans ((eW wr D L G t f n).mono K);obtain ⟨M,A⟩:=nM (fJ wr D L G t f n);rw [A] at s p z;have V:M.cell? ⟨wr.heap.size,3,ZX⟩=ZW (Z7 Z8 t):=(by simp [World.cell?,s,aQ]);have U:M.cell? ⟨w.heap.size,3,ZX⟩=ZW (Z7 Z8 (cy R k).t):=(by simp [World.cell?,p,Hl,aQ]);have H:=hide5 A s p z hl;clear d a o hl m A s p z j h;by_cases J:(cy R k).t<t
      . go_wp2_with (first|(show wpList _ _ _ ({ dst:=ZX,op:=Op.store 117 (Z1 5) (Z1 16),type:=_,pos:=_,after:=_,guard:=_ }::_) _ _;refine nU (w:=wr) (D:=D) (L:=L) (G:=G) (t:=t) (f:=f) (n:=n) rfl (Z1 5) (Z1 16) rfl (by rfl) (by rfl) ?_;rw [H.out.1])|(show wpList _ _ _ ({ dst:=ZW 26,op:=_,type:=_,pos:=_,after:=_,guard:=_ }::_) _ _;refine zB (D:=D) (L:=L) (G:=G) (t:=t) (f:=f) (n:=n) (b:=wr.heap.size) rfl (Z1 5) rfl rfl (by rfl) (by exact H.out.2.1) ?_)|(show wpList _ _ _ ({ dst:=ZX,op:=Op.store 117 (Z1 2) (Z1 26),type:=_,pos:=_,after:=_,guard:=_ }::_) _ _;refine uf (D:=D) (L:=L) (G:=G) (t:=t) (f:=f) (n:=n) (b:=w.heap.size) (cs:=Hl (cy R k)) rfl (Z1 2) (Z1 26) rfl (by rfl) (by rfl) (by exact H.out.2.2.1) rfl ?_));obtain ⟨_,T,B,x,C⟩:=H.out;refine ⟨⟨k+1,by omega,by go_num,?_,x.trans ⟨rfl,rfl,rfl,by rw [gn];exact XR _,λk u=>(aI _ _ _).block k (XU u x.size) (λq=>by have:=XM q;omega)⟩⟩,by simp [intOf];omega⟩;rw [C];rw [show ud (cy R k) (ZW (.root D L G t f n))=⟨D,L,G,t,f,n⟩ from if_pos J];exact setRow_heap _ _ _ _ _ _ B
      . go_wp2_with (show wpList _ _ _ ({ dst:=ZX,op:=Op.store 117 (Z1 5) (Z1 16),type:=_,pos:=_,after:=_,guard:=_ }::_) _ _;refine nU (w:=wr) (D:=D) (L:=L) (G:=G) (t:=t) (f:=f) (n:=n) rfl (Z1 5) (Z1 16) rfl (by rfl) (by rfl) ?_;rw [H.out.1]);obtain ⟨_,T,B,x,C⟩:=H.out;refine ⟨⟨k+1,by omega,by go_num,?_,x⟩,by simp [intOf];omega⟩;rw [C];rw [show ud (cy R k) (ZW (.root D L G t f n))=cy R k from if_neg J];exact B
  . have Q:k=N:=(by omega);subst Q;have H:=hide2 d a;clear d a m;go_wp2_with (first|(show wpList _ _ _ ({ dst:=ZW 28,op:=_,type:=_,pos:=_,after:=_,guard:=_ }::_) _ _;refine zB (b:=w.heap.size) (ra:=Hl (cy R k)) rfl (Z1 2) rfl rfl (by rfl) (by exact H.out.1) ?_)|(show wpList _ _ _ ({ dst:=ZX,op:=Op.store 117 (Z1 2) (Z1 28),type:=_,pos:=_,after:=_,guard:=_ }::_) _ _;refine uf (b:=w.heap.size) (cs:=Hl (cy R k)) (D:=(cy R k).D) (L:=(cy R k).L) (G:=(cy R k).G) (t:=(cy R k).t) (f:=(cy R k).f) (n:=(cy R k).n) rfl (Z1 2) (Z1 28) rfl (by rfl) (by rfl) (by exact H.out.1) rfl ?_));have O:=setRow_heap _ _ _ (Hl (cy R k)) _ _ H.out.1;refine bodyPost_ret (v:=.agg (Hl (cy R k))) (results_cell_row results95 _ _ w.heap.size 117 (Hl (cy R k)) (0,0) _ rfl O underlying117 rfl (nQ _ _ _ _ _ _)) rfl ?_;exact ⟨rfl,H.out.2.trans ⟨rfl,rfl,rfl,by rw [gn];exact XR _,λk u=>(aI _ _ _).block k (XU u H.out.2.size) (λq=>by have:=XM q;omega)⟩⟩
def Hm (s:Nat) (w:ZT) (ad:Addr) (u:ZS) (Dn:Nat->Bool) (w':ZT):Prop:=w'=if Dn s=ZV then w.drew.setCell ad u else w.drew
def ea (h:Hm s w ad u Dn w') (i:Nat) (a:s≠i):Hm s w ad u (dR Dn i) w':=by unfold Hm;rw [jB a];exact h
theorem j3 (h:Hm s w ad u Dn w') {a:Addr} (c:a.block≠ad.block) {v:ZS} (b:w.cell? a=ZW v):w'.cell? a=ZW v:=by
 unfold Hm at h;subst h;split
 . exact (World.cell?_of_block (blk_setCell_other _ _ _ _ c)).trans b
 . exact b
def px (h:Hm s w ad u Dn w') (a:Dn s=ZU):w'=w.drew:=by
 unfold Hm at h;rwa [if_neg (by rw [a];decide)] at h
def BF (h:Hm s w ad u Dn w') (a:Dn s=ZV):w'=w.drew.setCell ad u:=by
 unfold Hm at h;rwa [if_pos a] at h
noncomputable def SR:Array Oper:=((Tryz.f126.body.bind (mW · 13))).getD #[]
def Q2:List (Op×Option Nat×List Nat):=[(Op.load 144 (Z1 2),ZW 76,[]),
 (Op.nilCheck (Z1 76),ZW 77,[0]),
 (Op.fieldAddr 196 (Z1 77) 0,ZW 78,[1]),
 (Op.load 115 (Z1 78),ZW 79,[2]),
 (Op.load 144 (Z1 2),ZW 80,[]),
 (Op.nilCheck (Z1 80),ZW 81,[4]),
 (Op.fieldAddr 196 (Z1 81) 0,ZW 82,[5]),
 (Op.load 115 (Z1 82),ZW 83,[6]),
 (Op.nilCheck (Z1 83),ZW 84,[7]),
 (Op.fieldAddr 130 (Z1 84) 3,ZW 85,[8]),
 (Op.load 124 (Z1 85),ZW 86,[9]),
 (Op.move (Z1 4),ZW 87,[]),
 (Op.call { callee:=Callee.value (Operand.func 131),args:=#[Z1 86,Z1 87],argTypes:=#[124,3] },ZW 88,[10,11]),
 (Op.nilCheck (Z1 79),ZW 89,[3,0,1,2,3,4,5,6,7,8,9,10,11,12]),
 (Op.fieldAddr 130 (Z1 89) 3,ZW 90,[13,0,1,2,3,4,5,6,7,8,9,10,11,12]),
 (Op.store 124 (Z1 90) (Z1 88),ZX,[14,12,12,0,1,2,3,4,5,6,7,8,9,10,11,12])]
def Hn:aN SR 76 91 Q2:=bx (by kernel_rfl) (by kernel_rfl)
def PJ (r v x hol:Nat):List ZS:=[Z6 (ZW ⟨r,0,ZX⟩),Z6 (ZW ⟨r,0,ZX⟩),Z6 (ZW ⟨r,0,ZX⟩),Z6 (ZW ⟨v,0,ZX⟩),Z6 (ZW ⟨r,0,ZX⟩),Z6 (ZW ⟨r,0,ZX⟩),Z6 (ZW ⟨r,0,ZX⟩),Z6 (ZW ⟨v,0,ZX⟩),Z6 (ZW ⟨v,0,ZX⟩),Z6 (ZW ⟨v,5,ZX⟩),Z7 Z8 hol,Z7 Z9 x,Z7 Z8 ((hol|||2^x:Nat):Int),Z6 (ZW ⟨v,0,ZX⟩),Z6 (ZW ⟨v,5,ZX⟩),ZY]
theorem uh {l:Nat} {hol b:Nat} (O:bt w v p D L G ps hol) (U:Boxed w q 144 (Z6 (ZW ⟨r,0,ZX⟩))) (hr:ew w r v b g N gone sp) (x:Nat) (hx:x<=60) (Y:hol<18446744073709551616) (K:q≠v) (M:r≠v) (V:SR=ops) (hj:a.tmps.size=100)
 (J:a.eval (Z1 2)=Z6 (ZW ⟨q,0,ZX⟩)) (R:a.eval (Z1 4)=Z7 Z9 x)
 (W:∀ (w':ZT),w'=w.drew.setCell ⟨v,5,ZX⟩ (Z7 Z8 ((hol|||2^x:Nat):Int))->Q .normal (Act.putFrom a 76 [Z6 (ZW ⟨r,0,ZX⟩),Z6 (ZW ⟨r,0,ZX⟩),Z6 (ZW ⟨r,0,ZX⟩),Z6 (ZW ⟨v,0,ZX⟩),Z6 (ZW ⟨r,0,ZX⟩),Z6 (ZW ⟨r,0,ZX⟩),Z6 (ZW ⟨r,0,ZX⟩),Z6 (ZW ⟨v,0,ZX⟩),Z6 (ZW ⟨v,0,ZX⟩),Z6 (ZW ⟨v,5,ZX⟩),Z7 Z8 hol,Z7 Z9 x,Z7 Z8 ((hol|||2^x:Nat):Int),Z6 (ZW ⟨v,0,ZX⟩),Z6 (ZW ⟨v,5,ZX⟩)]) w'):(Code.region 13 ops ZV).wpIn (Fence.wide.inRound l) n ZQ Q a w:=by
 subst V;have H:=U.cell;have I:=hr.cells.1;have F:=O.cells.2.2.2.2.2;have S:w.frozen? ⟨v,5,ZX⟩=ZU:=by
  have T:w.heap[v]?=_:=O;simp [World.frozen?,T]
 refine dO (by kernel_rfl) Hn a w (by omega) (λi u _=>u=(PJ r v x hol).getD i ZY) (Hm 15 w ⟨v,5,ZX⟩ (Z7 Z8 ((hol|||2^x:Nat):Int))) rfl ?_ ?_
 . intro i E;match i,E with
   | 0,_=>
    intro o k w' Dn B ho s t y A m j d;have u0:k.eval (Z1 2)=Z6 (ZW ⟨q,0,ZX⟩):=(t.slot 2 (by omega)).trans J;have C:=j3 j (a:=⟨q,0,ZX⟩) K H;exact aU (v:=Z6 (ZW ⟨r,0,ZX⟩)) (by simp only [execOp,show o.op=Op.load 144 (Z1 2) from ho,u0];go_simp) (by rw [ho];intro c h;cases h) s ⟨ea j 0 (by decide),rfl,kq⟩
   | 1,_|2,_|5,_|6,_|8,_|9,_|13,_|14,_=>
    intro o k w' Dn B ho s t y A m j d;have u0:=d _ (m _ (.head _));simp only [Q2,PJ,bZ,cT,pM,pL] at ho u0;exact aU (by simp only [execOp,ho,u0,PJ,pM,pL];go_simp) (by rw [ho];intro c h;cases h) s ⟨ea j _ (by decide),rfl,kq⟩
   | 3,_=>
    intro o k w' Dn B ho s t y A m j d;have u0:k.eval (Z1 78)=Z6 (ZW ⟨r,0,ZX⟩):=d 2 (m 2 (by decide));have C:=j3 j (a:=⟨r,0,ZX⟩) M I;exact aU (v:=Z6 (ZW ⟨v,0,ZX⟩)) (by simp only [execOp,show o.op=Op.load 115 (Z1 78) from ho,u0];go_simp) (by rw [ho];intro c h;cases h) s ⟨ea j 3 (by decide),rfl,kq⟩
   | 4,_=>
    intro o k w' Dn B ho s t y A m j d;have u0:k.eval (Z1 2)=Z6 (ZW ⟨q,0,ZX⟩):=(t.slot 2 (by omega)).trans J;have C:=j3 j (a:=⟨q,0,ZX⟩) K H;exact aU (v:=Z6 (ZW ⟨r,0,ZX⟩)) (by simp only [execOp,show o.op=Op.load 144 (Z1 2) from ho,u0];go_simp) (by rw [ho];intro c h;cases h) s ⟨ea j 4 (by decide),rfl,kq⟩
   | 7,_=>
    intro o k w' Dn B ho s t y A m j d;have u0:k.eval (Z1 82)=Z6 (ZW ⟨r,0,ZX⟩):=d 6 (m 6 (by decide));have C:=j3 j (a:=⟨r,0,ZX⟩) M I;exact aU (v:=Z6 (ZW ⟨v,0,ZX⟩)) (by simp only [execOp,show o.op=Op.load 115 (Z1 82) from ho,u0];go_simp) (by rw [ho];intro c h;cases h) s ⟨ea j 7 (by decide),rfl,kq⟩
   | 10,_=>
    intro o k w' Dn B ho s t y A m j d;have u0:k.eval (Z1 85)=Z6 (ZW ⟨v,5,ZX⟩):=d 9 (m 9 (by decide));have hf:Dn 15=ZU:=by
     cases e:Dn 15 with
     | false=>rfl
     | true=>exact absurd ((A 15 e).2 10 (by decide)) (by rw [y];decide)
    have hh:=px j hf;have C:w'.cell? ⟨v,5,ZX⟩=ZW (Z7 Z8 hol):=(by rw [hh];exact F);exact aU (v:=Z7 Z8 hol) (by simp only [execOp,show o.op=Op.load 124 (Z1 85) from ho,u0];go_simp) (by rw [ho];intro c h;cases h) s ⟨ea j 10 (by decide),rfl,kq⟩
   | 11,_=>
    intro o k w' Dn B ho s t y A m j d;have u0:k.eval (Z1 4)=Z7 Z9 x:=(t.slot 4 (by omega)).trans R;exact aU (ag ho u0 w') (by rw [ho];intro c h;cases h) s ⟨ea j 11 (by decide),rfl,kq⟩
   | 12,_=>
    intro o k w' Dn B ho s t y A m j d;have u0:k.eval (Z1 86)=Z7 Z8 hol:=d 10 (m 10 (by decide));have u1:k.eval (Z1 87)=Z7 Z9 x:=d 11 (m 11 (by decide));refine oD (f:=131) (args:=#[Z7 Z8 hol,Z7 Z9 x]) (w1:=w') (by simp only [execOp,show o.op=Op.call { callee:=Callee.value (Operand.func 131),args:=#[Z1 86,Z1 87],argTypes:=#[124,3] } from ho];go_simp;exact ⟨by simpa [Act.eval] using u0,by simpa [Act.eval] using u1⟩) (by rw [ho];intro c h;cases h) s (iM hol x Y hx w') ?_;rintro e hb ⟨rfl,rfl⟩;exact ⟨_,rfl,ea j 12 (by decide),rfl,kq⟩
   | 15,_=>
    intro o k w' Dn B ho s t y A m j d;have u0:k.eval (Z1 90)=Z6 (ZW ⟨v,5,ZX⟩):=d 14 (m 14 (by decide));have u1:k.eval (Z1 88)=Z7 Z8 ((hol|||2^x:Nat):Int):=d 12 (m 12 (by decide));have hw:=px j y;subst hw;have C:w.drew.cell? ⟨v,5,ZX⟩=ZW (Z7 Z8 hol):=F;have ff:w.drew.frozen? ⟨v,5,ZX⟩=ZU:=S;obtain ⟨z,P⟩:=nM (((hol|||2^x:Nat):Int));rw [P] at u1;refine sU (w':=w.drew.setCell ⟨v,5,ZX⟩ (Z7 Z8 z)) (by simp only [execOp,show o.op=Op.store 124 (Z1 90) (Z1 88) from ho,u0,u1];go_simp) (by rw [ho];intro c h;cases h) ⟨?_,rfl,kq⟩;unfold Hm;rw [if_pos kI,P]
   | n+16,hn=>exact absurd hn (by show ¬ n+16<16;omega)
 . rintro k w' Z h9 ⟨Dn,X,j⟩ d;have e:k=Act.putFrom a 76 [Z6 (ZW ⟨r,0,ZX⟩),Z6 (ZW ⟨r,0,ZX⟩),Z6 (ZW ⟨r,0,ZX⟩),Z6 (ZW ⟨v,0,ZX⟩),Z6 (ZW ⟨r,0,ZX⟩),Z6 (ZW ⟨r,0,ZX⟩),Z6 (ZW ⟨r,0,ZX⟩),Z6 (ZW ⟨v,0,ZX⟩),Z6 (ZW ⟨v,0,ZX⟩),Z6 (ZW ⟨v,5,ZX⟩),Z7 Z8 hol,Z7 Z9 x,Z7 Z8 ((hol|||2^x:Nat):Int),Z6 (ZW ⟨v,0,ZX⟩),Z6 (ZW ⟨v,5,ZX⟩)]:=Z.out _ rfl (by omega) (λi E=>?_)
   . rw [e];exact W w' (BF j (X 15 (by decide)))
   . match i,E with
     | 0,_=>exact d 0 (by decide)
     | 1,_=>exact d 1 (by decide)
     | 2,_=>exact d 2 (by decide)
     | 3,_=>exact d 3 (by decide)
     | 4,_=>exact d 4 (by decide)
     | 5,_=>exact d 5 (by decide)
     | 6,_=>exact d 6 (by decide)
     | 7,_=>exact d 7 (by decide)
     | 8,_=>exact d 8 (by decide)
     | 9,_=>exact d 9 (by decide)
     | 10,_=>exact d 10 (by decide)
     | 11,_=>exact d 11 (by decide)
     | 12,_=>exact d 12 (by decide)
     | 13,_=>exact d 13 (by decide)
     | 14,_=>exact d 14 (by decide)
     | n+15,hn=>exact absurd hn (by simp)
noncomputable def SS:Array Oper:=((Tryz.f126.body.bind (mW · 14))).getD #[]
def Q3:List (Op×Option Nat×List Nat):=[(Op.load 144 (Z1 2),ZW 91,[]),
 (Op.load 144 (Z1 2),ZW 92,[]),
 (Op.nilCheck (Z1 92),ZW 93,[1]),
 (Op.fieldAddr 196 (Z1 93) 3,ZW 94,[2]),
 (Op.load 124 (Z1 94),ZW 95,[3]),
 (Op.move (Z1 4),ZW 96,[]),
 (Op.call { callee:=Callee.value (Operand.func 131),args:=#[Z1 95,Z1 96],argTypes:=#[124,3] },ZW 97,[4,5]),
 (Op.nilCheck (Z1 91),ZW 98,[0,0,1,2,3,4,5,6]),
 (Op.fieldAddr 196 (Z1 98) 3,ZW 99,[7,0,1,2,3,4,5,6]),
 (Op.store 124 (Z1 99) (Z1 97),ZX,[8,6,6,0,1,2,3,4,5,6])]
def Ho:aN SS 91 100 Q3:=bx (by kernel_rfl) (by kernel_rfl)
def PK (r x gone:Nat):List ZS:=[Z6 (ZW ⟨r,0,ZX⟩),Z6 (ZW ⟨r,0,ZX⟩),Z6 (ZW ⟨r,0,ZX⟩),Z6 (ZW ⟨r,3,ZX⟩),Z7 Z8 gone,Z7 Z9 x,Z7 Z8 ((gone|||2^x:Nat):Int),Z6 (ZW ⟨r,0,ZX⟩),Z6 (ZW ⟨r,3,ZX⟩),ZY]
theorem ui {l:Nat} {b:Nat} (L:Boxed w q 144 (Z6 (ZW ⟨r,0,ZX⟩))) (hr:ew w r v b g N gone sp) (x:Nat) (W:x<=60) (R:gone<18446744073709551616) (G:q≠r) (M:SS=ops) (hh:a.tmps.size=100)
 (F:a.eval (Z1 2)=Z6 (ZW ⟨q,0,ZX⟩)) (I:a.eval (Z1 4)=Z7 Z9 x)
 (P:∀ (w':ZT),w'=w.drew.setCell ⟨r,3,ZX⟩ (Z7 Z8 ((gone|||2^x:Nat):Int))->Q .normal (Act.putFrom a 91 [Z6 (ZW ⟨r,0,ZX⟩),Z6 (ZW ⟨r,0,ZX⟩),Z6 (ZW ⟨r,0,ZX⟩),Z6 (ZW ⟨r,3,ZX⟩),Z7 Z8 gone,Z7 Z9 x,Z7 Z8 ((gone|||2^x:Nat):Int),Z6 (ZW ⟨r,0,ZX⟩),Z6 (ZW ⟨r,3,ZX⟩)]) w'):(Code.region 14 ops ZV).wpIn (Fence.wide.inRound l) n ZQ Q a w:=by
 subst M;have E:=L.cell;have D:=hr.cells.2.2.2.1;have J:w.frozen? ⟨r,3,ZX⟩=ZU:=by
  have K:w.heap[r]?=_:=hr;simp [World.frozen?,K]
 refine dO (by kernel_rfl) Ho a w (by omega) (λi u _=>u=(PK r x gone).getD i ZY) (Hm 9 w ⟨r,3,ZX⟩ (Z7 Z8 ((gone|||2^x:Nat):Int))) rfl ?_ ?_
 . intro i C;match i,C with
   | 0,_=>
    intro o k w' Dn A ho p s t y m j d;have u0:k.eval (Z1 2)=Z6 (ZW ⟨q,0,ZX⟩):=(s.slot 2 (by omega)).trans F;have B:=j3 j (a:=⟨q,0,ZX⟩) G E;exact aU (v:=Z6 (ZW ⟨r,0,ZX⟩)) (by simp only [execOp,show o.op=Op.load 144 (Z1 2) from ho,u0];go_simp) (by rw [ho];intro c h;cases h) p ⟨ea j 0 (by decide),rfl,kq⟩
   | 1,_=>
    intro o k w' Dn A ho p s t y m j d;have u0:k.eval (Z1 2)=Z6 (ZW ⟨q,0,ZX⟩):=(s.slot 2 (by omega)).trans F;have B:=j3 j (a:=⟨q,0,ZX⟩) G E;exact aU (v:=Z6 (ZW ⟨r,0,ZX⟩)) (by simp only [execOp,show o.op=Op.load 144 (Z1 2) from ho,u0];go_simp) (by rw [ho];intro c h;cases h) p ⟨ea j 1 (by decide),rfl,kq⟩
   | 2,_|3,_|7,_|8,_=>
    intro o k w' Dn A ho p s t y m j d;have u0:=d _ (m _ (.head _));simp only [Q3,PK,bZ,cT,pM,pL] at ho u0;exact aU (by simp only [execOp,ho,u0,PK,pM,pL];go_simp) (by rw [ho];intro c h;cases h) p ⟨ea j _ (by decide),rfl,kq⟩
   | 4,_=>
    intro o k w' Dn A ho p s t y m j d;have u0:k.eval (Z1 94)=Z6 (ZW ⟨r,3,ZX⟩):=d 3 (m 3 (by decide));have T:Dn 9=ZU:=by
     cases e:Dn 9 with
     | false=>rfl
     | true=>exact absurd ((y 9 e).2 4 (by decide)) (by rw [t];decide)
    have U:=px j T;have B:w'.cell? ⟨r,3,ZX⟩=ZW (Z7 Z8 gone):=(by rw [U];exact D);exact aU (v:=Z7 Z8 gone) (by simp only [execOp,show o.op=Op.load 124 (Z1 94) from ho,u0];go_simp) (by rw [ho];intro c h;cases h) p ⟨ea j 4 (by decide),rfl,kq⟩
   | 5,_=>
    intro o k w' Dn A ho p s t y m j d;have u0:k.eval (Z1 4)=Z7 Z9 x:=(s.slot 4 (by omega)).trans I;exact aU (ag ho u0 w') (by rw [ho];intro c h;cases h) p ⟨ea j 5 (by decide),rfl,kq⟩
   | 6,_=>
    intro o k w' Dn A ho p s t y m j d;have u0:k.eval (Z1 95)=Z7 Z8 gone:=d 4 (m 4 (by decide));have u1:k.eval (Z1 96)=Z7 Z9 x:=d 5 (m 5 (by decide));refine oD (f:=131) (args:=#[Z7 Z8 gone,Z7 Z9 x]) (w1:=w') (by simp only [execOp,show o.op=Op.call { callee:=Callee.value (Operand.func 131),args:=#[Z1 95,Z1 96],argTypes:=#[124,3] } from ho];go_simp;exact ⟨by simpa [Act.eval] using u0,by simpa [Act.eval] using u1⟩) (by rw [ho];intro c h;cases h) p (iM gone x R W w') ?_;rintro e X ⟨rfl,rfl⟩;exact ⟨_,rfl,ea j 6 (by decide),rfl,kq⟩
   | 9,_=>
    intro o k w' Dn A ho p s t y m j d;have u0:k.eval (Z1 99)=Z6 (ZW ⟨r,3,ZX⟩):=d 8 (m 8 (by decide));have u1:k.eval (Z1 97)=Z7 Z8 ((gone|||2^x:Nat):Int):=d 6 (m 6 (by decide));have V:=px j t;subst V;have B:w.drew.cell? ⟨r,3,ZX⟩=ZW (Z7 Z8 gone):=D;have Y:w.drew.frozen? ⟨r,3,ZX⟩=ZU:=J;obtain ⟨z,H⟩:=nM (((gone|||2^x:Nat):Int));rw [H] at u1;refine sU (w':=w.drew.setCell ⟨r,3,ZX⟩ (Z7 Z8 z)) (by simp only [execOp,show o.op=Op.store 124 (Z1 99) (Z1 97) from ho,u0,u1];go_simp) (by rw [ho];intro c h;cases h) ⟨?_,rfl,kq⟩;unfold Hm;rw [if_pos kI,H]
   | n+10,hn=>exact absurd hn (by show ¬ n+10<10;omega)
 . rintro k w' S Z ⟨Dn,O,j⟩ d;have e:k=Act.putFrom a 91 [Z6 (ZW ⟨r,0,ZX⟩),Z6 (ZW ⟨r,0,ZX⟩),Z6 (ZW ⟨r,0,ZX⟩),Z6 (ZW ⟨r,3,ZX⟩),Z7 Z8 gone,Z7 Z9 x,Z7 Z8 ((gone|||2^x:Nat):Int),Z6 (ZW ⟨r,0,ZX⟩),Z6 (ZW ⟨r,3,ZX⟩)]:=S.out _ rfl (by omega) (λi C=>?_)
   . rw [e];exact P w' (BF j (O 9 (by decide)))
   . match i,C with
     | 0,_=>exact d 0 (by decide)
     | 1,_=>exact d 1 (by decide)
     | 2,_=>exact d 2 (by decide)
     | 3,_=>exact d 3 (by decide)
     | 4,_=>exact d 4 (by decide)
     | 5,_=>exact d 5 (by decide)
     | 6,_=>exact d 6 (by decide)
     | 7,_=>exact d 7 (by decide)
     | 8,_=>exact d 8 (by decide)
     | n+9,hn=>exact absurd hn (by simp)
section
attribute [local go_sem] Oper.semAt_some
def Le (v:ZS) (w:ZT):(Instr.typeAssert (.iface 217 v) 219 217 ZV).run ZQ w=.ok (ZZ #[v,Z2 ZV]) w:=by
 simp [Instr.typeAssert,run_underlying underlying217]
def Hs:(ZQ.info? 217).map (·.size)=ZW 44:=by kernel_rfl
def BL (w:ZT) (z:Array ZS) (c:z.size=44) (l:List Nat) (hl:l.length=44):(Instr.storeAt 217 (Z6 (ZW ⟨w.heap.size,0,ZX⟩)) (.agg (aH l).toArray)).run ZQ (w.alloc (Z4 z 217))=.ok () (w.alloc (Z4 (aH l).toArray 217)):=by
 have a:(aH l).toArray.size=44:=by rw [Yq,bp,hl]
 have:=run_storeVar_new (P:=ZQ) w 217 z (aH l).toArray (by rw [a];exact Hs) (by rw [a,c]) (by
  rw [List.all_toArray,List.all_eq_true];intro u b;obtain ⟨x,_,rfl⟩:=XZ.1 b;rfl)
 simp only [Instr.storeAt,Instr.sureAddr,Sem.run_bind,Sem.run_pure,Result.andThen_ok,this]
def zN {F:Fence} (d:o.guard=ZX) (x y:Operand) (ho:o.op=.store 217 x y) {z:Array ZS} {l:List Nat}
 (e:a.eval x=Z6 (ZW ⟨w.heap.size,0,ZX⟩)) (f:a.eval y=.agg (aH l).toArray) (g:z.size=44) (hl:l.length=44) (h:wpListIn F n ZQ ops Q rest (a.put o.dst ZY) (w.alloc (Z4 (aH l).toArray 217))):wpListIn F n ZQ ops Q (o::rest) a (w.alloc (Z4 z 217)):=by
 refine wpListIn_plain d λK b=>?_;unfold Oper.wpIn;refine ⟨by simp [Oper.about,ho],?_⟩;rw [Oper.semAt_plain F _ _ (by rw [ho];intro c h;cases h)];simp [execOp,ho,e,f,BL w z g l hl,Result.andThen];exact b _ _ h
def Lf {fn:Func} {Z:ZT} {R:Ending->ZT->Prop} (hr:fn.results=#[]) (b:a.defers=[{ target:=.collected D',args:=#[] }])
 (hK:Z.heap[D']?=ZW (.deferred (ZW []))) (hR:R (Z3 (ZZ #[])) (Z.putObj D' (.deferred ZX))):bodyPostM Fence.wide n ZQ fn R .normal a Z:=by
 obtain ⟨d,c⟩:=a;simp only at b;subst b;refine ⟨by simp,.inl ⟨_,_,rfl,run_takeDeferred hK,?_⟩⟩;refine ⟨ZZ #[],?_,hR⟩;simp [results,hr]
def ay.TJ (A:ay) (ds:List Nat):ay:={ A with reads:=λi=>if i∈ds then wrap64 (A.reads i+1) else A.reads i }
def ay.rd (A:ay) (r:Nat->Int):ay:={ A with reads:=r }
def uj (A:ay):A.TJ []=A:=by simp [ay.TJ]
theorem BM (A:ay) (ds:List Nat) (d:Nat) (b:d∉ds):(A.TJ ds).TI d (wrap64 ((A.TJ ds).reads d+1))=A.TJ (ds++[d]):=by
 unfold ay.TJ ay.TI;congr 1;funext i;simp only [XT,Yd];by_cases e:i=d
 . subst e;rw [if_pos rfl,if_neg b,if_pos (.inr rfl)]
 . rw [if_neg e];by_cases a:i∈ds
   . rw [if_pos a,if_pos (.inl a)]
   . rw [if_neg a,if_neg (λq=>q.elim a e)]
theorem El (A:ay) (ds:List Nat) (d:Nat) (b:d∈ds):A.TJ (ds++[d])=A.TJ ds:=by
 unfold ay.TJ;congr 1;funext i;simp only [XT,Yd];by_cases a:i∈ds
 . rw [if_pos a,if_pos (.inl a)]
 . rw [if_neg a,if_neg (λq=>q.elim a (λe=>a (by rw [e];exact b)))]
def ay.fit.TJ {A:ay} (h:A.fit) (ds:List Nat):(A.TJ ds).fit:=⟨h.n,h.nb,h.len,h.byt⟩
def Kn (w:ZT) (base:Nat) (f0 f:Nat->ZS) (R:Nat->List Nat) (ds:List Nat):Prop:=(∀ i,i∉ds->f i=f0 i)/\∀ i,i∈ds->∃ bl,f i=Z5 (ZW ⟨bl,0,ZX⟩) 44 44/\base<=bl/\bl<w.heap.size/\w.heap[bl]?=ZW (Z4 (aH (R i)).toArray 217 (0,0))
def Kn.keep {f:Nat->ZS} (h:Kn w base f0 f R ds) (d:w.heap.size<=w'.heap.size) (c:∀ k o,base<=k->w.heap[k]?=ZW o->o.isCells=ZV->w'.heap[k]?=ZW o):Kn w' base f0 f R ds:=by
 refine ⟨h.1,λi b=>?_⟩;obtain ⟨bl,e,a,g,j⟩:=h.2 i b;exact ⟨bl,e,a,XU g d,c bl _ a j rfl⟩
def Kn.nil (w:ZT) (base:Nat) (f0:Nat->ZS) (R:Nat->List Nat):Kn w base f0 f0 R []:=⟨λ_ _=>rfl,λ_ h=>by cases h⟩
def IR (S x:Nat):Nat:=S &&& (18446744073709551615-x)
def Fv (S x:Nat) (a:S<65536) (b:x<65536):bits .andNot .u64 (S:Int) (x:Int)=(IR S x:Int):=u64_andNot_nat S x (by omega) (by omega)
def Em {S:Nat} (x:Nat) (a:S<65536):IR S x<65536:=Nat.lt_of_le_of_lt Nat.and_le_left a
theorem sq {S:Nat} (d:x<65536):i∈ab (IR S x)↔i∈ab S/\x.testBit i=ZU:=by
 rw [bX,bX];unfold IR;have e:(18446744073709551615-x).testBit i=(decide (i<64) && !x.testBit i):=by
  have:=Nat.testBit_two_pow_sub_succ (x:=x) (n:=64) (by omega) i;rwa [show 2^64-(x+1)=18446744073709551615-x by omega] at this
 rw [Nat.testBit_and,e];constructor
 . rintro ⟨b,a⟩;simp at a;exact ⟨⟨b,a.1⟩,a.2.2⟩
 . rintro ⟨⟨b,a⟩,c⟩;refine ⟨b,?_⟩;simp [a,c];omega
def BN:Nat->ZS:=λ_=>Z5 ZX 0 0
def py (ds l:List Nat):List Nat:=l.filter λi=>decide (i∉ds)
def PL (h:i∈ds):py ds (l++[i])=py ds l:=by unfold py;rw [Ye];simp [h]
def iq (h:i∉ds):py ds (l++[i])=py ds l++[i]:=by unfold py;rw [Ye];simp [h]
def zO:i∈py ds l↔i∈l/\i∉ds:=by unfold py;rw [YH];simp
def mT (A:ay) (ds:List Nat):List Nat:=ds.filter λd=>!A.lost d
def BO (A:ay) (ds:List Nat) (d:Nat) (h:A.lost d=ZV):mT A (ds++[d])=mT A ds:=by unfold mT;rw [Ye];simp [h]
def zP (A:ay) (ds:List Nat) (d:Nat) (h:A.lost d=ZU):mT A (ds++[d])=mT A ds++[d]:=by unfold mT;rw [Ye];simp [h]
def mJ {A:ay}:d∈mT A ds↔d∈ds/\A.lost d=ZU:=by unfold mT;rw [YH];simp
structure Q5 (w:ZT) (r v b g N p D L G ps ho gone sp B0:Nat) (ds:List Nat) (A:ay) (F:bh) (R:Nat->List Nat) (B S:Nat) (pre:List (Mb S)) (X:ZT):Prop where
 b2:Boxed X w.heap.size 144 (Z6 (ZW ⟨r,0,ZX⟩))
 rd:ew X r v b g N (gone|||bH A (py ds (cE pre))) sp
 vol:bt X v p D L G ps (ho|||bH A (py ds (cE pre)))
 row:∃ f,X.rowIs g 34 N f/\Kn X B0 BN f R (ds++mT A (py ds (cE pre)))
 arr:aq X p (A.TJ (mT A (py ds (cE pre)))) F
 out:aa (λk=>k=g\/k=r\/k=v\/F.has p A.n k) w X
 size:B<=X.heap.size
theorem Q5.own {b:Nat} {A:ay} {S:Nat} (I:w.heap.size+1<=B) (J:g<w.heap.size) (hr:r<w.heap.size) (K:v<w.heap.size) (u:∀ k,F.has p A.n k->k<w.heap.size):OwnFrom B (Q5 w r v b g N p D L G ps ho gone sp B0 ds A F R B S):=by
 rintro pre X Y row ⟨j,l,H,⟨f,m,x⟩,q,s,t⟩ a i;have c:∀ k,k<w.heap.size+1->Y.heap[k]?=X.heap[k]?:=λk c=>a.block k (by omega) (λe=>by have:=(i k e.symm).1;omega);refine ⟨(c _ (by omega)).trans j,l.keep (c _ (by omega)),H.keep (c _ (by omega)),⟨f,m.of_block (c _ (by omega)),x.keep a.size λk o _ ho y=>?_⟩,q.keep λk z=>c k (by have:=u k z;omega),s.later (T:=λk=>w.heap.size<=k) ⟨a.os,a.tape,a.output,a.size,λk C E=>c k (by omega)⟩ (λk C E=>by omega),XN t a.size⟩;refine (a.block k (XH.1 ho).1 (λe=>?_)).trans ho;obtain ⟨_,M,h,d⟩:=i k e.symm;rw [ho] at h;cases h;rw [y] at d;cases d
def Lg:∃ z,∀ w:ZT,(Instr.typeAssert .nilIface 219 217 ZV).run ZQ w=.ok (ZZ #[z,Z2 ZU]) w:=by
 exact ⟨.agg (XJ 44 (Z7 .u8 0)).toArray,λw=>by kernel_rfl⟩
def Lh:∃ z,∀ w:ZT,(Instr.typeAssert .nilIface 219 235 ZV).run ZQ w=.ok (ZZ #[z,Z2 ZU]) w:=by
 exact ⟨.agg #[],λw=>by kernel_rfl⟩
structure PM (w:ZT) (r v b g N p D L G ps ho gone sp B0:Nat) (ds:List Nat) (A:ay) (F:bh) (R:Nat->List Nat) (nw:List Nat) (e:Ending) (w':ZT):Prop where
 ret:e=Z3 (ZZ #[])
 rd:ew w' r v b g N (gone|||bH A nw) sp
 vol:bt w' v p D L G ps (ho|||bH A nw)
 row:∃ f,w'.rowIs g 34 N f/\Kn w' B0 BN f R (ds++mT A nw)
 arr:aq w' p (A.TJ (mT A nw)) F
 out:aa (λk=>k=g\/k=r\/k=v\/F.has p A.n k) w w'
theorem Ht {b:Nat} {A:ay} (u:nF w v p D L G ps ho A F) (U:jT F p A.n v) (hf:A.fit) (hr:ew w r v b g N gone sp) (k9:w.rowIs g 34 N f0) (R:Nat->List Nat) (qk:Kn w B0 BN f0 R ds) (T:Nat) (hT:T<65536) (qh:gone<65536) (xg:sp<65536) (xn:∀ i,i∈ab T->i<N/\i<A.n) (hb:b<A.nb) (hw:A.wait≠0)
 (xz:ho<65536) (qq:v≠r) (yk:3<=r) (yo:3<=v) (qf:∀ i,i∈ab T->A.bad i b=ZU) (hR:∀ i,i∈ab T->(aX.shard (R i)).ok) (qg:∀ i,i∈ab T->A.blk i b=(aX.shard (R i)).blk) (xa:¬ F.has p A.n g) (qp:¬ F.has p A.n r) (qi:r≠g) (xb:v≠g) (yf:3<=g) (qb:B0<=w.heap.size) (ye:g<B0) (yj:r<B0) (yn:v<B0) (qc:∀ k,F.has p A.n k->k<B0) :
 ZR ZQ 126 #[Z6 (ZW ⟨r,0,ZX⟩),Z7 Z8 T] w (PM w r v b g N p D L G ps ho gone sp B0 ds A F R (py ds (ab (IR (IR T gone) sp)))):=by
 obtain ⟨S1,kj⟩:=nM (IR T gone);obtain ⟨S,q1⟩:=nM (IR S1 sp);have kp:=Fv T gone hT qh;have kr:=Fv S1 sp (by rw [<- kj];exact Em _ hT) xg;have hS:S<65536:=by rw [<- q1,<- kj];exact Em _ (Em _ hT)
 rw [kj] at kp ⊢;rw [q1] at kr ⊢;have x6:∀ i,i∈ab S->i∈ab T:=λi a=>by
  rw [<- q1] at a;have:=((sq xg).1 a).1;rw [<- kj] at this;exact ((sq qh).1 this).1
 clear kj q1;obtain ⟨n,HN⟩:∃ n:Nat,Hid (9<=n):=⟨9,XR _⟩;have q0:∀ k,F.has p A.n k->k<w.heap.size:=λk c=>XU (qc k c) qb;have xy:=k9.lt;have y2:=hr.lt;have y3:=u.vol.lt;have yb:2<3:=by decide
 have yc:1<3:=by decide
 refine (callsIn_wide (n:=n)).1 ?_;refine callsIn_of_wp_marks func126 rfl trivial ?_ rfl;simp only [ntmps126,Yq,Yx,List.length_nil,Nat.reduceAdd,Nat.reduceSub,Array.replicate_succ,Array.replicate_zero,List.push_toArray,List.append_toArray,Ym,List.cons_append];gi_wp2;obtain ⟨w1,kx⟩:=nM (w.alloc (Z4 #[Z6 (ZW ⟨r,0,ZX⟩)] 144));have h2:Boxed w1 w.heap.size 144 (Z6 (ZW ⟨r,0,ZX⟩)):=by rw [<- kx];exact Boxed.new w _ _
 have qz:w1.heap.size=w.heap.size+1:=by rw [<- kx];simp
 have q2:bW w w1:=by rw [<- kx];exact bA w _
 rw [kx];clear kx;have xf:=hr.keep (q2.block _ hr.lt);refine vD h2 xf kp kr (by kernel_rfl) rfl rfl rfl ?_;clear kp kr;intro Z q6;have x1:Z.heap.size=w1.heap.size+1:=by rw [q6];simp
 have x8:Z.cell? ⟨w1.heap.size,0,ZX⟩=ZW (Z7 Z8 (S:Int)):=by rw [q6];exact (Boxed.new w1.drew 124 (Z7 Z8 (S:Int))).cell
 have k6:bW w1 Z:=by rw [q6];exact (Below.refl _ w1).drew.alloc lR _
 have P:bW w Z:=q2.trans (k6.mono q2.size);have q3:py ds (cE ([]:List (Mb S)))=[]:=rfl;have xc:Q5 w r v b g N p D L G ps ho gone sp B0 ds A F R (w1.heap.size+1) S [] Z:=
  ⟨(k6.block _ h2.lt).trans h2,by rw [q3,show bH A []=0 from rfl,Nat.or_zero];exact hr.keep (P.block _ hr.lt),by rw [q3,show bH A []=0 from rfl,Nat.or_zero];exact u.vol.keep (P.block _ u.vol.lt),⟨f0,k9.of_block (P.block _ k9.lt),by rw [q3,show mT A []=[] from rfl,YC];exact qk.keep P.size λk o _ ho _=>(P.block k (XH.1 ho).1).trans ho⟩,by rw [q3,show mT A []=[] from rfl,uj];exact u.arr.below P lR,aa.TG P _,by omega⟩
 have xk:=hide x8;have q8:=hide2 xc P;have HZ:=hide2 qz x1;clear x8 xc h2 q2 P k6 xf q6 qz;rename_i hK
 refine hK _ _ ?_;clear hK;simp only [Act.putFrom,Act.put,XO,XP,XQ];gi_wp2;obtain ⟨qz,y6,x1⟩:w.heap.size+1<=w1.heap.size/\w1.heap.size<=w.heap.size+1/\Z.heap.size=w1.heap.size+1:=by have:=HZ.out;omega
 rw [<- x1] at q8;refine wpIn_rangeFunc_ownG rfl (by have:=HN.out;omega) (gf:=153) (lb:=#[Z6 (ZW ⟨w1.heap.size,0,ZX⟩)]) rfl trivial (enters_of func153 (by kernel_rfl) rfl)
  (nC (n-1) w1.heap.size S hS Z (by omega) xk.out (by have:=u.room;omega) (u.TQ.mono (by exact u.TQ.lt) q8.out.2)) (λh k=>qZ h k) (re (by have:=u.room;omega)) (Below.refl _ _) (λ_=>rfl)
  (Q5 w r v b g N p D L G ps ho gone sp B0 ds A F R Z.heap.size S) (λ_ _ _=>False) (Q5.own (by omega) xy y2 y3 q0) (λ_ _ _ _ _ h _ _=>h.elim) q8.out.1
  (λx=>{ tmps:=#[Z6 (ZW ⟨r,0,ZX⟩),Z7 Z8 (T:Int),Z6 (ZW ⟨w.heap.size,0,ZX⟩),ZY,Z7 Z9 (x.1:Int),ZY,ZY,ZY,ZY,Z7 Z8 (T:Int),Z6 (ZW ⟨r,0,ZX⟩),Z6 (ZW ⟨r,0,ZX⟩),Z6 (ZW ⟨r,3,ZX⟩),Z7 Z8 (gone:Int),Z7 Z8 (S1:Int),Z6 (ZW ⟨r,0,ZX⟩),Z6 (ZW ⟨r,0,ZX⟩),Z6 (ZW ⟨r,4,ZX⟩),Z7 Z8 (sp:Int),Z7 Z8 (S:Int),.func (.func 153) #[] #[Z6 (ZW ⟨w1.heap.size,0,ZX⟩)],Z7 Z9 (x.1:Int),ZY,ZY,ZY,ZY,ZY,ZY,ZY,ZY,ZY,ZY,ZY,ZY,ZY,ZY,ZY,ZY,ZY,ZY,ZY,ZY,ZY,ZY,ZY,ZY,ZY,ZY,ZY,ZY,ZY,ZY,ZY,ZY,ZY,ZY,ZY,ZY,ZY,ZY,ZY,ZY,ZY,ZY,ZY,ZY,ZY,ZY,ZY,ZY,ZY,ZY,ZY,ZY,ZY,ZY,ZY,ZY,ZY,ZY,ZY,ZY,ZY,ZY,ZY,ZY,ZY,ZY,ZY,ZY,ZY,ZY,ZY,ZY,ZY,ZY,ZY,ZY,ZY,ZY],defers:=[] }) ?assign ?body ?done ?stop
 case assign=>
  intro l2 x X Kk hK;unfold wE;gi_wp2;exact hK
 case body=>
  rintro l2 pre x X a qn;clear qn;have qy:x.1∈ab S:=bX.2 x.2;obtain ⟨xh,xi⟩:=xn _ (x6 _ qy);have ky:=x6 _ qy;have x4:=a.b2.lt;have c2:=a.b2.cell;obtain ⟨c0,c1,cs,c3,c4⟩:=a.rd.cells;obtain ⟨f,m,s⟩:=a.row;have cg:=m.cell (i:=x.1) xh;have yg:¬ F.has p A.n w.heap.size:=λq=>by have:=q0 _ q;omega
  by_cases h9:x.1∈ds++mT A (py ds (cE pre))
  . obtain ⟨bl,xo,xp,xq,xv⟩:=s.2 _ h9;rw [xo] at cg;have Q:=hide a;have HK:=hide s;have HR:=hide m;clear a s m;gi_wp2;rename_i kg
    refine kg _ _ ?_;clear kg;simp only [Act.put,XO,XP,XQ,Bool.not_false];gi_wp2;have a:=Q.out;refine ⟨⟨XR _,λk o _ ho _=>ho⟩,λ_=>u.TQ.keep (a.out.block _ u.TQ.lt (λq=>by rcases q with q|q|q|q;omega;omega;omega;exact U.t q)),?_⟩;by_cases I:x.1∈ds
    . refine ⟨a.b2,?_,?_,⟨f,HR.out,?_⟩,?_,a.out,a.size⟩<;>rw [bI,PL I]
      . exact a.rd
      . exact a.vol
      . exact HK.out
      . exact a.arr
    . have q7:=(XT.1 h9).resolve_left I;have z:=(mJ.1 q7).2;refine ⟨a.b2,?_,?_,⟨f,HR.out,?_⟩,?_,a.out,a.size⟩<;>rw [bI,iq I]
      . rw [kQ A _ _ z];exact a.rd
      . rw [kQ A _ _ z];exact a.vol
      . rw [zP A _ _ z,<- Yb];refine ⟨λi Y=>HK.out.1 i (λq=>Y (X3 _ q)),λi Y=>HK.out.2 i ?_⟩;rcases XT.1 Y with q|q
        . exact q
        . rw [Yd.1 q];exact h9
      . rw [zP A _ _ z,El _ _ _ q7];exact a.arr
  . have xx:f x.1=Z5 ZX 0 0:=s.1 _ h9;rw [xx] at cg;have I:x.1∉ds:=λq=>h9 (X3 _ q);have q7:x.1∉mT A (py ds (cE pre)):=λq=>h9 (YI _ q);have kf:=a.arr;have xe:bH A (py ds (cE pre))<65536:=pq A _ (λd hd=>by replace hd:=(zO.1 hd).1;unfold cE at hd;obtain ⟨y,_,rfl⟩:=XZ.1 hd;exact y.2.1);have C:nF X v p D L G ps (ho|||bH A (py ds (cE pre))) (A.TJ (mT A (py ds (cE pre)))) F:=⟨a.vol,kf,u.laid.keep (a.out.block _ u.laid.lt (λq=>by rcases q with q|q|q|q;omega;omega;omega;exact U.g q)),u.TQ.keep (a.out.block _ u.TQ.lt (λq=>by rcases q with q|q|q|q;omega;omega;omega;exact U.t q)),XN u.room a.out.size⟩;have Q:=hide4 a s m C;clear a s m C;gi_wp2;rename_i kg
    refine kg _ _ ?_;clear kg;simp only [Act.put,XO,XP,XQ];gi_wp2;obtain ⟨a,s,m,C⟩:=Q.out;have km:=hf.TJ (mT A (py ds (cE pre)));cases z:A.lost x.1
    . have W:=C.below ((Below.refl _ X).drew) lR;refine m4 (K:=λw2=>aq w2 p (((A.TJ (mT A (py ds (cE pre))))).TI x.1 (wrap64 ((A.TJ (mT A (py ds (cE pre)))).reads x.1+1))) F/\aa (F.has p A.n) X.drew w2) x.1 (sJ W.vol W.arr km x.1 b xi hb hw z (qf _ ky) (.shard (R x.1)) (hR _ ky) (lF (hR _ ky)) (qg _ ky) W.laid U.g) a.b2 a.rd (by kernel_rfl) rfl rfl rfl ?_;rintro w2 ⟨qa,kh⟩;rw [BM _ _ _ q7] at qa;have V:aa (F.has p A.n) X w2:=(aa.drew X).trans kh;clear W kh;have q4:∀ k,B0<=k->k<X.heap.size->w2.heap[k]?=X.heap[k]?:=λk c ks=>V.block k ks (λq=>by have:=qc k q;omega);have ym:=Le;have qm:(R x.1).length=44:=(hR _ ky).1;have x2:=hide qa;have x3:=hide2 V q4;clear a s m C qa V q4 c0 c1 cs c3 c4 cg c2;rename_i hK
      refine hK _ _ ?_;clear hK;simp only [Act.putFrom,Act.put,XO,XP,XQ,br];gi_wp2_with (show wpListIn _ _ _ _ _ ({ dst:=ZX,op:=Op.store 217 (Z1 7) (Z1 46),type:=_,pos:=_,after:=_,guard:=_ }::_) _ _;refine zN (w:=w2) (l:=R x.1) rfl (Z1 7) (Z1 46) rfl (by rfl) (by rfl) (by rfl) qm ?_)
      obtain ⟨V,q4⟩:=x3.out;obtain ⟨a,s,m,C⟩:=Q.out;have ya:X.heap.size<=w2.heap.size:=V.size;have hh:bW w2 (w2.alloc (Z4 (aH (R x.1)).toArray 217)):=bA w2 _;have qo:(w2.alloc (Z4 (aH (R x.1)).toArray 217)).heap[w2.heap.size]?=ZW (Z4 (aH (R x.1)).toArray 217 (0,0)):=blk_alloc_new _ _;have y9:(w2.alloc (Z4 (aH (R x.1)).toArray 217)).heap.size=w2.heap.size+1:=(by simp);obtain ⟨E,q5⟩:=nM (w2.alloc (Z4 (aH (R x.1)).toArray 217));rw [q5] at hh qo y9 ⊢;have kc:∀ k,k<X.heap.size->¬ F.has p A.n k->E.heap[k]?=X.heap[k]?:=λk c y0=>(hh.block k (by omega)).trans (V.block k c y0);have qe:∀ k,B0<=k->k<X.heap.size->E.heap[k]?=X.heap[k]?:=λk c ks=>kc k ks (λq=>by have:=qc k q;omega);have hj:E.rowIs g 34 N f:=m.of_block (kc g m.lt xa);refine vF (show Boxed E w.heap.size 144 (Z6 (ZW ⟨r,0,ZX⟩)) from (qe _ qb (by omega)).trans a.b2) (a.rd.keep (kc r a.rd.lt qp)) hj x.1 xh (by omega) qi (by kernel_rfl) rfl rfl rfl rfl ?_;intro B J;have ha:∀ k,k≠g->B.heap[k]?=E.heap[k]?:=λk c=>by rw [J];exact blk_setCell_other _ _ _ _ c
      have yp:B.heap.size=E.heap.size:=(by rw [J];simp [World.setCell]);have h8:=hj.set x.1 (Z5 (ZW ⟨w2.heap.size,0,ZX⟩) 44 44);have hm:B.rowIs g 34 N (λi=>if i=x.1 then Z5 (ZW ⟨w2.heap.size,0,ZX⟩) 44 44 else f i):=(by rw [J];exact h8);have ke:∀ k,B0<=k->k<X.heap.size->B.heap[k]?=X.heap[k]?:=λk c ks=>(ha k (by omega)).trans (qe k c ks);have H:aa (λk=>k=g\/k=r\/k=v\/F.has p A.n k) w B:=by
       have h3:aa (λk=>k=g\/k=r\/k=v\/F.has p A.n k) w E:=(a.out.trans (V.mono λ_ _ q=>.inr (.inr (.inr q)))).trans (aa.TG hh _);rw [J];exact (h3.trans (aa.drew E)).trans (aa.setCell _ _ _ (.inl rfl))
      have kz:=x2.out.keep λk c=>by
       have:=q0 k c;exact (ha k (λe=>xa (by rw [<- e];exact c))).trans (hh.block k (by omega))
      have hs:Kn B B0 BN (λi=>if i=x.1 then Z5 (ZW ⟨w2.heap.size,0,ZX⟩) 44 44 else f i) R (ds++mT A (py ds (cE pre))++[x.1]):=by
       have xd:=s.keep (w':=B) (by omega) λk o c ho _=>(ke k c (XH.1 ho).1).trans ho;refine ⟨λi Y=>?_,λi Y=>?_⟩
       . have h1:i≠x.1:=λe=>Y (by rw [e];simp);show (if i=x.1 then _ else f i)=_;rw [if_neg h1];exact xd.1 i (λq=>Y (X3 _ q))
       . show ∃ bl,(if i=x.1 then _ else f i)=_/\_;by_cases e:i=x.1
         . rw [if_pos e,e];exact ⟨w2.heap.size,rfl,by omega,by omega,(ha _ (by omega)).trans qo⟩
         . rw [if_neg e];rcases XT.1 Y with q|q
           . exact xd.2 i q
           . exact absurd (Yd.1 q) e
      have H4:=hide5 hm ke H kz hs;have M:=hide (a.rd.keep ((ha r qi).trans (kc r a.rd.lt qp)));have qv:=hide (a.vol.keep ((ha v xb).trans (kc v a.vol.lt U.v)));have x0:X.heap.size<=B.heap.size:=(by omega);clear h8 hm ke H kz hs ha J hj kc qe hh qo a s m C V q4 q5 x2 x3;rename_i hK
      refine hK _ _ ?_;clear hK;simp only [Act.putFrom,Act.put,XO,XP,XQ];gi_wp2;obtain ⟨h8,ke,H,kz,hs⟩:=H4.out;have a:=Q.out.1;have xj:=a.size;refine ⟨⟨x0,λk o c ho _=>(ke k (by omega) (XH.1 ho).1).trans ho⟩,λ_=>u.TQ.keep (H.block _ u.TQ.lt (λq=>by rcases q with q|q|q|q;omega;omega;omega;exact U.t q)),?_⟩;exact ⟨(ke _ qb (by omega)).trans a.b2,by rw [bI,iq I,kQ A _ _ z];exact M.out,by rw [bI,iq I,kQ A _ _ z];exact qv.out,⟨_,h8,by rw [bI,iq I,zP A _ _ z,<- Yb];exact hs⟩,by rw [bI,iq I,zP A _ _ z];exact kz,H,by omega⟩
    . clear a s m C;obtain ⟨a,s,m,C⟩:=Q.out;have W:=C.below ((Below.refl _ X).drew) lR;refine m4 (Xv:=.nilIface) (Yv:=.iface 270 (Z6 (ZW ⟨X.heap.size+1,0,ZX⟩))) (K:=λw2=>iR w2 (X.heap.size+1) x.1 b 11/\Below X.heap.size X.drew w2) x.1 (zw W.vol W.arr km x.1 b xi hw z) a.b2 a.rd (by kernel_rfl) rfl rfl rfl ?_;rintro w2 ⟨x7,kk⟩;have k7:bW X w2:=((Below.refl _ X).drew).trans kk;clear W kk;obtain ⟨z1,y7⟩:=Lg;obtain ⟨z2,y8⟩:=Lh;have ko:=By x7 11;rw [show ((11:Int)==11)=ZV from rfl] at ko;unfold tQ at ko;obtain ⟨e1,x9⟩:=nM (X.heap.size+1);rw [x9] at ko ⊢;have H2:=hide2 k7 ko;clear a s m C x7 k7 ko x9 c0 c1 cs c3 c4 cg c2;rename_i hK
      refine hK _ _ ?_;clear hK;simp only [Act.putFrom,Act.put,XO,XP,XQ];gi_wp2;refine dH H2.out.2 ?_;rintro e E ⟨rfl,q5⟩;subst q5;gi_wp2;have k7:=H2.out.1;obtain ⟨a,s,m,C⟩:=Q.out;have y4:x.1<16:=(bX.1 qy).1;have k8:=a.rd.keep (k7.block _ a.rd.lt);have qs:=a.vol.keep (k7.block _ a.vol.lt);have q9:Boxed E w.heap.size 144 (Z6 (ZW ⟨r,0,ZX⟩)):=(k7.block _ x4).trans a.b2;have yi:ho|||bH A (py ds (cE pre))<65536:=Ys (n:=16) xz xe;have yh:gone|||bH A (py ds (cE pre))<65536:=Ys (n:=16) qh xe;refine uh qs q9 k8 x.1 (by omega) (by omega) (by omega) (λe=>qq e.symm) (by kernel_rfl) rfl rfl rfl ?_;intro B J;have ka:bt B v p D L G ps (ho|||bH A (py ds (cE pre))|||2^x.1):=(by rw [J];exact aj (j:=5) qs _);have qj:∀ k,k≠v->B.heap[k]?=E.heap[k]?:=λk c=>by rw [J];exact blk_setCell_other _ _ _ _ c
      have H:aa (λk=>k=v) E B:=by
       rw [J];exact (aa.drew E).trans (aa.setCell _ _ _ rfl)
      have M:=k8.keep (qj r (λe=>qq e.symm));have kb:Boxed B w.heap.size 144 (Z6 (ZW ⟨r,0,ZX⟩)):=(qj _ (by omega)).trans q9;have H4:=hide4 ka H M kb;clear a s m C k8 qs q9 J ka qj H M kb;rename_i hK
      refine hK _ _ ?_;clear hK;simp only [Act.putFrom,Act.put,XO,XP,XQ];gi_wp2;obtain ⟨ka,H,M,kb⟩:=H4.out;refine ui kb M x.1 (by omega) (by omega) (by omega) (by kernel_rfl) rfl rfl rfl ?_;intro w5 qx;have hv:ew w5 r v b g N (gone|||bH A (py ds (cE pre))|||2^x.1) sp:=(by rw [qx];exact aj (j:=3) M _);have ki:aa (λk=>k=r) B w5:=by
       rw [qx];exact (aa.drew B).trans (aa.setCell _ _ _ rfl)
      have H5:=hide2 hv ki;clear M qx hv ki ka H kb;simp only [Act.putFrom,Act.put,XO,XP,XQ];gi_wp2;obtain ⟨hv,ki⟩:=H5.out;obtain ⟨ka,H,M,kb⟩:=H4.out;obtain ⟨a,s,m,C⟩:=Q.out;have qd:aa (λk=>k=r\/k=v) E w5:=(H.mono λ_ _ q=>.inr q).trans (ki.mono λ_ _ q=>.inl q);have O:aa (λk=>k=r\/k=v) X w5:=(aa.TG k7 _).trans qd;have x5:aa (λk=>k=g\/k=r\/k=v\/F.has p A.n k) w w5:=a.out.trans (O.mono λ_ _ q=>.inr (q.elim .inl (λq=>.inr (.inl q))));have xj:=a.size;refine ⟨⟨O.size,λk o c ho _=>(O.block k (XH.1 ho).1 (by omega)).trans ho⟩,λ_=>u.TQ.keep (x5.block _ u.TQ.lt (λq=>by rcases q with q|q|q|q;omega;omega;omega;exact U.t q)),?_⟩;refine ⟨(O.block _ x4 (by omega)).trans a.b2,by rw [bI,iq I,j1 A _ _ z,<- Nat.or_assoc];exact hv,by rw [bI,iq I,j1 A _ _ z,<- Nat.or_assoc];exact ka.keep (ki.block _ ka.lt (λe=>qq e)),⟨f,m.of_block (O.block _ m.lt (λq=>q.elim (λe=>qi e.symm) (λe=>xb e.symm))),by rw [bI,iq I,BO A _ _ z];exact s.keep O.size λk o c ho _=>(O.block k (XH.1 ho).1 (by omega)).trans ho⟩,by rw [bI,iq I,BO A _ _ z];exact kf.keep λk c=>O.block k (kf.TH c) (λq=>q.elim (λe=>qp (by rw [<- e];exact c)) (λe=>U.v (by rw [<- e];exact c))),x5,XN xj O.size⟩
 case done=>
  rintro D' xs X xm y5 a hK;have yd:=(XH.1 hK).1;have hy:cE xs=ab S:=y5;obtain ⟨f,m,s⟩:=a.row;have kv:∀ k,k<w.heap.size+1->(X.putObj D' (.deferred ZX)).heap[k]?=X.heap[k]?:=λk c=>World.putObj_heap_other (by omega);have kf:=a.arr;refine Lf results126 rfl hK ⟨rfl,by rw [<- hy];exact a.rd.keep (kv _ (by omega)),by rw [<- hy];exact a.vol.keep (kv _ (by omega)),⟨f,m.of_block (kv _ (by omega)),?_⟩,?_,?_⟩
  . rw [<- hy];refine s.keep (by simp [World.putObj]) λk o c ho hc=>(World.putObj_heap_other (λe=>?_)).trans ho;rw [e,hK] at ho;cases ho;cases hc
  . rw [<- hy];exact kf.keep λk c=>kv k (by have:=q0 k c;omega)
  . exact a.out.later (T:=λk=>w.heap.size<=k) ⟨rfl,rfl,rfl,by simp [World.putObj],λk kp kr=>kv k (by omega)⟩ (λk kp kr=>by omega)
 case stop=>
  rintro D' cc pre X xm y1 hx hK;exact hx.elim
end
def Nh (a:x<256):gm 1 x=x:=by rw [bK (by decide) a,cD x a]
theorem La (D i t:Nat) (a:i<D):(dK D i).getD t 0=if t=i then 1 else 0:=by
 unfold dK;rw [XW,List.getElem?_set];by_cases e:t=i
 . subst e;simp [a]
 . rw [if_neg (λq=>e q.symm),if_neg e,List.getElem?_replicate];split<;>rfl
def BG (D i q:Nat) (c:i<D) (Dt:List (List Nat)) (b:(Dt.getD i []).getD q 0<256):∀ t,MF (dK D i) Dt t q=if i<t then (Dt.getD i []).getD q 0 else 0
 | 0=>by rw [if_neg (by omega)];rfl
 | t+1=>by
  show MF (dK D i) Dt t q^^^gm ((dK D i).getD t 0) ((Dt.getD t []).getD q 0)=_;rw [BG D i q c Dt b t,La D i t c];by_cases e:t=i
  . subst e;rw [if_neg (by omega),if_pos rfl,Nh b,if_pos (by omega),Nat.zero_xor]
  . rw [if_neg e,bC,Nat.xor_zero];by_cases a:i<t
    . rw [if_pos a,if_pos (by omega)]
    . rw [if_neg a,if_neg (by omega)]
def Hp (D L G i:Nat) (b:i<D):∃ h:i<(aO D L G).length,(aO D L G)[i]=dK D i:=by
 have hl:i<(aO D L G).length:=by rw [dj];omega
 refine ⟨hl,?_⟩;have a:(aO D L G)[i]?=ZW (dK D i):=by
  unfold aO;rw [YJ (by simp;omega),YJ (by simp;omega)];simp [b]
 rw [XX hl] at a;exact XM a
def BH (a:∀ x∈dl,x<256):∀ x∈iN D dl,x<256:=by
 intro x h;unfold iN at h;rcases XT.1 h with q|q
 . exact a x q
 . rw [YK q];decide
theorem BI (a:i<D) (hl:dl.length<=D*44) (j:∀ x∈dl,x<256):(aK D L G dl).getD i []=((iN D dl).drop (i*44)).take 44:=by
 obtain ⟨h,g⟩:=Hp D L G i a;have e:(aK D L G dl).getD i []=cQ (aO D L G)[i] (dq D dl) 44 (dq D dl).length:=by simp [aK,dF,h]
 rw [e,g,dP];have hr:(dq D dl).getD i []=((iN D dl).drop (i*44)).take 44:=by simp [dq,a]
 have d:=mw hl a;unfold cQ;apply List.ext_getElem
 . simp [d]
 . intro q k b;have c:((dq D dl).getD i []).getD q 0=(((iN D dl).drop (i*44)).take 44)[q]:=(by rw [hr,XW,XX b];rfl);have f:((dq D dl).getD i []).getD q 0<256:=(by rw [c];exact BH j _ (X8 (Yj (XI b))));rw [Yf,List.getElem_range,BG D i q a _ f,if_pos a,c]
def xG:∀ m,((XG m).map λi=>((iN D dl).drop (i*44)).take 44).flatten=(iN D dl).take (44*m)
 | 0=>by simp
 | m+1=>by
  rw [YD,Ya,List.flatten_append,xG m,show 44*(m+1)=44*m+44 by omega,List.take_add];simp [Nat.mul_comm]
def Lb (h:size<=dl.length):(iN D dl).take size=dl.take size:=by
 unfold iN;rw [List.take_append_of_le_length h]
theorem Hr (f:m=(size+43)/44) (d:m<=D) (hl:dl.length<=D*44) (c:∀ x∈dl,x<256) (b:size<=dl.length):((XG m).map λi=>(aK D L G dl).getD i []).flatten.take size=dl.take size:=by
 have e:((XG m).map λi=>(aK D L G dl).getD i [])=(XG m).map λi=>((iN D dl).drop (i*44)).take 44:=by
  apply List.map_congr_left;intro i a;exact BI (by have:=X6.1 a;omega) hl c
 rw [e,xG,List.take_take,show min size (44*m)=size by omega,Lb b]
def Lc (c:∀ x∈dl,x<256):(dq D dl).length=D/\∀ l∈dq D dl,∀ x∈l,x<256:=by
 refine ⟨dP D dl,λl hl x a=>?_⟩;obtain ⟨i,b,rfl⟩:=X2 hl;rw [oM b] at a;exact BH c x (X8 (Yj a))
def gO (D:Nat) (d:List Nat) (k:Nat):List Nat:=(d.drop (k*(D*44))).take (D*44)
def ay.objTo (A:ay) (D L G:Nat) (S d:List Nat):Nat->ay
 | 0=>A
 | k+1=>(ay.objTo A D L G S d k).putAt (XG A.n) (S.getD k 0) (λi=>(aX.shard ((aK D L G (gO D d k)).getD i [])).blk)
def ay.wrTo (A:ay) (at':Nat->Nat) (f:Nat->Nat->List Nat):Nat->ay
 | 0=>A
 | k+1=>(ay.wrTo A at' f k).putAt (XG A.n) (at' k) (f k)
def kW (A:ay) (D L G:Nat) (P l:List Nat):∀ k,A.pagesTo D L G P l k=A.wrTo (P.getD · 0) (λk i=>(aX.shard ((aK D L G (fH D P l k)).getD i [])).blk) k
 | 0=>rfl
 | k+1=>by rw [ay.pagesTo,kW A D L G P l k];rfl
def l8 (A:ay) (D L G:Nat) (S d:List Nat):∀ k,A.objTo D L G S d k=A.wrTo (S.getD · 0) (λk i=>(aX.shard ((aK D L G (gO D d k)).getD i [])).blk) k
 | 0=>rfl
 | k+1=>by rw [ay.objTo,l8 A D L G S d k];rfl
def Li (A:ay) (at':Nat->Nat) (f:Nat->Nat->List Nat):∀ k,(A.wrTo at' f k).n=A.n/\(A.wrTo at' f k).nb=A.nb/\(A.wrTo at' f k).wait=A.wait/\(A.wrTo at' f k).lost=A.lost
 | 0=>⟨rfl,rfl,rfl,rfl⟩
 | k+1=>Li A at' f k
def xI {A:ay} (h:∀ i m,A.bad i m=ZU) (ds:List Nat) (b:Nat) (f:Nat->List Nat) (i m:Nat):(A.putAt ds b f).bad i m=ZU:=by
 unfold ay.putAt;simp [h]
def uk {A:ay} (h:∀ i m,A.bad i m=ZU) (at':Nat->Nat) (f:Nat->Nat->List Nat):∀ k i m,(A.wrTo at' f k).bad i m=ZU
 | 0=>h
 | k+1=>xI (uk h at' f k) _ _ _
def j4 (A:ay) (ds:List Nat) (b:Nat) (f:Nat->List Nat) (i m:Nat) (h:m≠b):(A.putAt ds b f).blk i m=A.blk i m:=by
 unfold ay.putAt;simp [h]
def BP (A:ay) (b:Nat) (f:Nat->List Nat) (i n:Nat) (h:i<n):(A.putAt (XG n) b f).blk i b=f i:=by
 unfold ay.putAt;simp [h]
def uo (A:ay) (at':Nat->Nat) (f:Nat->Nat->List Nat) (i m:Nat):∀ k,(∀ j,j<k->at' j≠m)->(A.wrTo at' f k).blk i m=A.blk i m
 | 0,_=>rfl
 | k+1,h=>by
  rw [ay.wrTo,j4 _ _ _ _ _ _ (λe=>h k (by omega) e.symm)];exact uo A at' f i m k (λj a=>h j (by omega))
def zQ (A:ay) (at':Nat->Nat) (f:Nat->Nat->List Nat) (i:Nat) (c:i<A.n):∀ k j,j<k->(∀ a b,a<k->b<k->at' a=at' b->a=b)->(A.wrTo at' f k).blk i (at' j)=f j i
 | 0,_,hj,_=>by omega
 | k+1,j,hj,h=>by
  rw [ay.wrTo];rcases Yc (YL hj) with e|d
  . subst e;exact BP _ _ _ _ _ c
  . rw [j4 _ _ _ _ _ _ (λe=>by have:=h j k (by omega) (by omega) e;omega)];exact zQ A at' f i c k j d (λa b g l=>h a b (by omega) (by omega))
def fK (h:k<l.length):l.getD k 0=l[k]:=by rw [XW,XX h];rfl
def BQ (f:l.Nodup) {a b:Nat} (c:a<l.length) (d:b<l.length) (e:l.getD a 0=l.getD b 0):a=b:=by
 rw [fK c,fK d] at e;exact (List.getElem_inj f).1 e
def rB (A:ay) (D L G:Nat) (P l:List Nat) (i m:Nat) (h:m∉P):(A.pagesTo D L G P l P.length).blk i m=A.blk i m:=by
 rw [kW];refine uo _ _ _ _ _ _ λj a e=>h ?_;rw [<- e];show P.getD j 0∈P;rw [fK a];exact XI a
def En {A:ay} (D L G:Nat) {P:List Nat} (l:List Nat) (h:P.Nodup) {i k:Nat} (f:i<A.n) (g:k<P.length):(A.pagesTo D L G P l P.length).blk i (P.getD k 0)=(aX.shard ((aK D L G (fH D P l k)).getD i [])).blk:=by
 rw [kW];exact zQ A _ _ i f P.length k g λa b c d e=>BQ h c d e
def xJ (A:ay) (D L G:Nat) (S d:List Nat) (i m:Nat) (h:m∉S):(A.objTo D L G S d S.length).blk i m=A.blk i m:=by
 rw [l8];refine uo _ _ _ _ _ _ λj a e=>h ?_;rw [<- e];show S.getD j 0∈S;rw [fK a];exact XI a
def Lj {A:ay} (D L G:Nat) {S:List Nat} (d:List Nat) (j:S.Nodup) {i k:Nat} (g:i<A.n) (h:k<S.length):(A.objTo D L G S d S.length).blk i (S.getD k 0)=(aX.shard ((aK D L G (gO D d k)).getD i [])).blk:=by
 rw [l8];exact zQ A _ _ i g S.length k h λa b c f e=>BQ j c f e
def zR (A:ay) (D L G:Nat) (S d:List Nat) (k:Nat):(A.objTo D L G S d k).n=A.n/\(A.objTo D L G S d k).nb=A.nb/\(A.objTo D L G S d k).wait=A.wait/\(A.objTo D L G S d k).lost=A.lost:=by rw [l8];exact Li A _ _ k
def Hu {A:ay} (h:∀ i m,A.bad i m=ZU) (D L G:Nat) (S d:List Nat) (k i m:Nat):(A.objTo D L G S d k).bad i m=ZU:=by rw [l8];exact uk h _ _ k i m
def BR {A:ay} (h:∀ i m,A.bad i m=ZU) (D L G:Nat) (S d:List Nat) (k i m:Nat):(A.pagesTo D L G S d k).bad i m=ZU:=by rw [kW];exact uk h _ _ k i m
abbrev aS:=List (Ob×List Nat)
def aS.os (xs:aS):List Ob:=xs.map (·.1)
def aS.names (xs:aS):List ByteArray:=bg xs.os
def Q6 (A:ay) (D L G:Nat) (x:Ob×List Nat):Prop:=∀ j,j<x.1.TE.length->∀ i,i<A.n->A.blk i (x.1.TE.getD j 0)=(aX.shard ((aK D L G (gO D x.2 j)).getD i [])).blk
structure iT (D:Nat) (x:Ob×List Nat):Prop where
 fit:x.1.fit
 st:x.1.TE.length=max 1 ((x.1.size+D*44-1)/(D*44))
 len:x.2.length=x.1.size
 byt:∀ b∈x.2,b<256
structure eE (A:ay) (D L G t:Nat) (P:List Nat) (xs:aS):Prop where
 n:A.n=D+L+G
 wait:A.wait<0
 lost:gT A D L G
 bad:∀ i m,A.bad i m=ZU
 turn:0<t
 root:∀ i,i<A.n->A.blk i 0=(aX.root D L G t (P.getD 0 0) (az xs.os).length).blk
 fill:∀ i,i<A.n->A.blk i 1=aX.filled.blk
 pl:P.length=pgs D (az xs.os).length
 V8:∀ k,k<P.length->∀ i,i<A.n->A.blk i (P.getD k 0)=(aX.shard ((aK D L G (fH D P (az xs.os) k)).getD i [])).blk
 VQ:(P++ah xs.os).Nodup
 VH:∀ x∈P++ah xs.os,2<=x/\x<A.nb
 fits:∀ x∈xs,iT D x
 up:Up xs.names
 held:∀ x∈xs,Q6 A D L G x
 room:(ah xs.os).length+2*P.length+2<=A.nb
theorem eE.congr {A B:ay} {xs:aS} (h:eE A D L G t P xs) (b:B.n=A.n) (d:B.nb=A.nb) (e:B.wait=A.wait) (f:∀ i,B.lost i=A.lost i) (g:∀ i m,B.bad i m=A.bad i m) (c:∀ i m,i<A.n->B.blk i m=A.blk i m):eE B D L G t P xs:=
 ⟨b.trans h.n,by rw [e];exact h.wait,h.lost.congr b (funext f),λi m=>(g i m).trans (h.bad i m),h.turn,λi a=>by rw [b] at a;rw [c i 0 a];exact h.root i a,λi a=>by rw [b] at a;rw [c i 1 a];exact h.fill i a,h.pl,
  λk o i a=>by rw [b] at a;rw [c i _ a];exact h.V8 k o i a,h.VQ,by rw [d];exact h.VH,h.fits,h.up,λx p j l i a=>by rw [b] at a;rw [c i _ a];exact h.held x p j l i a,by rw [d];exact h.room⟩
theorem xK {A B:ay} {P':List Nat} {xs xs':aS} (h:eE A D L G t P xs) (d:B.n=A.n) (p:B.nb=A.nb) (u:B.wait=A.wait) (v:B.lost=A.lost) (w:∀ i m,B.bad i m=ZU) (y:∀ i,i<A.n->B.blk i 1=A.blk i 1)
 (M:P'.length=pgs D (az xs'.os).length) (l:(P'++ah xs'.os).Nodup) (f:∀ x∈P'++ah xs'.os,2<=x/\x<A.nb) (E:∀ x∈xs',iT D x) (O:Up xs'.names) (s:∀ x∈xs',Q6 B D L G x) (z:(ah xs'.os).length+2*P'.length+2<=A.nb) (t':Nat) (N:0<t') :
 eE ((B.pagesTo D L G P' (az xs'.os) P'.length).putAt (XG B.n) 0 (λ_=>(aX.root D L G t' (P'.getD 0 0) (az xs'.os).length).blk)) D L G t' P' xs':=by
 obtain ⟨b,q,Q,hl⟩:=iz B D L G P' (az xs'.os) P'.length;have K:P'.Nodup:=(Yt.1 l).1;have C:∀ x∈ah xs'.os,x∉P':=λx g J=>(Yt.1 l).2.2 x J x g rfl;have F:∀ k,k<P'.length->P'.getD k 0∈P':=λk c=>by rw [fK c];exact XI c
 have H:(0:Nat)∉P':=λe=>by have:=(f 0 (X3 _ e)).1;omega
 have I:(1:Nat)∉P':=λe=>by have:=(f 1 (X3 _ e)).1;omega
 refine ⟨?_,?_,?_,λi m=>?_,N,λi a=>?_,λi a=>?_,M,λk c i a=>?_,l,?_,E,O,λx g j o i a=>?_,?_⟩
 . exact b.trans (d.trans h.n)
 . show (B.pagesTo D L G P' (az xs'.os) P'.length).wait<0;rw [Q,u];exact h.wait
 . exact h.lost.congr (b.trans d) (hl.trans v)
 . exact xI (BR w _ _ _ _ _ _) _ _ _ _ _
 . replace a:i<B.n:=b▸a
   exact BP _ _ _ _ _ a
 . replace a:i<B.n:=b▸a
   rw [j4 _ _ _ _ _ _ (by decide),rB _ _ _ _ _ _ _ _ I,y i (d▸a)];exact h.fill i (d▸a)
 . replace a:i<B.n:=b▸a
   have hr:P'.getD k 0≠0:=λe=>H (by rw [<- e];exact F k c);rw [j4 _ _ _ _ _ _ hr];exact En D L G _ K a c
 . show ∀ x∈P'++ah xs'.os,2<=x/\x<(B.pagesTo D L G P' (az xs'.os) P'.length).nb;rw [q,p];exact f
 . replace a:i<B.n:=b▸a
   have r:x.1.TE.getD j 0∈ah xs'.os:=by
    rw [fK o];unfold ah aS.os;rw [List.mem_flatMap];exact ⟨x.1,List.mem_map_of_mem g,XI o⟩
   rw [j4 _ _ _ _ _ _ (λe=>by have:=(f _ (YI _ r)).1;omega),rB _ _ _ _ _ _ _ _ (C _ r)];exact s x g j o i a
 . show (ah xs'.os).length+2*P'.length+2<=(B.pagesTo D L G P' (az xs'.os) P'.length).nb;rw [q,p];exact z
theorem mH (x:ByteArray) (w:ZT):ZR ZQ 143 #[Z0 x] w λe w'=>e=Z3 (Z2 ZU)/\w'=w:=by
 go_enter func143,ntmps143;go_wp2;go_ret;exact ⟨by simp,rfl⟩
def rO (a b:ByteArray):Int:=if kT a b then -1 else if kT b a then 1 else 0
def Ft {a:ByteArray}:rO a b<0↔kT a b=ZV:=by
 unfold rO;cases h1:kT a b<;>cases h2:kT b a<;>simp
theorem Fu {a:ByteArray}:rO a b=0↔a=b:=by
 unfold rO;constructor
 . intro h;cases h1:kT a b
   . cases h2:kT b a
     . exact zH h1 h2
     . simp [h1,h2] at h
   . simp [h1] at h
 . rintro rfl;simp [kU]
theorem BJ (x y:ByteArray) (w:ZT):ZR ZQ 110 #[Z0 x,Z0 y] w λe w'=>e=Z3 (Z7 Z9 (rO x y))/\w'=w:=by
 by_cases a:x=y
 . subst a;have hl:Op.bytesLess x.toList x.toList=ZU:=kU x;have c:rO x x=0:=Fu.2 rfl;rw [c];go_enter func110,ntmps110;go_wp2_with fail;refine (mH x w).mono ?_;rintro e w1 ⟨rfl,rfl⟩;go_wp2_with fail;refine (mH x w1).mono ?_;rintro e w2 ⟨rfl,rfl⟩;go_wp2;go_ret;exact ⟨rfl,rfl⟩
 . have d:¬ x.toList=y.toList:=λe=>a (toList_inj e);have f:(!x.toList==y.toList)=ZV:=(by simp [d]);obtain ⟨lt,b⟩:=nM (kT x y);have hl:Op.bytesLess x.toList y.toList=lt:=b;have c:rO x y=if lt then -1 else 1:=by
    unfold rO;rw [b];cases lt
    . cases hg:kT y x
      . exact absurd (zH b hg) a
      . rfl
    . rfl
   rw [c];clear c b;go_enter func110,ntmps110;go_wp2_with fail;refine (mH x w).mono ?_;rintro e w1 ⟨rfl,rfl⟩;go_wp2_with fail;refine (mH y w1).mono ?_;rintro e w2 ⟨rfl,rfl⟩;cases lt
   . go_wp2;go_ret;exact ⟨rfl,rfl⟩
   . go_wp2;go_ret;exact ⟨rfl,rfl⟩
theorem xH (nm x:ByteArray) (b:Int) (a:ZS) (w:ZT):ZR ZQ 109 #[.agg #[Z0 nm,Z7 Z9 b,a],Z0 x] w λe w'=>e=Z3 (Z7 Z9 (rO nm x))/\bW w w':=by
 have c:bW w (w.alloc (Z4 #[Z0 nm,Z7 Z9 b,a] 123)):=bA w _;go_enter func109,ntmps109;go_wp2_with fail;refine (BJ nm x _).mono ?_;rintro e w1 ⟨rfl,rfl⟩;go_wp2;go_ret;exact ⟨rfl,c⟩
def lZ (os:List Ob) (x:ByteArray):Bool:=match (bg os)[aD (bg os) x]? with
 | some n=>decide (n=x)
 | none=>ZU
theorem BK {os:List Ob} (d:Up (bg os)) (x:ByteArray):lZ os x=ZV↔x∈bg os:=by
 unfold lZ;constructor
 . intro h;split at h
   . rename_i n c
     have:=of_decide_eq_true h;rw [<- this];exact List.mem_of_getElem? c
   . cases h
 . intro h;obtain ⟨a,b⟩:=tY d h;rw [XX a,b];simp
def R5 (w:ZT) (os:List Ob) (x:ByteArray) (i j:ZS) (wr:ZT):Prop:=∃ a b:Nat,a<=b/\b<=os.length/\i=Z7 Z9 a/\j=Z7 Z9 b/\(∀ k (hk:k<os.length),k<a->kT os[k].name x=ZV)/\(∀ k (hk:k<os.length),b<=k->kT os[k].name x=ZU)/\bW w wr
def Oc {os:List Ob} (a:Up (bg os)) {i j:Nat} (b:i<os.length) (c:j<os.length) (h:i<j):kT os[i].name os[j].name=ZV:=by
 unfold Up at a;rw [X1] at a;have:=a i j (by rw [bS];exact b) (by rw [bS];exact c) h;unfold bg at this;rwa [Yf,Yf] at this
def gE.at' {os:List Ob} (h:gE K w (.slice ao n c) os) {k:Nat} (d:k<os.length):∃ b off a,ao=ZW ⟨b,off,ZX⟩/\b<w.heap.size/\K b/\w.cell? ⟨b,off+k*3,ZX⟩=ZW (Z0 os[k].name)/\w.cell? ⟨b,off+k*3+1,ZX⟩=ZW (Z7 Z9 (os[k].size:Nat))/\w.cell? ⟨b,off+k*3+2,ZX⟩=ZW a/\bN K w a os[k].TE:=by
 obtain ⟨f,s,e,_,g⟩:=h;obtain ⟨b,off,i,j,l,m⟩:=g (λe=>by rw [e] at d;simp at d);simp only [Value.slice.injEq] at e;obtain ⟨rfl,_,_⟩:=e;obtain ⟨a,o,p,q,r⟩:=m k d;exact ⟨b,off,a,i,l,j,o,p,q,r⟩
theorem Ej {v:ZS} {os:List Ob} (hC:gE (λk=>k<w.heap.size) w v os) (kb:os.length<=10000) (R:Up (bg os)) (x:ByteArray) :
 ZR ZQ 108 #[v,Z0 x,.func (.func 109) #[] #[]] w λe w'=>e=Z3 (ZZ #[Z7 Z9 (aD (bg os) x:Nat),Z2 (lZ os x)])/\bW w w':=by
 obtain ⟨ao,c,rfl,k0,_⟩:=id hC;obtain ⟨N,M⟩:=nM (os.length);have H:=hide2 hC R;clear hC R;rw [M];go_enter func108,ntmps108;go_wp2;go_loopw [9,10] (λi j wr=>R5 w os x i j wr) (λi j _=>(intOf j).toNat-(intOf i).toNat)
 case atStart=>exact ⟨0,N,XV _,by omega,rfl,rfl,λk _ h=>by omega,λk q h=>by omega,Below.refl _ w⟩
 case round=>
  obtain ⟨a,b,k8,T,rfl,rfl,o,n,f⟩:=hrel;by_cases k9:a<b
  . obtain ⟨m,D⟩:∃ m:Nat,m=(a+b)/2:=⟨_,rfl⟩;have Q:((a:Int)+(b:Int))/2=(m:Int):=(by omega);have K:m<os.length:=(by omega);obtain ⟨b0,off,L,rfl,Z,_,z,A,E,_⟩:=(H.out.1.keep (eR.TF f)).at' (k:=m) K;obtain ⟨nm,d⟩:=nM (os[m].name);obtain ⟨t,C⟩:∃ t:Int,((os[m].size:Nat):Int)=t:=⟨_,rfl⟩;rw [d] at z;rw [C] at A;have k5:m<N:=(by omega);have k6:(m:Int)<(N:Int):=(by omega);have r:=hide5 o n f d D;clear o n f d D C;go_wp2_with fail;refine (xH nm x t L wr).mono ?_;rintro e w1 ⟨rfl,u⟩;obtain ⟨I,l⟩:=nM (rO nm x);rw [l];obtain ⟨o,n,f,d,D⟩:=r.out;have g:bW w w1:=f.trans (u.mono f.size);by_cases O:I<0
    . have p:kT nm x=ZV:=Ft.1 (by rw [l];exact O);have F:Hid (R5 w os x (Z7 Z9 ((m+1:Nat):Int)) (Z7 Z9 (b:Nat)) w1):=hide ⟨m+1,b,by omega,T,rfl,rfl,(λk q h=>by
       rcases Yc (YL h) with e|J
       . subst e;rw [d];exact p
       . have:=Oc H.out.2 q K J;rw [d] at this;exact qK this p),(λk q h=>n k q h),g⟩
      clear o n f d u g p l r z A E;dsimp only;have ka:m<=10000:=(by omega);have k7:a<=m:=(by omega);have X:m<b:=(by omega);clear D Q;go_wp2;refine ⟨by simpa using F.out,?_⟩;show ((b:Int)).toNat-((m:Int)+1).toNat<((b:Int)).toNat-((a:Int)).toNat;omega
    . have p:kT nm x=ZU:=by
       cases h:kT nm x
       . rfl
       . exact absurd (Ft.2 h) (by rw [l];exact O)
      have F:Hid (R5 w os x (Z7 Z9 (a:Nat)) (Z7 Z9 (m:Nat)) w1):=hide ⟨a,m,by omega,by omega,rfl,rfl,(λk q h=>o k q h),(λk q h=>by
       rcases Yc h with e|J
       . subst e;rw [d];exact p
       . have:=Oc H.out.2 K q J;rw [d] at this;cases hx:kT os[k].name x
         . rfl
         . rw [qK this hx] at p;cases p),g⟩
      clear o n f d u g p l r z A E;dsimp only;have k7:a<=m:=(by omega);have X:m<b:=(by omega);clear D Q;go_wp2;refine ⟨F.out,?_⟩;show ((m:Int)).toNat-((a:Int)).toNat<((b:Int)).toNat-((a:Int)).toNat;omega
  . have S:a=b:=(by omega);subst S;have y:aD (bg os) x=a:=gB _ _ _ (by rw [bS];omega) (λj W h=>by
     have hz:j<os.length:=(by rwa [bS] at W);simpa [bg] using o j hz h) (λV=>by
     have hy:a<os.length:=(by rwa [bS] at V);simpa [bg] using n a hy lR)
    by_cases hr:a<N
    . have Y:a<os.length:=M.symm▸hr;obtain ⟨b0,off,L,rfl,Z,_,z,A,E,_⟩:=(H.out.1.keep (eR.TF f)).at' (k:=a) Y;obtain ⟨nm,d⟩:=nM (os[a].name);obtain ⟨t,C⟩:∃ t:Int,((os[a].size:Nat):Int)=t:=⟨_,rfl⟩;have B:lZ os x=decide (rO nm x=0):=by
       unfold lZ;rw [y,XX (by rw [bS];omega)];simp only [bg,Yf,d];exact decide_eq_decide.2 Fu.symm
      rw [d] at z;rw [C] at A;have U:(a:Int)<(N:Int):=(by omega);have r:=hide f;have G:=hide2 y B;clear o n f d y B C;go_wp2_with fail;refine (xH nm x t L wr).mono ?_;rintro e w1 ⟨rfl,u⟩;obtain ⟨I,l⟩:=nM (rO nm x);have s:=hide2 G.out.1 (G.out.2.trans (by rw [l]));rw [l];have g:Hid (bW w w1):=hide (r.out.trans (u.mono r.out.size));clear u r G z A E l;by_cases P:I=0
      . subst P;go_wp2;go_ret2;refine ⟨?_,g.out⟩;rw [s.out.1,s.out.2];rfl
      . go_wp2;go_ret2;refine ⟨?_,g.out⟩;rw [s.out.1,s.out.2];simp [P]
    . have B:lZ os x=ZU:=by
       unfold lZ;rw [y,List.getElem?_eq_none (by rw [bS];omega)]
      have U:¬ (a:Int)<(N:Int):=(by omega);have g:Hid (bW w wr):=hide f;have s:=hide2 y B;clear o n f y B;go_wp2;go_ret2;refine ⟨?_,g.out⟩;rw [s.out.1,s.out.2];rfl
theorem Ld {v:ZS} {os:List Ob} (hC:gE (λk=>k<w.heap.size) w v os) (f:os.length<=10000) (g:Up (bg os)) (x:ByteArray) :
 ZR ZQ 73 #[v,Z0 x] w λe w'=>e=Z3 (ZZ #[Z7 Z9 (aD (bg os) x:Nat),Z2 (lZ os x)])/\bW w w':=by
 have a:=Ej hC f g x;obtain ⟨n,d⟩:=nM (aD (bg os) x);obtain ⟨i,c⟩:=nM (lZ os x);rw [d,c] at a ⊢;clear d c;go_enter func73,ntmps73;go_wp2_with fail;refine a.mono ?_;rintro e w1 ⟨rfl,b⟩;have H:=hide b;clear b a hC;go_wp2;go_ret2;exact ⟨rfl,H.out⟩
theorem nh (n m:Nat) (h:n<=1000000) (f:1<=m/\m<=1000000) (w:ZT):ZR ZQ 100 #[Z7 Z9 n,Z7 Z9 m] w λe w'=>e=Z3 (Z7 Z9 ((max 1 ((n+m-1)/m):Nat):Int))/\w'=w:=by
 have a:=tN n m (by omega) f w;obtain ⟨q,b⟩:=nM ((n+m-1)/m);rw [b] at a;rw [b];have g:∀ (d:TypeId) (w:ZT),(Builtin.max_ #[3,3] d #[Z7 Z9 1,Z7 Z9 (q:Int)]).run ZQ w=.ok (Z7 Z9 ((max 1 q:Nat):Int)) w:=λd w=>by
  rw [lE];congr 2;split<;>omega
 clear b;go_enter func100,ntmps100;go_wp2_with fail;refine a.mono ?_;rintro e w' ⟨rfl,c⟩;obtain rfl:w=w':=c.symm;clear a c;go_wp2;go_ret;exact ⟨rfl,rfl⟩
section
def tZ (x y:List Nat) (c:Nat):(iL x y c).length=x.length:=by simp [iL]
def Hi {x y:List Nat} (e:∀ a∈x,a<256) (d:c<256):∀ a∈iL x y c,a<256:=by
 intro a b;simp only [iL,XZ,X6] at b;obtain ⟨j,_,rfl⟩:=b;exact Nat.xor_lt_two_pow (n:=8) (eG e j) (aV _ d)
theorem zI (b d n c:Nat) (x y:List Nat) (w:ZT) (p:c<256) (q:aL w b x) (r:aL w d y) (f:x.length=n) (s:y.length=n) (l:d≠b) (m:∀ a∈x,a<256) (o:∀ a∈y,a<256) (v:n<=100000) :
 ZR ZQ 91 #[Z5 (ZW ⟨b,0,ZX⟩) n n,Z5 (ZW ⟨d,0,ZX⟩) n n,Z7 .u8 c] w λe w'=>e=Z3 (ZZ #[])/\aL w' b (iL x y c)/\w.grownBy w' (ZW b):=by
 have hr:w.rowIs b 5 n (tv (λi=>x.getD i 0)):=by
  have:=q;unfold aL at this;rw [f] at this;exact this
 refine (jy b 5 n 0 n n d 0 n c (λi=>x.getD i 0) (λi=>y.getD i 0) w p hr (λj=>eG m j) (λj=>eG o j) (by omega) (by omega) (λi t=>by rw [XY];exact r.cell i (by omega)) (.inl l)).mono ?_;rintro e w' ⟨rfl,g,h⟩;refine ⟨rfl,?_,h⟩;unfold aL;rw [tZ,f];refine g.congr λj u=>?_;have k:j<x.length:=by omega
 unfold tv vb gQ iL;rw [if_pos (by omega)];simp [k]
structure Rn (w0:ZT) (B:Nat) (P:List St) (D R0:List (List Nat)) (n r gR k:Nat) (vO:ZS) (T:List (Nat×Nat×List Nat)) (O:List (Int×Nat×Nat×List Nat)) (wr:ZT):Prop where
 TQ:iV wr B (Z5 (ZW ⟨gR,0,ZX⟩) r r) T
 hold:di T n (bR P D R0 k)
 len:∀ l∈bR P D R0 k,l.length=n
 outs:mS 252 wr B vO O
 vals:O.map (λq=>(q.1,q.2.2.2.take q.2.2.1))=dn P D R0 k
 apart:∀ p∈T,∀ q∈O,p.1≠q.2.1
 below:Below B w0 wr
 size:B<=wr.heap.size
variable {w0:ZT} {B:Nat} {P:List St} {D R0:List (List Nat)} {n r gR k:Nat} {vO:ZS} {T:List (Nat×Nat×List Nat)} {O:List (Int×Nat×Nat×List Nat)} {w:ZT}
def Rn.next (h:Rn w0 B P D R0 n r gR k vO T O w) {w':ZT} (a:bW w w'):Rn w0 B P D R0 n r gR k vO T O w':=
 ⟨h.TQ.below a,h.hold,h.len,h.outs.below a,h.vals,h.apart,h.below.trans (a.mono h.size),XN h.size a.size⟩
def Rn.V4 (h:Rn w0 B P D R0 n r gR k vO T O w):T.length=r:=by
 rcases h.TQ.shape with ⟨e,_⟩|⟨g,cap,e,_⟩
 . simp at e
 . simp at e;omega
theorem Rn.Wf (h:Rn w0 B P D R0 n r gR k vO T O w) (A:Nat) (C:A<r):∃ g,(∃ a:A<T.length,T[A]=(g,n,(bR P D R0 k).getD A []))/\w.cell? ⟨gR,A,ZX⟩=ZW (Z5 (ZW ⟨g,0,ZX⟩) n n)/\aL w g ((bR P D R0 k).getD A [])/\((bR P D R0 k).getD A []).length=n/\(∀ x∈(bR P D R0 k).getD A [],x<256)/\g≠gR/\B<=g/\g<w.heap.size/\gR<w.heap.size/\B<=gR:=by
 have hl:=h.V4;have a:A<T.length:=by omega
 have E:=pZ h.hold;have c:A<(bR P D R0 k).length:=by omega
 have d:=h.hold.at a c;have o:(bR P D R0 k).getD A []=(bR P D R0 k)[A]:=by simp [c]
 have l:=h.len _ (XI c);obtain ⟨m,b,y,z,i⟩:=h.TQ.row _ (XI a);rw [o];have p:T[A]=(T[A].1,n,(bR P D R0 k)[A]):=by rw [<- d]
 have j:T[A].2.2=(bR P D R0 k)[A]:=by rw [d]
 have q:T[A].2.1=n:=by rw [d]
 rcases h.TQ.shape with ⟨e,_⟩|⟨g,cap,e,v,_,_,s,u,_,t⟩
 . simp at e
 . simp at e;obtain ⟨rfl,_⟩:=e;have f:=u A a;unfold lB at f;rw [j,q,l] at f;rw [j] at b i;exact ⟨T[A].1,⟨a,p⟩,f,b,l,i,t _ (XI a),m,b.lt,s,v⟩
theorem Rn.write (h:Rn w0 B P D R0 n r gR k vO T O w) {w':ZT} {A g:Nat} {l0 src:List Nat} (s:∃ s:A<T.length,T[A]=(g,n,l0)) (z:l0.length=n) (b:w.grownBy w' (ZW g)) (v:aL w' g src) (hl:src.length=n) (y:∀ x∈src,x<256)
 (hr:bR P D R0 (k+1)=(bR P D R0 k).set A src) (ho:dn P D R0 (k+1)=dn P D R0 k):∃ T',Rn w0 B P D R0 n r gR (k+1) vO T' O w':=by
 obtain ⟨f,e⟩:=s;have d:=XI f;obtain ⟨m,o,_⟩:=h.TQ.row _ d;have a:T[A].1=g:=by rw [e]
 have u:T[A].2.2=l0:=by rw [e]
 rw [a] at m o;refine ⟨T.set A (T[A].1,T[A].2.1,src),?_,?_,?_,?_,?_,?_,?_,?_⟩
 . exact h.TQ.wrote f (by rw [a];exact b) (by rw [a];exact v) (by rw [u];omega) y
 . rw [hr];exact Gz h.hold A f src
 . rw [hr];intro l i;rcases YM i with i|rfl
   . exact h.len l i
   . exact hl
 . exact h.outs.aside o b (λq c t=>h.apart _ d q c (by rw [a,t]))
 . rw [ho];exact h.vals
 . intro p j q c;rcases YM j with j|rfl
   . exact h.apart p j q c
   . exact h.apart _ d q c
 . exact iZ h.below b h.size m
 . exact XN h.size b.size
def Rn.VA (h:Rn w0 B P D R0 n r gR k vO T O w) {A X g d:Nat} {l p:List Nat} (c:∃ c:A<T.length,T[A]=(g,n,l)) (a:∃ c:X<T.length,T[X]=(d,n,p)) (o:A≠X):d≠g:=by
 obtain ⟨f,e⟩:=c;obtain ⟨a,m⟩:=a;have i:=X1.1 h.TQ.nodup;intro q;have j:T[A].1=T[X].1:=by rw [e,m];exact q.symm
 rcases Nat.lt_or_gt_of_ne o with b|b
 . exact i A X (by simpa using f) (by simpa using a) b (by simpa using j)
 . exact i X A (by simpa using a) (by simpa using f) b (by simpa using j.symm)
def ub {B':Nat} {ys:List ZS} {vO:ZS} (h:w.ownsRow B 34 1 (Z5 (ZW ⟨g,0,ZX⟩) c m) n xs) {n':Nat} (l:w.ownsRow B' 252 2 vO n' ys):vO.ownBlock≠ZW g:=by
 intro e;rcases h.2 with ⟨a,_⟩|⟨g1,cap,cur,f,o,j,_⟩
 . simp at a
 . simp at f;obtain ⟨rfl,_⟩:=f;rcases l.2 with ⟨a,_⟩|⟨q,b,d,k,p,i,_⟩
   . rw [a] at e;simp [Value.ownBlock] at e
   . rw [k] at e;simp [Value.ownBlock] at e;subst e;rw [j] at i;simp at i
theorem xF (P:List St) (D R0:List (List Nat)):∀ k,(dn P D R0 k).length<=k
 | 0=>XR _
 | k+1=>by
  have:=xF P D R0 k;unfold dn gZ;split<;>simp<;>omega
theorem Rn.Wg (h:Rn w0 B P D R0 n r gR k vO T O w):O.length<=k:=by
 have:=congrArg List.length h.vals;rw [XK] at this;rw [this];exact xF P D R0 k
theorem Rn.put (h:Rn w0 B P D R0 n r gR k vO T O w) {w1 v:ZT} {o:Obj} {b m:Nat} {l:List Nat} {sh:Int} {vO':ZS} (z:bW w w1) (I:w.heap.size<=b) (F:aL w1 b (l++XJ m 0)) (hl:l.length=n) (L:n<=100000) (K:n+m<=9223372036854775807) (H:∀ x∈l,x<256)
 (g:(w1.alloc o).grownBy v vO.ownBlock) (C:v.ownsRow B 252 2 vO' (O.length+1) (pY O++[Z7 Z9 sh,Z5 (ZW ⟨b,0,ZX⟩) n (n+m)]))
 (hr:bR P D R0 (k+1)=bR P D R0 k) (ho:dn P D R0 (k+1)=dn P D R0 k++[(sh,l)]):Rn w0 B P D R0 n r gR (k+1) vO' T (O++[(sh,b,n,l++XJ m 0)]) v:=by
 have f:=(h.next z).next ((Below.refl w1.heap.size w1).alloc lR o);have M:=h.size;have J:=z.size;have E:(l++XJ m 0).length=n+m:=by simp [hl]
 have y:=F.alloc o;refine ⟨?_,by rw [hr];exact h.hold,by rw [hr];exact h.len,?_,?_,?_,?_,?_⟩
 . refine ⟨f.TQ.own.kept g (.inr λe=>?_),λp s=>?_,f.TQ.nodup⟩
   . exact ub f.TQ.own f.outs.own (by rw [<- e];rfl)
   . obtain ⟨t,i,u⟩:=f.TQ.row p s;exact ⟨t,i.grown g (λe=>yZ f.outs.own i e.symm),u⟩
 . refine ⟨?_,λq d=>?_,?_⟩
   . rw [rk];simpa [pY,lB,E,hl] using C
   . rcases XT.1 d with d|d
     . obtain ⟨t,i,u⟩:=f.outs.row q d;exact ⟨t,i.grown g (λe=>yZ f.outs.own i e.symm),u⟩
     . simp at d;subst d;refine ⟨by show B<=b;omega,y.grown g (λe=>yZ f.outs.own y e.symm),by show n<=(l++XJ m 0).length;omega,⟨by show n<=140737488355328;omega,by show (l++XJ m 0).length<=9223372036854775807;omega⟩,?_⟩;intro x j;rcases XT.1 j with j|j
       . exact H x j
       . have:=YK j;omega
   . rw [Ya,Yt];refine ⟨h.outs.nodup,by simp,?_⟩;intro a G c A;obtain ⟨q,d,rfl⟩:=XZ.1 G;simp at A;subst A;have:=(h.outs.row q d).2.1.lt;omega
 . rw [ho,Ya,h.vals];simp [<- hl]
 . intro p s q d;rcases XT.1 d with d|d
   . exact h.apart p s q d
   . simp at d;subst d;have:=(h.TQ.row p s).2.1.lt;show p.1≠b;omega
 . exact f.below.grown g f.size (λq d=>(f.outs.own.lt q d).1)
 . exact XN f.size g.size
end
theorem Ec (hl:fG w sb room) {D L G:Int} {es:List (Nat×Nat×Nat)} (i:w.heap[sb+1]?=ZW (.map (dN D L G es).toArray n)) {x:Nat} (y:x∉cV es) :
 ZR ZQ 167 #[Z6 (ZW ⟨sb+1+1,0,ZX⟩),bP D L G x ZV] w λe w'=>e=Z3 (ZZ #[.agg #[Z7 Z9 0,Z5 ZX 0 0],Z2 ZU])/\bW w w':=by
 have l1:w.cell? ⟨sb+1+1,1,ZX⟩=ZW (.map (ZW (sb+1))):=by
  have u:w.heap[sb+1+1]?=_:=hl;simp [World.cell?,u]
 have k:∀ w',bW w w'->(Instr.lookup 263 (.map (ZW (sb+1))) (bP D L G x ZV) ZV).run ZQ w'=.ok (ZZ #[.pointer ZX,Z2 ZU]) w':=λw' z=>KS ((z.block _ (XH.1 i).1).trans i) y;obtain ⟨w2,f⟩:=nM ((w.alloc (Z4 #[Z7 Z9 D,Z7 Z9 L,Z7 Z9 G,Z7 Z8 (x:Nat),Z2 ZV] 228)).alloc (Z4 #[Z7 Z9 0,Z5 ZX 0 0] 210));have a:bW w w2:=by rw [<- f];exact (bA w _).alloc (by simp) _
 have d:w2.heap[w.heap.size]?=ZW (Z4 #[Z7 Z9 D,Z7 Z9 L,Z7 Z9 G,Z7 Z8 (x:Nat),Z2 ZV] 228 (0,0)):=by rw [<- f];exact (blk_alloc_lt _ _ _ (by simp)).trans (blk_alloc_new _ _)
 have q:w2.cell? ⟨w.heap.size,0,ZX⟩=ZW (Z7 Z9 D):=by simp [World.cell?,d]
 have c1:w2.cell? ⟨w.heap.size,1,ZX⟩=ZW (Z7 Z9 L):=by simp [World.cell?,d]
 have r:w2.cell? ⟨w.heap.size,2,ZX⟩=ZW (Z7 Z9 G):=by simp [World.cell?,d]
 have s:w2.cell? ⟨w.heap.size,3,ZX⟩=ZW (Z7 Z8 (x:Nat)):=by simp [World.cell?,d]
 have t:w2.cell? ⟨w.heap.size,4,ZX⟩=ZW (Z2 ZV):=by simp [World.cell?,d]
 have h:w2.heap[w.heap.size+1]?=ZW (Z4 #[Z7 Z9 0,Z5 ZX 0 0] 210 (0,0)):=by
  have:=blk_alloc_new (w.alloc (Z4 #[Z7 Z9 D,Z7 Z9 L,Z7 Z9 G,Z7 Z8 (x:Nat),Z2 ZV] 228)) (Z4 #[Z7 Z9 0,Z5 ZX 0 0] 210);rw [World.size_alloc] at this;rw [<- f];exact this
 have A:=(a.cell (p:=⟨sb+1+1,1,ZX⟩) (block_lt_of_cell l1)).trans l1;have j:=k w2.drew a.drew;unfold bP at j ⊢;have c:w2.heap.size=w.heap.size+2:=by rw [<- f];simp
 have H:=hide3 a h c;clear hl i k a d h c;go_enter func167,ntmps167;go_wp2;go_region;obtain ⟨a,h,c⟩:=H.out;have b:bW w2 (w2.drew.alloc (Z4 #[Z7 Z9 0,Z5 ZX 0 0] 210)):=((Below.refl _ w2).drew).alloc lR _;obtain ⟨C,m⟩:=nM (w2.drew.alloc (Z4 #[Z7 Z9 0,Z5 ZX 0 0] 210));rw [m] at b;have g:=(b.block (w.heap.size+1) (by omega)).trans h;obtain ⟨F,I,g1,E⟩:=aG g;have l:C.heap[w2.heap.size]?=ZW (Z4 #[Z7 Z9 0,Z5 ZX 0 0] 210 (0,0)):=by rw [<- m];exact blk_alloc_new w2.drew _
 obtain ⟨J,K,_,_⟩:=aG l;have o:=hide4 g b a c;clear a h c b g l q c1 r s t l1 A j f;go_wp2;obtain ⟨g,b,a,c⟩:=o.out;obtain ⟨n0,B,_⟩:=aG (ll (y':=Z5 ZX 0 0) (lj (x':=Z7 Z9 0) g));refine bodyPost_ret (v:=ZZ #[.agg #[Z7 Z9 0,Z5 ZX 0 0],Z2 ZU]) (by simp [results,results167,go_sem,n0,B]) rfl ?_;exact ⟨rfl,((a.trans (b.mono a.size)).setCell (p:=⟨w.heap.size+1,0,ZX⟩) (by show w.heap.size<=w.heap.size+1;omega) _).setCell (p:=⟨w.heap.size+1,1,ZX⟩) (by show w.heap.size<=w.heap.size+1;omega) _⟩
theorem Hk {D L G:Int} (hl:fG w sb room) (J:w.heap[sb+1]?=ZW (.map (dN D L G es).toArray n)) (I:k<es.length) (Q:(cV es).Nodup) (k7:es[k].1=x) (R:es[k].2.1=nb) (h:pN w S cn nw ol) (l:∀ a,S a->a≠sb+1/\a≠sb+1+1) (f:S nb) (O:S (nw nb)) (E:S (ol nb)) (r:S sb) (P:S (ol sb)) (o:cn nb=⟨D,L,G,(x:Nat),ZV,regs,.slice ao m c⟩) :
 ZR ZQ 167 #[Z6 (ZW ⟨sb+1+1,0,ZX⟩),bP D L G x ZV] w λe w'=>e=Z3 (ZZ #[.agg #[Z7 Z9 regs,.slice ao m c],Z2 ZV])/\pN w' S cn (il (il (il nw (ol nb) (nw nb)) nb sb) (il ol (nw nb) (ol nb) sb) nb) (il (il (il ol (nw nb) (ol nb)) nb (il ol (nw nb) (ol nb) sb)) sb nb)/\aa S w w':=by
 obtain ⟨w2,A⟩:=nM ((w.alloc (Z4 #[Z7 Z9 D,Z7 Z9 L,Z7 Z9 G,Z7 Z8 (x:Nat),Z2 ZV] 228)).alloc (Z4 #[Z7 Z9 0,Z5 ZX 0 0] 210));have b:bW w w2:=by rw [<- A];exact (bA w _).alloc (by simp) _
 have i:w2.heap.size=w.heap.size+2:=by rw [<- A];simp
 have u:w2.heap[w.heap.size]?=ZW (Z4 #[Z7 Z9 D,Z7 Z9 L,Z7 Z9 G,Z7 Z8 (x:Nat),Z2 ZV] 228 (0,0)):=by rw [<- A];exact (blk_alloc_lt _ _ _ (by simp)).trans (blk_alloc_new _ _)
 have c0:w2.cell? ⟨w.heap.size,0,ZX⟩=ZW (Z7 Z9 D):=by simp [World.cell?,u]
 have c1:w2.cell? ⟨w.heap.size,1,ZX⟩=ZW (Z7 Z9 L):=by simp [World.cell?,u]
 have c2:w2.cell? ⟨w.heap.size,2,ZX⟩=ZW (Z7 Z9 G):=by simp [World.cell?,u]
 have c3:w2.cell? ⟨w.heap.size,3,ZX⟩=ZW (Z7 Z8 (x:Nat)):=by simp [World.cell?,u]
 have c4:w2.cell? ⟨w.heap.size,4,ZX⟩=ZW (Z2 ZV):=by simp [World.cell?,u]
 have s:w2.heap[w.heap.size+1]?=ZW (Z4 #[Z7 Z9 0,Z5 ZX 0 0] 210 (0,0)):=by
  have:=blk_alloc_new (w.alloc (Z4 #[Z7 Z9 D,Z7 Z9 L,Z7 Z9 G,Z7 Z8 (x:Nat),Z2 ZV] 228)) (Z4 #[Z7 Z9 0,Z5 ZX 0 0] 210);rw [World.size_alloc] at this;rw [<- A];exact this
 have p:sb+1+1<w.heap.size:=(XH.1 hl).1;have g:fG w2 sb room:=(b.block _ p).trans hl;have l1:=(ga g).2.1;have T:pN w2 S cn nw ol:=λa t=>(h a t).keep (b.block _ (h a t).lt);have d:∀ a,S a->a<w.heap.size:=λa t=>(h a t).lt;have K:=M9 (w:=w2.drew) ((b.block _ (XH.1 J).1).trans J) I Q;rw [k7,R] at K;have Y:=ry (w:=w2.drew) (show pN w2.drew S cn nw ol from T) f O E;have j:S (il ol (nw nb) (ol nb) sb):=by
  by_cases e:sb=nw nb
  . rw [e,eC];exact E
  . rw [eO _ e];exact P
 unfold bP at K ⊢;have H:=hide12 b s i g d l f r j o p Y;clear hl J h b u s i g T Y l f O E r P j o d Q I k7 R p;go_enter func167,ntmps167;go_wp2;go_region;clear c0 c1 c2 c3 c4 l1 K A;go_wp2_with fail;refine H.out.2.2.2.2.2.2.2.2.2.2.2.mono ?_;rintro e M ⟨rfl,hr,U⟩;obtain ⟨b,s,i,g,d,l,f,r,j,o,p,_⟩:=H.out;have F:aa S w2 M:=(aa.drew w2).trans U;have X:=zv (w:=M) (n:=nb) (show fG M sb room from (F.block _ (by omega) (λq=>(l _ q).2 rfl)).trans g) hr f r j;have N:=hide2 F X;clear b s i g d l f r j o hr U F X p;go_wp2_with fail;refine N.out.2.mono ?_;rintro e C ⟨rfl,z,V⟩;obtain ⟨b,s,i,g,d,l,f,r,j,o,p,_⟩:=H.out;have y:aa S w2 C:=N.out.1.trans V;have B:=(y.block (w.heap.size+1) (by omega) (λq=>by have:=d _ q;omega)).trans s;have Z:=(z nb f).value;rw [o] at Z;obtain ⟨v5,v6⟩:=Z;obtain ⟨r0,r1,g1,g0⟩:=aG B;have H4:=hide6 z y B b i d;clear b s i g d l f r j o z V y B p;go_wp2;obtain ⟨z,y,B,b,i,d⟩:=H4.out;obtain ⟨n0,n1,_⟩:=aG (ll (y':=.slice ao m c) (lj (x':=Z7 Z9 regs) B));refine bodyPost_ret (v:=ZZ #[.agg #[Z7 Z9 regs,.slice ao m c],Z2 ZV]) (by simp [results,results167,go_sem,n0,n1]) rfl ?_;have W:aa (λk=>k=w.heap.size+1) C ((C.setCell ⟨w.heap.size+1,0,ZX⟩ (Z7 Z9 regs)).setCell ⟨w.heap.size+1,1,ZX⟩ (.slice ao m c)):=ik C (w.heap.size+1) 0 1 _ _;exact ⟨rfl,z.keep W (λa t e=>by have:=d a t;omega),((aa.TG b _).trans y).later W (λk I q=>by omega)⟩
theorem zJ (hl:fG w sb room) {n:Nat} {ne0 k:ZS} (j:jG w n (cn n).D (cn n).L (cn n).G (cn n).lost (cn n).rd (cn n).regs (cn n).steps ne0 k) (h:pN w (λa=>S a/\a≠n) cn nw ol) (c:S n) (d:S sb) (o:sb≠n) (ho:S (ol sb)) :
 ZR ZQ 186 #[Z6 (ZW ⟨sb+1+1,0,ZX⟩),Z6 (ZW ⟨n,0,ZX⟩)] w λe w'=>e=Z3 (ZZ #[])/\pN w' S cn (il (il nw n sb) (ol sb) n) (il (il ol n (ol sb)) sb n)/\aa S w w':=by
 have v:=(ga hl).2.2;obtain ⟨p,_,q,_⟩:=j.cells;obtain ⟨_,t,_,_⟩:=(h sb ⟨d,o⟩).cells;have g:=j.UL (Z6 (ZW ⟨sb,0,ZX⟩));obtain ⟨_,r,_,s⟩:=g.cells;have l:pN ((w.setCell ⟨n,7,ZX⟩ (Z6 (ZW ⟨sb,0,ZX⟩))).setCell ⟨n,8,ZX⟩ (Z6 (ZW ⟨ol sb,0,ZX⟩))) S cn (il nw n sb) (il ol n (ol sb)):=λa u=>by
  by_cases e:a=n
  . subst e;rw [eC,eC];exact g.UA _
  . rw [eO _ e,eO _ e];exact ((h a ⟨u,e⟩).keep (blk_setCell_other _ _ _ _ e)).keep (blk_setCell_other _ _ _ _ e)
 obtain ⟨w2,i⟩:=nM (((w.setCell ⟨n,7,ZX⟩ (Z6 (ZW ⟨sb,0,ZX⟩))).setCell ⟨n,8,ZX⟩ (Z6 (ZW ⟨ol sb,0,ZX⟩))).drew);have b:pN w2 S cn (il nw n sb) (il ol n (ol sb)):=by rw [<- i];exact l
 have m:aa S w w2:=by rw [<- i];exact ((aa.setCell _ _ _ c).trans (aa.setCell _ _ _ c)).trans (aa.drew _)
 obtain ⟨x,A,_,_⟩:=(b n c).cells;rw [eC] at x A;have f:=b.UA sb n;obtain ⟨_,B,_,t8⟩:=(b sb d).cells;obtain ⟨C,_,E,_⟩:=(f (ol sb) ho).cells;have H:=hide4 (f.UL (ol sb) n) m d ho;clear h g l b f hl j d ho m c o;generalize ol sb=y at *;generalize il ol n y sb=z at *;generalize il nw n sb y=F at *;go_enter func186,ntmps186;go_wp2;go_region;clear i p q t r s v;go_wp2;go_region;go_end0
 exact ⟨rfl,H.out.1,H.out.2.1.trans (((aa.setCell _ _ _ H.out.2.2.1).trans (aa.setCell _ _ _ H.out.2.2.2)).trans (aa.drew _))⟩
def R6 (cn:Nat->Fp) (N:Nat) (c:Fp):Nat->Fp:=λa=>if a=N then c else cn a
def jG.key {D L G lost:Int} {rd:Bool} {steps ne ol:ZS} (h:jG w n D L G lost rd regs steps ne ol):w.cell? ⟨n,0,ZX⟩=ZW (Z7 Z9 D)/\w.cell? ⟨n,1,ZX⟩=ZW (Z7 Z9 L)/\w.cell? ⟨n,2,ZX⟩=ZW (Z7 Z9 G)/\w.cell? ⟨n,3,ZX⟩=ZW (Z7 Z8 lost)/\w.cell? ⟨n,4,ZX⟩=ZW (Z2 rd):=by
 have a:w.heap[n]?=ZW (Z4 (mY D L G lost rd regs steps ne ol) 262 (0,0)):=h;simp [World.cell?,a,mY]
def Od (w':ZT) (sb:Nat) (room:Int) (D L G:Int) (es:List (Nat×Nat×Nat)) (S:Nat->Prop) (cn:Nat->Fp) (nw ol:Nat->Nat):Prop:=
 (((es.length:Nat):Int)<=room->(∃ n,w'.heap[sb+1]?=ZW (.map (dN D L G es).toArray n))/\pN w' S cn nw ol) /\
 (room<((es.length:Nat):Int)->∃ j,∃ hj:j<es.length,es[j].2.1=nw sb/\(∃ n,w'.heap[sb+1]?=ZW (.map (dN D L G (es.eraseIdx j)).toArray n))/\pN w' S cn (il nw (ol (nw sb)) (nw (nw sb))) (il ol (nw (nw sb)) (ol (nw sb))))
theorem Ek {D L G:Int} (hl:fG w sb room) (hm:w.heap[sb+1]?=ZW (.map (dN D L G es).toArray n)) (q3:x∉cV es) (h:pN w S cn nw ol) (i:∀ a,S a->a≠sb+1/\a≠sb+1+1) (v:S sb) (E:S (ol sb)) {N:Nat} (hN:N=w.heap.size+1+1) {cn':Nat->Fp} (k5:cn'=R6 cn N ⟨D,L,G,(x:Nat),ZV,regs,.slice ao m c⟩) {nw' o:Nat->Nat} (k9:nw'=il (il nw N sb) (ol sb) N) (ka:o=il (il ol N (ol sb)) sb N) {b:List (Nat×Nat×Nat)} (k6:b=es++[(x,N,n)])
 (hB:room<((b.length:Nat):Int)->(cV b).Nodup/\∃ j,∃ hj:j<b.length,b[j].2.1=nw' sb/\(∃ rg st,cn' (nw' sb)=⟨D,L,G,(b[j].1:Nat),ZV,rg,st⟩)/\(nw' sb=N\/S (nw' sb))/\(nw' (nw' sb)=N\/S (nw' (nw' sb)))/\(o (nw' sb)=N\/S (o (nw' sb)))) :
 ZR ZQ 169 #[Z6 (ZW ⟨sb+1+1,0,ZX⟩),bP D L G x ZV,.agg #[Z7 Z9 regs,.slice ao m c]] w λe w'=>e=Z3 (ZZ #[])/\Od w' sb room D L G b (λa=>a=N\/S a) cn' nw' o/\aa (λk=>S k\/k=sb+1) w w':=by
 subst hN;obtain ⟨f,kj⟩:=nM (((w.alloc (Z4 #[Z7 Z9 D,Z7 Z9 L,Z7 Z9 G,Z7 Z8 (x:Nat),Z2 ZV] 228)).alloc (Z4 #[Z7 Z9 regs,.slice ao m c] 210)).alloc (Z4 #[Z7 Z9 D,Z7 Z9 L,Z7 Z9 G,Z7 Z8 (x:Nat),Z2 ZV,Z7 Z9 regs,.slice ao m c,.pointer ZX,.pointer ZX] 262));have d:bW w f:=by rw [<- kj];exact ((bA w _).alloc (by simp) _).alloc (by simp;omega) _
 obtain ⟨O,_,hn⟩:=mZ w (Z4 #[Z7 Z9 D,Z7 Z9 L,Z7 Z9 G,Z7 Z8 (x:Nat),Z2 ZV] 228) (Z4 #[Z7 Z9 regs,.slice ao m c] 210) (Z4 #[Z7 Z9 D,Z7 Z9 L,Z7 Z9 G,Z7 Z8 (x:Nat),Z2 ZV,Z7 Z9 regs,.slice ao m c,.pointer ZX,.pointer ZX] 262);rw [kj] at O hn;have J:jG f (w.heap.size+1+1) D L G (x:Nat) ZV regs (.slice ao m c) (.pointer ZX) (.pointer ZX):=hn;have W:sb+1+1<w.heap.size:=(XH.1 hl).1;have p:fG f sb room:=(d.block _ W).trans hl;have ky:=(d.block _ (by omega)).trans hm;have Q:pN f S cn nw ol:=λa g=>(h a g).keep (d.block _ (h a g).lt);have s:∀ a,S a->a<w.heap.size:=λa g=>(h a g).lt;have c0:f.cell? ⟨w.heap.size,0,ZX⟩=ZW (Z7 Z9 D):=by simp [World.cell?,O]
 have c1:f.cell? ⟨w.heap.size,1,ZX⟩=ZW (Z7 Z9 L):=by simp [World.cell?,O]
 have c2:f.cell? ⟨w.heap.size,2,ZX⟩=ZW (Z7 Z9 G):=by simp [World.cell?,O]
 have c3:f.cell? ⟨w.heap.size,3,ZX⟩=ZW (Z7 Z8 (x:Nat)):=by simp [World.cell?,O]
 have c4:f.cell? ⟨w.heap.size,4,ZX⟩=ZW (Z2 ZV):=by simp [World.cell?,O]
 obtain ⟨_,l1,_⟩:=ga p;have kh:=Na (w:=f.drew) ky q3 (w.heap.size+1+1);have l:aa (λk=>k=sb+1) f (f.drew.putObj (sb+1) (.map (dN D L G (es++[(x,w.heap.size+1+1,n)])).toArray (n+1))):=(aa.drew f).trans (aa.putObj _ _ _ rfl);have u:(f.drew.putObj (sb+1) (.map (dN D L G (es++[(x,w.heap.size+1+1,n)])).toArray (n+1))).heap[sb+1]?=ZW (.map (dN D L G (es++[(x,w.heap.size+1+1,n)])).toArray (n+1)):=by
  have hz:=d.size;unfold World.putObj;exact YN (by show sb+1<f.heap.size;omega)
 obtain ⟨w4,q2⟩:=nM (f.drew.putObj (sb+1) (.map (dN D L G (es++[(x,w.heap.size+1+1,n)])).toArray (n+1)));rw [q2] at kh l u;unfold bP at kh ⊢;have P:=hide5 k5 k9 ka k6 hB;clear k5 k9 ka k6 hB;have H:=hide11 d J p Q l u W s i v E;clear hl hm h d J p ky Q l u O hn q2 s i v E q3;go_enter func169,ntmps169;go_wp2;go_region;clear c0 c1 c2 c3 c4 l1 kh kj;obtain ⟨d,J,p,Q,l,u,W,s,i,v,E⟩:=H.out;have q7:=d.size;have q0:=J.lt;have kk:∀ a,S a->a≠w.heap.size+1+1:=λa g=>by have:=s a g;omega
 have kp:cn' (w.heap.size+1+1)=⟨D,L,G,(x:Nat),ZV,regs,.slice ao m c⟩:=by rw [P.out.1];exact if_pos rfl
 have kr:∀ a,S a->cn' a=cn a:=λa g=>by rw [P.out.1];exact if_neg (kk a g)
 have q1:=zJ (w:=w4) (S:=λa=>a=w.heap.size+1+1\/S a) (cn:=cn') (nw:=nw) (ol:=ol) (n:=w.heap.size+1+1) (show fG w4 sb room from (l.block _ (by omega) (by omega)).trans p) (by rw [kp];exact J.keep (l.block _ J.lt (by omega))) (λa g=>by
  have kb:=g.1.resolve_left g.2;rw [kr a kb];exact (Q a kb).keep (l.block _ (Q a kb).lt (i a kb).1)) (.inl rfl) (.inr v) (kk sb v) (.inr E)
 have H4:=hide7 u l p d q0 W q1;clear d J p Q l u q1 kp kr;go_wp2_with fail;refine H4.out.2.2.2.2.2.2.mono ?_;rintro e C ⟨rfl,A,B⟩;obtain ⟨u,l,p,d,q0,W,_⟩:=H4.out;obtain ⟨_,_,_,_,_,_,_,s,i,v,E⟩:=H.out;have Y:aa (λk=>k=sb+1\/k=w.heap.size+1+1\/S k) f C:=(l.mono λ_ _ q=>.inl q).trans (B.mono λ_ _ q=>.inr q);have I:fG C sb room:=(Y.block _ (by omega) (λq=>by
  rcases q with q|q|q
  . omega
  . omega
  . exact (i _ q).2 rfl)).trans p
 have q8:=l.size;have r:=(B.block (sb+1) (by omega) (λq=>by
  rcases q with q|q
  . omega
  . exact (i _ q).1 rfl)).trans u
 obtain ⟨l0,l1,l2⟩:=ga I;have kg:=λt=>Nb (w:=C.drew) r t;have Z:aa (λk=>S k\/k=sb+1) w C:=(aa.TG d _).later Y (λk hk q=>by
  rcases q with q|q|q
  . exact .inr q
  . omega
  . exact .inl q)
 rw [<- P.out.2.1,<- P.out.2.2.1] at A;rw [<- P.out.2.2.2.1] at r kg;obtain ⟨K,hK⟩:=nM (b.length);rw [hK] at kg;by_cases hr:(K:Int)<=room
 . have q5:¬ (room<(K:Int)):=(by omega);have U:decide (room<(K:Int))=ZU:=decide_eq_false q5;have X:=hide4 A r Z hK;clear u l p Y I r A B Z i v E s d hK;go_wp2;go_region;go_wp2;go_end0
   obtain ⟨A,r,hO,hK⟩:=X.out;exact ⟨rfl,⟨λ_=>⟨⟨_,r⟩,A⟩,λq=>by rw [hK] at q;omega⟩,hO.trans (aa.drew _)⟩
 . have q4:room<(K:Int):=(by omega);have q6:decide (room<(K:Int))=ZV:=decide_eq_true q4;obtain ⟨U,j,hj,R,⟨rg,st,T⟩,F,ke,kf⟩:=P.out.2.2.2.2 (by rw [hK];exact q4);obtain ⟨e7,_,_,_⟩:=(A sb (.inr v)).cells;have ki:=ry (w:=C.drew) (show pN C.drew (λa=>a=w.heap.size+1+1\/S a) cn' nw' o from A) F ke kf;obtain ⟨q,M⟩:=nM (nw' sb);rw [M] at R T F ke kf e7 ki;have X:=hide13 I r Z hK U R T F ki M i s d;clear u l p Y I r A B Z i v E s d hK U R T F ke kf ki M;go_wp2;go_region;go_wp2_with fail;refine X.out.2.2.2.2.2.2.2.2.1.mono ?_;rintro e z ⟨rfl,kc,km⟩;clear l0 l1 l2 e7 kg;obtain ⟨I,r,B,hK,U,R,T,F,_,M,i,s,d⟩:=X.out;have V:aa (λa=>a=w.heap.size+1+1\/S a) C z:=(aa.drew C).trans km;have q9:=B.size;have kx:fG z sb room:=(V.block _ (by omega) (λe=>by
    rcases e with e|e
    . omega
    . exact (i _ e).2 rfl)).trans I
   have kz:=(V.block (sb+1) (by omega) (λe=>by
    rcases e with e|e
    . omega
    . exact (i _ e).1 rfl)).trans r
   obtain ⟨_,l1,_⟩:=ga kx;have kv:=(kc q F).key;rw [T] at kv;obtain ⟨c0,c1,c2,c3,c4⟩:=kv;have ks:=λt=>Pt (w:=z.drew) kz hj U t;obtain ⟨y,hy⟩:=nM (b[j].1);rw [hy] at ks c3;unfold bP at ks;have k7:Od (z.drew.putObj (sb+1) (.map (dN D L G (b.eraseIdx j)).toArray (n+1))) sb room D L G b (λa=>a=w.heap.size+1+1\/S a) cn' nw' o/\aa (λk=>S k\/k=sb+1) w (z.drew.putObj (sb+1) (.map (dN D L G (b.eraseIdx j)).toArray (n+1))):=by
    have ko:aa (λk=>k=sb+1) z (z.drew.putObj (sb+1) (.map (dN D L G (b.eraseIdx j)).toArray (n+1))):=(aa.drew z).trans (aa.putObj _ _ _ rfl);have qa:=V.size;refine ⟨⟨λe=>by rw [hK] at e;omega,λ_=>⟨j,hj,R.trans M.symm,⟨n+1,?_⟩,?_⟩⟩,?_⟩
    . unfold World.putObj;exact YN (by show sb+1<z.heap.size;omega)
    . rw [M];exact kc.keep ko (λa g e=>by
       rcases g with g|g
       . omega
       . exact (i a g).1 e)
    . exact (B.later V (λk hk e=>by
       rcases e with e|e
       . omega
       . exact .inl e)).later ko (λk hk e=>.inr e)
   have H6:=hide k7;clear k7 I r B hK U R T F M i s d V kx kz kc km hy;go_wp2;go_region;go_end0
   exact ⟨rfl,H6.out⟩
