import Derived.Test.YtfbmmcnpjhmjaaaGreatDoorM10
import Derived.ChangeKeysEq
import Derived.Laws.StructEq
set_option maxRecDepth 100000
set_option maxHeartbeats 8000000
open Go.IntKind renaming i64 -> Z9
open Go.Value renaming int -> Z8, pointer -> Z7, slice -> Z6
open Go.Obj renaming cells -> Z5
open Go.Ending renaming returned -> Z4
open Go.Operand renaming tmp -> Z3
open Option renaming none -> Z2, some -> Z1
open Bool renaming false -> Z0
open Go renaming World -> ZZ, Calls -> ZX
open Go.RowKit renaming Below -> ZY
open List renaming setIfInBounds_toArray -> Tm, set_cons_succ -> Tn, set_cons_zero -> To, getElem?_eq_getElem -> Tp, getD_eq_getElem?_getD -> Tq, replicate -> Tr, size_toArray -> Ts, getElem?_map -> Tt, length_map -> Tu, length_range -> Tv, nil_append -> Tw, mem_range -> Tx, append_assoc -> Tz
open Array renaming getElem?_eq_none -> Ty, getElem?_eq_some_iff -> TA
open Go.Proofs.Tryz renaming prog -> ZW
namespace Go.Proofs.YtfbmmcnpjhmjaaaGreatDoor
open Go.RowKit Go.Deep
variable {a:Act} {A:aB} {ops:Array Oper} {Q:Exit->Act->ZZ->Prop} {F:bx} {l src s:List Nat} {vs:List Value} {r b off D L G n v p ps ho:Nat} {w0 w w':ZZ}
theorem D6 (h:vs.length=6):∃ a b c d e f,vs=[a,b,c,d,e,f]:=by
 match vs,h with
 | [a,b,c,d,e,f],_=>exact ⟨_,_,_,_,_,_,rfl⟩
structure B1 (w0 w:ZZ) (r b:Nat) (l:List Nat):Prop where
 res:bG w r zb
 blk:bG w b l
 below:ZY w0.heap.size w0 w
 rs:r=w0.heap.size
 bs:b=w0.heap.size+1
theorem B1.new (w:ZZ):B1 w ((w.alloc (Z5 (an zb) 255)).alloc (Z5 (an zb) 255)) w.heap.size (w.heap.size+1) zb:=by
 refine ⟨(blk_alloc_lt _ _ _ (by simp)).trans (blk_alloc_new _ _),?_,(bA w _).alloc (by simp) _,rfl,rfl⟩;have:=blk_alloc_new (w.alloc (Z5 (an zb) 255)) (Z5 (an zb) 255);simpa [bG] using this
theorem B1.mono (h:B1 w0 w r b l) (a:ZY w.heap.size w w'):B1 w0 w' r b l:=
 ⟨h.res.keep (a.block _ h.res.lt),h.blk.keep (a.block _ h.blk.lt),h.below.trans (a.mono (by have:=h.res.lt;have:=h.rs;omega)),h.rs,h.bs⟩
theorem B1.set {l':List Nat} (h:B1 w0 w r b l) (a:aa (λk=>k=b) w w') (c:bG w' b l'):B1 w0 w' r b l':=
 ⟨h.res.keep (a.block _ h.res.lt (λe=>by have:=h.rs;have:=h.bs;omega)),c,h.below.trans (a.below λk d=>⟨by have:=h.blk.lt;have:=h.bs;omega,λe=>by have:=h.bs;omega⟩),h.rs,h.bs⟩
theorem bj.below {B:Nat} (h:bj w) (b:ZY B w w') (a:2<B):bj w':=λj c=>(b.cell (p:=⟨2,j,Z2⟩) a).trans (h j c)
theorem bj.lt (h:bj w):2<w.heap.size:=block_lt_of_cell (h 0 (by decide))
theorem wP {body:List Nat} (c:body.length<=60):jA (jA zb 4 body) 0 (be (Hn ((jA zb 4 body).drop 4)) 4)=cQ body:=by
 have a:(jA zb 4 body).drop 4=body++Tr (60-body.length) 0:=by
  unfold jA;rw [List.drop_append_of_le_length (by simp [zb]),show (List.take 4 zb).drop 4=[] by simp [zb]];simp only [Tw];congr 1;unfold zb;rw [List.drop_replicate];congr 1;omega
 have b:∀ (X s:List Nat),jA X 0 s=s++X.drop s.length:=λX s=>by unfold jA;rw [List.take_zero,Tw,Nat.zero_add]
 rw [b,bT,a];rfl
theorem B4 (b:∀ x∈l,x<256) (c:∀ x∈src,x<256):∀ x∈jA l off src,x<256:=by
 intro x a;unfold jA at a;simp only [List.mem_append] at a;rcases a with h|h|h
 . exact b x (List.mem_of_mem_take h)
 . exact c x h
 . exact b x (List.mem_of_mem_drop h)
theorem Ie:∀ x∈zb,x<256:=λx a=>by have:=List.eq_of_mem_replicate a;omega
theorem zx (w:ZZ):ZX ZW 156 #[bp .blank] w λe w'=>e=Z4 (.agg (an aW.blank.blk))/\ZY w.heap.size w w':=by
 have l:=zeroBlk;have i:(an zb).size=64:=by rw [bz,bD]
 have b:=B1.new w;obtain ⟨w1,h⟩:=nM ((w.alloc (Z5 (an zb) 255)).alloc (Z5 (an zb) 255));rw [h] at b;have c:=hide b;clear b;unfold bp;go_enter Tryz.func156,Tryz.ntmps156;go_wp2_with fail;refine (BW w1).mono ?_;rintro e w2 ⟨rfl,d⟩;have f:=c.out.mono d;have a:=hide f;clear f d c;go_wp2_with (first|(refine lV rfl (Z3 3) rfl (w.heap.size+1) zb rfl a.out.blk bD ?_)|(refine fZ rfl (Z3 2) (Z3 19) rfl w.heap.size zb zb rfl rfl a.out.res bD bD ?_));have g:=a.out.res.setRow zb;refine bodyPost_ret (v:=.agg (an zb)) (results_cell_row Tryz.results156 _ _ w.heap.size 255 (an zb) (0,0) _ rfl g Tryz.underlying255 rfl (eW bD)) rfl ?_;exact ⟨rfl,a.out.below.trans ⟨rfl,rfl,rfl,by simp [World.setRow],λk j=>(aI _ _ _).block k (by have:=a.out.res.lt;omega) (λe=>by cases e;omega)⟩⟩
theorem Ca (D L G t f n:Nat) (w:ZZ) (m:(aW.root D L G t f n).ok) (J:bj w) :
 ZX ZW 156 #[bp (.root D L G t f n)] w λe w'=>e=Z4 (.agg (an (aW.root D L G t f n).blk))/\ZY w.heap.size w w':=by
 have Z:=zeroBlk;have k7:(an zb).size=64:=by rw [bz,bD]
 have p:=B1.new w;obtain ⟨w1,V⟩:=nM ((w.alloc (Z5 (an zb) 255)).alloc (Z5 (an zb) 255));rw [V] at p;have C:=jB m;have s:=lU m;have y:(aW.root D L G t f n).blk=cQ (aW.root D L G t f n).body:=by unfold aW.blk;rw [if_neg (by simp [aW.body])]
 have q:0<(aW.root D L G t f n).body.length:=by simp [aW.body]
 have g:=E0 D L G t f n w1 m;rw [y];obtain ⟨body,x⟩:=nM ((aW.root D L G t f n).body);rw [x] at C s q g ⊢;have d:=hide3 p s J;unfold bp;obtain ⟨ra,F⟩:=nM (aQ D L G t f n);simp only [F] at g ⊢;clear p s J m y F x;go_enter Tryz.func156,Tryz.ntmps156;go_wp2_with fail;refine g.mono ?_;clear g;rintro e w2 ⟨v,rfl,r,B⟩;have h:=d.out.1.mono B;obtain ⟨X,c,rfl,O,P,Q,R⟩:=id r;have k6:(0:Int)<((body.length:Nat):Int):=by omega
 have E:body≠[]:=by intro e;rw [e] at q;simp at q
 have T:=nH (n:=60) (cap:=60) (off:=4) 3 h.blk r E (by omega) (by rw [bD];omega);have i:B1 w (w2.setRow (w.heap.size+1) (an (jA zb 4 body))) w.heap.size (w.heap.size+1) (jA zb 4 body):=h.set (aa.setRow (S:=λk=>k=w.heap.size+1) _ _ _ rfl) (h.blk.setRow _);obtain ⟨W,I⟩:=nM (w2.setRow (w.heap.size+1) (an (jA zb 4 body)));rw [I] at T i;have U:(jA zb 4 body).length=64:=by rw [nG (by rw [bD];omega),bD]
 have M:=d.out.2.2.lt;have hv3:bj W:=d.out.2.2.below i.below M;have o:=hide2 i hv3;clear h r B O P Q R I i hv3 E;go_wp2_with fail;refine jW (by kernel_rfl) o.out.1.blk U (B4 Ie d.out.2.1) o.out.2 (by omega) rfl rfl ?_;intro w4 vs H z A;obtain ⟨x0,x1,x2,x3,x4,x5,rfl⟩:=D6 H;have j:=o.out.1.set A z;rw [wP C] at j;have l:(cQ body).length=64:=by unfold cQ;simp [bT];omega
 obtain ⟨b,u⟩:=nM (cQ body);rw [u] at j l;have N:=hide u;have a:=hide j;clear j z A H u;rename_i hK
 refine hK _ _ ?_;clear hK;simp only [Act.putFrom,Act.put,Tm,Tn,To];go_wp2_with (first|(refine lV rfl (Z3 3) rfl (w.heap.size+1) b rfl a.out.blk l ?_)|(refine fZ rfl (Z3 2) (Z3 19) rfl w.heap.size b zb rfl rfl a.out.res bD l ?_));have K:=a.out.res.setRow b;refine bodyPost_ret (v:=.agg (an b)) (results_cell_row Tryz.results156 _ _ w.heap.size 255 (an b) (0,0) _ rfl K Tryz.underlying255 rfl (eW l)) rfl ?_;exact ⟨by rw [N.out],a.out.below.trans ⟨rfl,rfl,rfl,by simp [World.setRow],λk Y=>(aI _ _ _).block k (by have:=a.out.res.lt;omega) (λe=>by cases e;omega)⟩⟩
def iS (r:aW):Prop:=∀ w,bj w->ZX ZW 156 #[bp r] w λe w'=>e=Z4 (.agg (an r.blk))/\ZY w.heap.size w w'
theorem zy:iS .blank:=λw _=>zx w
theorem Cb {t f:Nat} (a:(aW.root D L G t f n).ok):iS (.root D L G t f n):=λw b=>Ca D L G t f n w a b
noncomputable def QW:Array Oper:=((Tryz.f160.body.bind (mD · 2))).getD #[]
def Qe:List (Op×Option Nat×List Nat):=[(Op.move (Z3 4),Z1 7,[]),
 (Op.call { callee:=Callee.value (Operand.func 156),args:=#[Z3 7],argTypes:=#[219] },Z1 8,[0]),
 (Op.load 255 (Z3 1),Z1 9,[]),
 (Op.binOp BinOp.neq 255 (Z3 8) (Z3 9) 255,Z1 10,[1,2])]
theorem E5:aN QW 7 11 Qe:=bt (by kernel_rfl) (by kernel_rfl)
theorem Tryz.cellsByte1:ZW.cellsOf 5=1:=by kernel_rfl
theorem uQ (l:List Nat) (i:Nat) (a:i<l.length) (w:ZZ):(part 5 (an l) (i*1)).run ZW w=.ok (Z8 .u8 ((l.getD i 0:Nat):Int)) w:=by
 have b:(an l)[i]?=Z1 (Z8 .u8 ((l.getD i 0:Nat):Int)):=by
  unfold an aH;rw [List.getElem?_toArray,Tt,Tp a,Tq,Tp a];rfl
 rw [Nat.mul_one];have c:=Tryz.underlying5;simp [part,isAgg,run_underlying c,b]
theorem zA (d:Nat) (l1 a:List Nat) (w:ZZ):∀ (b:List Nat),(∀ i∈b,i<l1.length/\i<a.length)->(Op.eqItems (d+1) 5 1 (an l1) (an a) b).run ZW w=.ok (b.all λi=>l1.getD i 0==a.getD i 0) w
 | [],_=>by simp [Op.eqItems]
 | i::b,h=>by
  obtain ⟨k,l⟩:=h i (by simp);have ih:=zA d l1 a w b (λj n=>h j (by simp [n]));have m:=run_equalIn_int (P:=ZW) (w:=w) d 5 .u8 .u8 ((l1.getD i 0:Nat):Int) ((a.getD i 0:Nat):Int) Tryz.underlying5;simp only [Op.eqItems,Sem.run_bind,uQ l1 i k w,uQ a i l w,Result.andThen_ok,m,List.all_cons];generalize l1.getD i 0=x;generalize a.getD i 0=y;by_cases e:x=y
  . subst e;rw [if_neg (by simp),ih];simp
  . have c:¬ ((x:Nat):Int)=((y:Nat):Int):=λq=>e (by omega);have f:((x:Int)==(y:Int))=Z0:=(by simpa using c);have g:(x==y)=Z0:=(by simpa using e);rw [f,g];simp
theorem If {l1 l2:List Nat} (c:l1.length=64) (d:l2.length=64):((List.range 64).all λi=>l1.getD i 0==l2.getD i 0)=decide (l1=l2):=by
 rw [Bool.eq_iff_iff,List.all_eq_true,decide_eq_true_eq];constructor
 . intro h;refine List.ext_getElem (by omega) λi a b=>?_;have:=h i (Tx.2 (by omega));simpa [a,b] using this
 . rintro rfl i _;simp
theorem Ng (l1 a:List Nat) (c:l1.length=64) (d:a.length=64) (w:ZZ):(Op.equalIn 10000 255 (.agg (an l1)) (.agg (an a))).run ZW w=.ok (decide (l1=a)) w:=by
 obtain ⟨g,b,_⟩:=info_parts Tryz.infoByte;rw [show (10000:Nat)=9998+1+1 from rfl,run_equalIn_array w (9998+1) (t:=255) (e:=5) (n:=64) (an l1) (an a) Tryz.underlying255 b,Tryz.cellsByte1,zA 9998 l1 a w _ (λi f=>by have:=Tx.1 f;omega),If c d]
theorem E6 {r:aW} (B:QW=ops) (G:iS r) (H:r.ok) (q:bG w b l) (x:l.length=64) (y:bj w) (J:a.tmps.size=12)
 (z:a.eval (Z3 1)=Z7 (Z1 ⟨b,0,Z2⟩)) (A:a.eval (Z3 4)=bp r) (F:∀ (w':ZZ),ZY w.heap.size w w'->Q .normal (Act.putFrom a 7 [bp r,.agg (an r.blk),.agg (an l),.bool (!decide (r.blk=l))]) w'):(Code.region 2 ops true).wp ZW Q a w:=by
 subst B;refine bZ (by kernel_rfl) E5 a w (by omega) (λi v _=>v=[bp r,.agg (an r.blk),.agg (an l),.bool (!decide (r.blk=l))].getD i undef) (λ_ w'=>bG w' b l/\ZY w.heap.size w w') ⟨q,(Below.refl _ w).drew⟩ ?_ ?_
 . intro i t;match i,t with
   | 0,_=>exact λo g w' D s ho h k m p j q d=>ab (ag ho ((k.slot 4 (by omega)).trans A) w') h ⟨q,rfl,kq⟩
   | 1,_=>
    intro o g w' D s ho h k m p j c d;have u0:g.eval (Z3 7)=bp r:=d 0 (j 0 (by decide));refine dz (f:=156) (args:=#[bp r]) (w1:=w') (by simp only [execOp,show o.op=Op.call { callee:=Callee.value (Operand.func 156),args:=#[Z3 7],argTypes:=#[219] } from ho];go_simp;simpa [Act.eval] using u0) h (G w' (y.below c.2 y.lt)) ?_;rintro e I ⟨rfl,u⟩;exact ⟨_,rfl,⟨c.1.keep (u.block _ c.1.lt),c.2.trans (u.mono c.2.size)⟩,rfl,kq⟩
   | 2,_=>
    intro o g w' D s ho h k m p j c d;have u0:g.eval (Z3 1)=Z7 (Z1 ⟨b,0,Z2⟩):=(k.slot 1 (by omega)).trans z;exact ab (v:=.agg (an l)) (by simp [execOp,show o.op=Op.load 255 (Z3 1) from ho,u0,mS c.1 x]) h ⟨c,rfl,kq⟩
   | 3,_=>
    intro o g w' D s ho h k m p j c d;have u0:g.eval (Z3 8)=.agg (an r.blk):=d 1 (j 1 (by decide));have u1:g.eval (Z3 9)=.agg (an l):=d 2 (j 2 (by decide));exact ab (v:=.bool (!decide (r.blk=l))) (by simp only [execOp,show o.op=Op.binOp BinOp.neq 255 (Z3 8) (Z3 9) 255 from ho,u0,u1];go_simp;rw [Ng r.blk l (ez H) x w'];rfl) h ⟨c,rfl,kq⟩
   | n+4,hn=>exact absurd hn (by show ¬ n+4<4;omega)
 . rintro g w' C ⟨D,K,c⟩ d;have E:∀ i:Nat,i<4->g.eval (.tmp (7+i))=[bp r,.agg (an r.blk),.agg (an l),.bool (!decide (r.blk=l))].getD i undef:=by
    intro i t;match i,t with
    | 0,_=>exact d 0 (by decide)
    | 1,_=>exact d 1 (by decide)
    | 2,_=>exact d 2 (by decide)
    | 3,_=>exact d 3 (by decide)
    | n+4,hn=>exact absurd hn (by show ¬ n+4<4;omega)
   rw [C.out [bp r,.agg (an r.blk),.agg (an l),.bool (!decide (r.blk=l))] rfl (by omega) E];exact F w' c.2
theorem Pa (r:aW) (w:ZZ) (z:iS r) (g:r.ok) (v:bj w) :
 ZX ZW 160 #[.agg (an r.blk)] w λe w'=>e=Z4 (.tuple #[bp r,.bool true])/\ZY w.heap.size w w':=by
 have c:=ez g;have n:=jg g;have u:=Lb g;have f:=bG.new w r.blk;have j:ZY w.heap.size w (w.alloc (Z5 (an r.blk) 255)):=bA w _;have y:(an r.blk).size=64:=by rw [bz,c]
 obtain ⟨w1,t⟩:=nM (w.alloc (Z5 (an r.blk) 255));rw [t] at f j;have b:=E3 r.blk w1 c n;rw [u] at b;obtain ⟨rv,m⟩:=nM (bp r);obtain ⟨l,k⟩:=nM (r.blk);rw [k] at c n f y b t ⊢;rw [m] at b ⊢;have h:=hide2 m k;have a:=hide2 f j;clear n u f j m k;go_enter Tryz.func160,Tryz.ntmps160;go_wp2_with (refine lV rfl (Z3 1) rfl w.heap.size l rfl a.out.1 c ?_);refine b.mono ?_;rintro e w2 ⟨rfl,i⟩;have q:=a.out.1.keep (i.block _ a.out.1.lt);have o:=a.out.2.trans (i.mono a.out.2.size);have d:=hide2 q o;clear b i q o;go_wp2_with fail;refine E6 (by kernel_rfl) z g d.out.1 c (v.below d.out.2 v.lt) rfl rfl h.out.1.symm ?_;intro A s;rw [h.out.1,h.out.2,decide_eq_true (rfl:l=l)];have p:=d.out.2.trans (s.mono d.out.2.size);have x:=hide p;clear s p;rename_i hK
 refine hK _ _ ?_;clear hK;simp only [Act.putFrom,Act.put,Tm,Tn,To];go_wp2;go_ret2;exact ⟨rfl,x.out⟩
theorem aM.heapB (h:aM w b l):w.heap[b]?=Z1 (Z5 (aH l).toArray 5 (0,0)):=by
 obtain ⟨c,d,g,f⟩:=h;have e:c=(aH l).toArray:=by
  apply Array.ext_getElem?;intro i;by_cases a:i<l.length
  . rw [f i a];unfold vb aH;simp [Tq,Tp a]
  . rw [Ty (by omega),Ty (by rw [Ts,bm];omega)]
 rw [<- e];exact d
theorem aM.of_heapB (h:w.heap[b]?=Z1 (Z5 (aH l).toArray 5 (0,0))):aM w b l:=
 ⟨_,h,by rw [Ts,bm],λi a=>by
  unfold vb aH;simp [Tq,Tp a]⟩
theorem zB {cap:Nat} {v:Value} (h:TypeId) (d:aM w b l) (y:Bs w v src) (B:src.length<=n) (A:off+src.length<=l.length) :
 ∃ w',(Builtin.copy_ #[34,34] h #[Z6 (Z1 ⟨b,off,Z2⟩) n cap,v]).run ZW w=.ok (Z8 Z9 (src.length:Nat)) w'/\aM w' b (jA l off src)/\w.grownBy w' (Z1 b):=by
 obtain ⟨r,c,rfl,C,D,E,s⟩:=y;have m:(ZW.info? 5).map (λi=>i.size)=Z1 1:=by kernel_rfl
 by_cases k:src=[]
 . subst k;refine ⟨w,run_copy_none (P:=ZW) w 34 34 h 5 (Z1 ⟨b,off,Z2⟩) r n cap 0 c Tryz.underlying34 m (by simp),?_,World.grownBy.refl _ _⟩;have e:jA l off []=l:=(by unfold jA;simp);rw [e];exact d
 . obtain ⟨g,o,rfl,z⟩:=s k;have t:=run_copy_row (P:=ZW) w 34 34 h 5 b off n cap ⟨g,o,Z2⟩ src.length c (aH l).toArray 5 (aH src) Tryz.underlying34 m d.heapB (by rw [bm];exact (Nat.min_eq_left B).symm) (λj u p=>by
    have a:j<src.length:=(by obtain ⟨q,_⟩:=List.getElem?_eq_some_iff.1 p;rwa [bm] at q);rw [Addr.add_mid,z j a,<- p];unfold aH;rw [Tt,Tp a,Tq,Tp a];rfl) (by rw [bm,Ts,bm];exact A) (λu f=>by
    unfold aH at f;rw [List.mem_map] at f;obtain ⟨x,_,rfl⟩:=f;rfl)
   have e:(List.take off (aH l)++aH src++List.drop (off+(aH src).length) (aH l)).toArray=(aH (jA l off src)).toArray:=by
    rw [bm];unfold jA;rw [bU,bU,Tz];unfold aH;rw [List.map_take,List.map_drop]
   refine ⟨w.setRow b (aH (jA l off src)).toArray,?_,aM.of_heapB (setRow_heap w b (aH l).toArray (aH (jA l off src)).toArray _ _ d.heapB),aI _ _ _⟩;rw [t];simp only [Tz] at e ⊢;rw [e,bm];rfl
theorem E7 (w:ZZ) (a:Nat):(w.alloc (Z5 #[Z8 .u8 (a:Int)] 5)).ownsRow w.heap.size 5 1 (Z6 (Z1 ⟨w.heap.size,0,Z2⟩) 1 1) 1 (aH [a]):=
 ⟨rfl,.inr ⟨w.heap.size,1,_,rfl,Nat.le_refl _,blk_alloc_new _ _,Nat.le_refl _,by unfold maxLen;omega,rfl,rfl⟩⟩
theorem zC (w:ZZ):ZX ZW 250 #[.agg #[]] w λe w'=>∃ v,e=Z4 v/\Bs w' v aW.filled.body/\ZY w.heap.size w w':=by
 have ho:=E7 (w.alloc (Z5 #[] 174)) 2;have a:ZY w.heap.size w ((w.alloc (Z5 #[] 174)).alloc (Z5 #[Z8 .u8 ((2:Nat):Int)] 5)):=(bA w _).alloc (by simp) _;have H:=hide2 ho a;clear ho a;go_enter Tryz.func250,Tryz.ntmps250;go_wp2;go_ret;have b:=Bs.of_owns H.out.1 (λx c=>by simp at c;omega) (by decide);simp only [World.size_alloc] at b;exact ⟨_,rfl,b,H.out.2⟩
noncomputable def QX:Array Oper:=((Tryz.f251.body.bind (mD · 3))).getD #[]
def Qf:List (Op×Option Nat×List Nat):=[(Op.move (Z3 3),Z1 7,[]),
 (Op.slice 34 (Z3 7) (Z1 (Operand.const (Value.int IntKind.i64 16))) Z2 Z2,Z1 8,[0]),
 (Op.fieldAddr 217 (Z3 1) 0,Z1 9,[]),
 (Op.slice 215 (Z3 9) Z2 Z2 Z2,Z1 10,[2]),
 (Op.call { callee:=Callee.builtin Builtin.copy,args:=#[Z3 8,Z3 10],argTypes:=#[34,34] },Z1 11,[1,3])]
theorem E8:aN QX 7 12 Qf:=bt (by kernel_rfl) (by kernel_rfl)
def Rw (b q:Nat) (i:Nat) (u:Value) (_:ZZ):Prop:=match i with
 | 0=>u=Z6 (Z1 ⟨b,0,Z2⟩) 60 60
 | 1=>u=Z6 (Z1 ⟨b,16,Z2⟩) 44 44
 | 2=>u=Z7 (Z1 ⟨q,0,Z2⟩)
 | 3=>u=Z6 (Z1 ⟨q,0,Z2⟩) 44 44
 | _=>True
def Qg (w0:ZZ) (b:Nat) (l s:List Nat) (D:Nat->Bool) (w:ZZ):Prop:=aM w b (if D 4=true then jA l 16 s else l)/\aa (λk=>k=b) w0 w
theorem qW {D:Nat->Bool} (h:Qg w0 b l s D w) (i:Nat) (a:i≠4):Qg w0 b l s (dN D i) w:=by
 refine ⟨?_,h.2⟩;unfold dN;rw [if_neg (λe:4=i=>a e.symm)];exact h.1
theorem wQ {q:Nat} (G:QX=ops) (c:aM w b l) (Y:l.length=60) (C:w.heap[q]?=Z1 (Z5 (aH s).toArray 217 (0,0))) (R:s.length=44) (U:∀ x∈s,x<256) (L:q≠b) (Z:a.tmps.size=13)
 (F:a.eval (Z3 3)=Z6 (Z1 ⟨b,0,Z2⟩) 60 60) (E:a.eval (Z3 1)=Z7 (Z1 ⟨q,0,Z2⟩)) (K:∀ (w':ZZ) (vs:List Value),vs.length=5->aM w' b (jA l 16 s)->aa (λk=>k=b) w w'->Q .normal (Act.putFrom a 7 vs) w'):(Code.region 3 ops true).wp ZW Q a w:=by
 subst G;refine bZ (by kernel_rfl) E8 a w (by omega) (Rw b q) (Qg w b l s) ⟨c,aa.drew w⟩ ?_ ?_
 . intro i y;match i,y with
   | 0,_=>exact λo d w' V t ho f m p z h c g=>ab (ag ho ((m.slot 3 (by omega)).trans F) w') f ⟨qW c _ (by decide),rfl,kq⟩
   | 1,_=>
    intro o d w' D t ho f m p z h c g;have u0:d.eval (Z3 7)=Z6 (Z1 ⟨b,0,Z2⟩) 60 60:=g 0 (h 0 (by decide));exact ab (v:=Z6 (Z1 ⟨b,16,Z2⟩) 44 44) (by simp only [execOp,show o.op=Op.slice 34 (Z3 7) (Z1 (Operand.const (Value.int IntKind.i64 16))) Z2 Z2 from ho,u0];go_simp) f ⟨qW c 1 (by decide),rfl,kq⟩
   | 2,_=>
    intro o d w' D t ho f m p z h c g;have u0:d.eval (Z3 1)=Z7 (Z1 ⟨q,0,Z2⟩):=(m.slot 1 (by omega)).trans E;exact ab (v:=Z7 (Z1 ⟨q,0,Z2⟩)) (by simp only [execOp,show o.op=Op.fieldAddr 217 (Z3 1) 0 from ho,u0];go_simp) f ⟨qW c 2 (by decide),rfl,kq⟩
   | 3,_=>
    intro o d w' D t ho f m p z h c g;have u0:d.eval (Z3 9)=Z7 (Z1 ⟨q,0,Z2⟩):=g 2 (h 2 (by decide));exact ab (v:=Z6 (Z1 ⟨q,0,Z2⟩) 44 44) (by simp only [execOp,show o.op=Op.slice 215 (Z3 9) Z2 Z2 Z2 from ho,u0];go_simp) f ⟨qW c 3 (by decide),rfl,kq⟩
   | 4,_=>
    intro o d w' D t ho f m p W h c g;have u0:d.eval (Z3 8)=Z6 (Z1 ⟨b,16,Z2⟩) 44 44:=g 1 (h 1 (by decide));have u1:d.eval (Z3 10)=Z6 (Z1 ⟨q,0,Z2⟩) 44 44:=g 3 (h 3 (by decide));have I:aM w' b l:=(by have:=c.1;rw [if_neg (by rw [p];decide)] at this;exact this);have P:w'.heap[q]?=Z1 (Z5 (aH s).toArray 217 (0,0)):=(c.2.block q (TA.1 C).1 (λe=>L e)).trans C;have B:Bs w' (Z6 (Z1 ⟨q,0,Z2⟩) s.length 44) s:=Bs.mid (by omega) (by omega) U (λj u S=>by
     have:(aH s).toArray[j]?=Z1 u:=by simpa using S
     simp [World.cell?,P,this])
    rw [R] at B;obtain ⟨w2,M,H,r⟩:=zB (n:=44) (cap:=44) (off:=16) o.type I B (by omega) (by omega);refine ab (v:=Z8 Z9 (s.length:Nat)) (w':=w2) (by simp only [execOp,show o.op=Op.call { callee:=Callee.builtin Builtin.copy,args:=#[Z3 8,Z3 10],argTypes:=#[34,34] } from ho,resolve,invoke,builtin,Sem.run_bind,Sem.run_pure,Result.andThen_ok,List.map_toArray,List.map_cons,List.map_nil,u0,u1,M]) f ⟨⟨?_,c.2.later (T:=λk=>k=b) ⟨r.os,r.tape,r.output,r.size,λk m O=>r.block k m (λe=>O (by cases e;rfl))⟩ (λ_ _ q=>q)⟩,trivial,λj u X q=>by
     match j,q with
     | 0,q|1,q|2,q|3,q=>exact q
     | j+4,_=>trivial⟩
    show aM _ b (if dN D 4 4=true then _ else _);rw [if_pos (by unfold dN;rw [if_pos rfl])];exact H
   | n+5,hn=>exact absurd hn (by show ¬ n+5<5;omega)
 . rintro d w' N ⟨D,J,A⟩ g;have e:d=Act.putFrom a 7 ((List.range 5).map λi=>d.eval (.tmp (7+i))):=N.out _ (by rw [Tu,Tv]) (by omega) (λi y=>by
    rw [Tu,Tv] at y;rw [Tq,Tt,List.getElem?_range y];rfl)
   rw [e];have:=A.1;rw [if_pos (J 4 (by decide))] at this;exact K w' _ (by rw [Tu,Tv]) this A.2
theorem Pb (h:vs.length=5):∃ a b c d e,vs=[a,b,c,d,e]:=by
 match vs,h with
 | [a,b,c,d,e],_=>exact ⟨a,b,c,d,e,rfl⟩
theorem Cc (l:List Nat) (w:ZZ) (B:(aW.shard l).ok) :
 ZX ZW 251 #[.agg (aH l).toArray] w λe w'=>∃ v,e=Z4 v/\Bs w' v (aW.shard l).body/\ZY w.heap.size w w':=by
 obtain ⟨a,A⟩:=B;have j:=blk_alloc_new w (Z5 (aH l).toArray 217);have d:ZY w.heap.size w (w.alloc (Z5 (aH l).toArray 217)):=bA w _;have m:(w.alloc (Z5 (aH l).toArray 217)).heap.size=w.heap.size+1:=by simp
 have C:(aH l).toArray.size=44:=by rw [Ts,bm,a]
 obtain ⟨w1,z⟩:=nM (w.alloc (Z5 (aH l).toArray 217));rw [z] at j d m;obtain ⟨ra,f⟩:=nM ((aH l).toArray);have H:=hide5 j d m A f;rw [f] at z C ⊢;clear j d m A f;go_enter Tryz.func251,Tryz.ntmps251;go_wp2_with (at_make;refine eB _ rfl (.const (Z8 Z9 60)) (.const (Z8 Z9 60)) rfl _ 60 rfl rfl rfl (by omega) ?_;intro w2 h t I;have E:=h.cell 0 (by decide);have F:=h.frozen 0);have q:aM (w2.setCell ⟨w1.heap.size,0,Z2⟩ (Z8 .u8 3)) w1.heap.size ((Tr 60 0).set 0 3):=h.set 0 3;have G:=H.out.2.2.1;have x:(w2.setCell ⟨w1.heap.size,0,Z2⟩ (Z8 .u8 3)).heap[w.heap.size]?=Z1 (Z5 (aH l).toArray 217 (0,0)):=(blk_setCell_other _ _ _ _ (by show w.heap.size≠w1.heap.size;omega)).trans ((t.block _ (by omega)).trans H.out.1);have c:ZY w.heap.size w (w2.setCell ⟨w1.heap.size,0,Z2⟩ (Z8 .u8 3)):=(H.out.2.1.trans (t.mono (by omega))).setCell (p:=⟨w1.heap.size,0,Z2⟩) (by show w.heap.size<=w1.heap.size;omega) _;refine wQ (by kernel_rfl) q (by simp) x a H.out.2.2.2.1 (by omega) rfl rfl rfl ?_;intro D vs y b s;obtain ⟨K,L,M,N,O,rfl⟩:=Pb y;have u:ZY w.heap.size w D:=c.trans (s.below λk J=>⟨by have:=c.size;omega,λe=>by omega⟩);have i:jA ((Tr 60 0).set 0 3) 16 l=(aW.shard l).body:=by
  unfold jA aW.body;rw [a];simp [Tr]
 rw [i] at b;have g:=Bs.of_row (n:=60) b (by rw [<- i,nG (by simp [a])];simp) (by decide) (lU (r:=.shard l) ⟨a,H.out.2.2.2.1⟩);rw [List.take_of_length_le (jB (r:=.shard l) ⟨a,H.out.2.2.2.1⟩),show (aW.shard l).body.length=60 by rw [<- i,nG (by simp [a])];simp] at g;have o:=hide2 g u;clear g u b s c x q y;rename_i hK
 refine hK _ _ ?_;clear hK;simp only [Act.putFrom,Act.put,Tm,Tn,To];go_wp2;go_ret;exact ⟨_,rfl,o.out.1,o.out.2⟩
theorem wR (w:ZZ) (E:bj w) :
 ZX ZW 156 #[bp .filled] w λe w'=>e=Z4 (.agg (an aW.filled.blk))/\ZY w.heap.size w w':=by
 have T:=zeroBlk;have V:(an zb).size=64:=by rw [bz,bD]
 have l:=B1.new w;obtain ⟨w1,O⟩:=nM ((w.alloc (Z5 (an zb) 255)).alloc (Z5 (an zb) 255));rw [O] at l;have A:=jB (r:=.filled) trivial;have q:=lU (r:=.filled) trivial;have u:aW.filled.blk=cQ aW.filled.body:=by unfold aW.blk;rw [if_neg (by simp [aW.body])]
 have o:0<aW.filled.body.length:=by simp [aW.body]
 have m:=zC w1;rw [u];obtain ⟨body,t⟩:=nM (aW.filled.body);rw [t] at A q o m ⊢;have d:=hide3 l q E;unfold bp;clear l q E u t;go_enter Tryz.func156,Tryz.ntmps156;go_wp2_with fail;refine m.mono ?_;clear m;rintro e w2 ⟨v,rfl,p,z⟩;have f:=d.out.1.mono z;obtain ⟨Q,c,rfl,I,J,K,L⟩:=id p;have U:(0:Int)<((body.length:Nat):Int):=by omega
 have B:body≠[]:=by intro e;rw [e] at o;simp at o
 have M:=nH (n:=60) (cap:=60) (off:=4) 3 f.blk p B (by omega) (by rw [bD];omega);have g:B1 w (w2.setRow (w.heap.size+1) (an (jA zb 4 body))) w.heap.size (w.heap.size+1) (jA zb 4 body):=f.set (aa.setRow (S:=λk=>k=w.heap.size+1) _ _ _ rfl) (f.blk.setRow _);obtain ⟨P,D⟩:=nM (w2.setRow (w.heap.size+1) (an (jA zb 4 body)));rw [D] at M g;have N:(jA zb 4 body).length=64:=by rw [nG (by rw [bD];omega),bD]
 have G:=d.out.2.2.lt;have hv3:bj P:=d.out.2.2.below g.below G;have j:=hide2 g hv3;clear f p z I J K L D g hv3 B;go_wp2_with fail;refine jW (by kernel_rfl) j.out.1.blk N (B4 Ie d.out.2.1) j.out.2 (by omega) rfl rfl ?_;intro W vs C x y;obtain ⟨X,Y,Z,x3,x4,x5,rfl⟩:=D6 C;have h:=j.out.1.set y x;rw [wP A] at h;have i:(cQ body).length=64:=by unfold cQ;simp [bT];omega
 obtain ⟨b,s⟩:=nM (cQ body);rw [s] at h i;have H:=hide s;have a:=hide h;clear h x y C s;rename_i hK
 refine hK _ _ ?_;clear hK;simp only [Act.putFrom,Act.put,Tm,Tn,To];go_wp2_with (first|(refine lV rfl (Z3 3) rfl (w.heap.size+1) b rfl a.out.blk i ?_)|(refine fZ rfl (Z3 2) (Z3 19) rfl w.heap.size b zb rfl rfl a.out.res bD i ?_));have F:=a.out.res.setRow b;refine bodyPost_ret (v:=.agg (an b)) (results_cell_row Tryz.results156 _ _ w.heap.size 255 (an b) (0,0) _ rfl F Tryz.underlying255 rfl (eW i)) rfl ?_;exact ⟨by rw [H.out],a.out.below.trans ⟨rfl,rfl,rfl,by simp [World.setRow],λk R=>(aI _ _ _).block k (by have:=a.out.res.lt;omega) (λe=>by cases e;omega)⟩⟩
theorem zD (l:List Nat) (w:ZZ) (m:(aW.shard l).ok) (G:bj w) :
 ZX ZW 156 #[bp (.shard l)] w λe w'=>e=Z4 (.agg (an (aW.shard l).blk))/\ZY w.heap.size w w':=by
 have V:=zeroBlk;have X:(an zb).size=64:=by rw [bz,bD]
 have p:=B1.new w;obtain ⟨w1,Q⟩:=nM ((w.alloc (Z5 (an zb) 255)).alloc (Z5 (an zb) 255));rw [Q] at p;have B:=jB m;have s:=lU m;have x:(aW.shard l).blk=cQ (aW.shard l).body:=by unfold aW.blk;rw [if_neg (by simp [aW.body])]
 have q:0<(aW.shard l).body.length:=by simp [aW.body]
 have f:=Cc l w1 m;rw [x];obtain ⟨body,u⟩:=nM ((aW.shard l).body);rw [u] at B s q f ⊢;have d:=hide3 p s G;unfold bp;obtain ⟨ra,D⟩:=nM ((aH l).toArray);simp only [D] at f ⊢;clear p s G m x D u;go_enter Tryz.func156,Tryz.ntmps156;go_wp2_with fail;refine f.mono ?_;clear f;rintro e w2 ⟨v,rfl,r,A⟩;have g:=d.out.1.mono A;obtain ⟨T,c,rfl,K,L,M,N⟩:=id r;have W:(0:Int)<((body.length:Nat):Int):=by omega
 have C:body≠[]:=by intro e;rw [e] at q;simp at q
 have O:=nH (n:=60) (cap:=60) (off:=4) 3 g.blk r C (by omega) (by rw [bD];omega);have h:B1 w (w2.setRow (w.heap.size+1) (an (jA zb 4 body))) w.heap.size (w.heap.size+1) (jA zb 4 body):=g.set (aa.setRow (S:=λk=>k=w.heap.size+1) _ _ _ rfl) (g.blk.setRow _);obtain ⟨R,F⟩:=nM (w2.setRow (w.heap.size+1) (an (jA zb 4 body)));rw [F] at O h;have P:(jA zb 4 body).length=64:=by rw [nG (by rw [bD];omega),bD]
 have I:=d.out.2.2.lt;have hv3:bj R:=d.out.2.2.below h.below I;have o:=hide2 h hv3;clear g r A K L M N F h hv3 C;go_wp2_with fail;refine jW (by kernel_rfl) o.out.1.blk P (B4 Ie d.out.2.1) o.out.2 (by omega) rfl rfl ?_;intro Y vs E y z;obtain ⟨Z,x1,x2,x3,x4,x5,rfl⟩:=D6 E;have i:=o.out.1.set z y;rw [wP B] at i;have j:(cQ body).length=64:=by unfold cQ;simp [bT];omega
 obtain ⟨b,t⟩:=nM (cQ body);rw [t] at i j;have J:=hide t;have a:=hide i;clear i y z E t;rename_i hK
 refine hK _ _ ?_;clear hK;simp only [Act.putFrom,Act.put,Tm,Tn,To];go_wp2_with (first|(refine lV rfl (Z3 3) rfl (w.heap.size+1) b rfl a.out.blk j ?_)|(refine fZ rfl (Z3 2) (Z3 19) rfl w.heap.size b zb rfl rfl a.out.res bD j ?_));have H:=a.out.res.setRow b;refine bodyPost_ret (v:=.agg (an b)) (results_cell_row Tryz.results156 _ _ w.heap.size 255 (an b) (0,0) _ rfl H Tryz.underlying255 rfl (eW j)) rfl ?_;exact ⟨by rw [J.out],a.out.below.trans ⟨rfl,rfl,rfl,by simp [World.setRow],λk U=>(aI _ _ _).block k (by have:=a.out.res.lt;omega) (λe=>by cases e;omega)⟩⟩
theorem wS:iS .filled:=λw a=>wR w a
theorem ll (a:(aW.shard l).ok):iS (.shard l):=λw b=>zD l w a b
def bq (w:ZZ) (v p D L G ps ho:Nat):Prop:=w.heap[v]?=Z1 (Z5 #[Z7 (Z1 ⟨p,0,Z2⟩),Z8 Z9 D,Z8 Z9 L,Z8 Z9 G,Z7 (Z1 ⟨ps,0,Z2⟩),Z8 .u64 ho] 130 (0,0))
theorem bq.keep (h:bq w v p D L G ps ho) (e:w'.heap[v]?=w.heap[v]?):bq w' v p D L G ps ho:=e.trans h
theorem bq.lt (h:bq w v p D L G ps ho):v<w.heap.size:=(TA.1 h).1
theorem bq.cells (h:bq w v p D L G ps ho):w.cell? ⟨v,0,Z2⟩=Z1 (Z7 (Z1 ⟨p,0,Z2⟩))/\w.cell? ⟨v,1,Z2⟩=Z1 (Z8 Z9 D)/\w.cell? ⟨v,2,Z2⟩=Z1 (Z8 Z9 L)/\w.cell? ⟨v,3,Z2⟩=Z1 (Z8 Z9 G)/\w.cell? ⟨v,4,Z2⟩=Z1 (Z7 (Z1 ⟨ps,0,Z2⟩))/\w.cell? ⟨v,5,Z2⟩=Z1 (Z8 .u64 ho):=by
 have a:w.heap[v]?=Z1 (Z5 #[Z7 (Z1 ⟨p,0,Z2⟩),Z8 Z9 D,Z8 Z9 L,Z8 Z9 G,Z7 (Z1 ⟨ps,0,Z2⟩),Z8 .u64 ho] 130 (0,0)):=h;simp [World.cell?,a]
theorem bj.outside {S:Nat->Prop} (h:bj w) (a:aa S w w') (b:¬ S 2):bj w':=λj c=>by
 have:=h j c;rw [<- this];exact World.cell?_of_block (a.block _ (block_lt_of_cell this) b)
theorem Cd (n:Int) (w:ZZ):ZX ZW 72 #[.nilIface,.iface 66 (Z8 Z9 n)] w λe w'=>e=Z4 (.bool Z0)/\w'=w:=by
 have a:∀ d w,(Op.equalIn (d+1) 63 .nilIface (.iface 66 (Z8 Z9 n))).run ZW w=.ok Z0 w:=λd w=>by
  simp only [Op.equalIn,Sem.run_bind,run_underlying Tryz.underlying63,Result.andThen_ok];rfl
 have b:∀ w,(Op.equalIn 10000 63 .nilIface (.iface 66 (Z8 Z9 n))).run ZW w=.ok Z0 w:=λw=>a 9999 w;have c:∀ w,(binOp .eql 63 .nilIface (.iface 66 (Z8 Z9 n))).run ZW w=.ok (.bool Z0) w:=λw=>by
  simp only [binOp];simp [Op.equal,Op.maxDepth,b]
 clear a b;go_enter Tryz.func72,Tryz.ntmps72;go_wp2;go_ret;exact ⟨rfl,rfl⟩
theorem Ij (w:ZZ):ZX ZW 157 #[.nilIface] w λe w'=>e=Z4 (.tuple #[])/\w'=w:=by
 go_enter Tryz.func157,Tryz.ntmps157;go_wp2_with fail;refine (Cd 13 w).mono ?_;rintro e w' ⟨rfl,rfl⟩;go_wp2;first|go_end0|skip
 exact ⟨rfl,rfl⟩
theorem rI (P:bq w v p D L G ps ho) (h:aq w p A F) (S:A.fit) (d b:Nat) (R:d<A.n) (Q:b<A.nb) (Z:A.wait≠0) (V:A.lost d=Z0) (O:A.bad d b=Z0)
 (r:aW) (J:r.ok) (W:iS r) (z:A.blk d b=r.blk) (Y:bj w) (U:¬ F.has p A.n 2) :
 ZX ZW 137 #[Z7 (Z1 ⟨v,0,Z2⟩),Z8 Z9 d,Z8 Z9 b] w λe w'=>e=Z4 (.tuple #[bp r,.nilIface])/\aq w' p (A.setReads d (wrap64 (A.reads d+1))) F/\aa (F.has p A.n) w w':=by
 obtain ⟨N,_⟩:=P.cells;have hz:=zeroBlk;have hx:(an zb).size=64:=by rw [bz,bD]
 have i:=Lj h S d b R Q Z V O;rw [z] at i;obtain ⟨l,s⟩:=nM (r.blk);have f:=ez J;rw [s] at i f;have K:=hide s;clear s z;go_enter Tryz.func137,Tryz.ntmps137;go_wp2_with fail;refine i.mono ?_;rintro e w1 ⟨rfl,j,o⟩;have E:=bG.new w1 zb;have hs:(an l).size=64:=by rw [bz,f]
 have x:=j.alloc (Z5 (an zb) 255);have B:aa (F.has p A.n) w (w1.alloc (Z5 (an zb) 255)):=o.trans (aa.alloc _ _);have H:∀ k,F.has p A.n k->k≠w1.heap.size:=λk c e=>by have:=j.has_lt (k:=k) c;omega
 have a:=hide4 E x B H;have hy:=o.size;clear i j o E x B H N;go_wp2_with (first|(refine fZ rfl (Z3 8) (Z3 20) rfl w1.heap.size l zb rfl rfl a.out.1 bD f ?_)|(refine lV rfl (Z3 8) rfl w1.heap.size l rfl (a.out.1.setRow l) f ?_));have X:=a.out.1.setRow l;have m:aq ((w1.alloc (Z5 (an zb) 255)).setRow w1.heap.size (an l)) p (A.setReads d (wrap64 (A.reads d+1))) F:=a.out.2.1.keep λk c=>(aI _ _ _).block k (a.out.2.1.has_lt c) (λe=>a.out.2.2.2 k c (by cases e;rfl));have g:aa (F.has p A.n) w ((w1.alloc (Z5 (an zb) 255)).setRow w1.heap.size (an l)):=a.out.2.2.1.later (T:=λk=>k=w1.heap.size) (aa.setRow _ _ _ rfl) (λk c e=>absurd e (by omega));obtain ⟨w3,I⟩:=nM ((w1.alloc (Z5 (an zb) 255)).setRow w1.heap.size (an l));rw [I] at m g ⊢;have ho:=Pa r w3 W J (Y.outside g U);rw [K.out] at ho;refine ho.mono ?_;rintro e w4 ⟨rfl,q⟩;have y:=m.below q lR;have C:aa (F.has p A.n) w w4:=g.trans (aa.of_all q _);have u:=hide2 y C;clear ho q y C m g X I a;obtain ⟨rv,t⟩:=nM (bp r);have M:=hide t;simp only [t];clear t;go_wp2;go_ret2;exact ⟨by rw [M.out];rfl,u.out.1,u.out.2⟩
noncomputable def QZ:Array Oper:=((Tryz.f130.body.bind (mD · 1))).getD #[]
def Pc:List (Op×Option Nat×List Nat):=[(Op.move (Z3 0),Z1 10,[]),
 (Op.nilCheck (Z3 10),Z1 11,[0]),
 (Op.fieldAddr 130 (Z3 11) 0,Z1 12,[1]),
 (Op.load 31 (Z3 12),Z1 13,[2]),
 (Op.move (Z3 1),Z1 14,[]),
 (Op.move (Z3 2),Z1 15,[]),
 (Op.move (Z3 3),Z1 16,[]),
 (Op.call { callee:=Callee.value (Operand.func 156),args:=#[Z3 16],argTypes:=#[219] },Z1 17,[6]),
 (Op.call { callee:=Callee.value (Operand.func 155),args:=#[Z3 13,Z3 14,Z3 15,Z3 17],argTypes:=#[31,3,3,255] },Z1 18,[3,4,5,7,7]),
 (Op.assign (Z3 18),Z1 9,[8,8,0,1,2,3,4,5,6,7,8])]
theorem Fb:aN QZ 9 19 Pc:=bt (by kernel_rfl) (by kernel_rfl)
def Nh (v p d b:Nat) (r:aW):List Value:=[Z7 (Z1 ⟨v,0,Z2⟩),Z7 (Z1 ⟨v,0,Z2⟩),Z7 (Z1 ⟨v,0,Z2⟩),Z7 (Z1 ⟨p,0,Z2⟩),Z8 Z9 d,Z8 Z9 b,bp r,.agg (an r.blk),.nilIface,.nilIface]
def wV (A:aB) (d b:Nat) (r:aW) (D:Nat->Bool):aB:=if D 8=true then (A.setBlk d b r.blk).setBad d b Z0 else A
def Qj (w0:ZZ) (v p D L G ps ho:Nat) (A:aB) (F:bx) (d b:Nat) (r:aW) (Dn:Nat->Bool) (w:ZZ):Prop:=aq w p (wV A d b r Dn) F/\bq w v p D L G ps ho/\aa (F.has p A.n) w0 w
theorem iT {d:Nat} {r:aW} {Dn:Nat->Bool} (h:Qj w0 v p D L G ps ho A F d b r Dn w) (i:Nat) (c:i≠8) (a:ZY w.heap.size w w'):Qj w0 v p D L G ps ho A F d b r (dN Dn i) w':=by
 refine ⟨?_,h.2.1.keep (a.block _ h.2.1.lt),h.2.2.trans (aa.of_all a _)⟩;have e:wV A d b r (dN Dn i)=wV A d b r Dn:=by unfold wV dN;rw [if_neg (λe:8=i=>c e.symm)]
 rw [e];exact h.1.below a lR
theorem qK (O:QZ=ops) (g:bq w v p D L G ps ho) (h:aq w p A F) (Y:A.fit) (d b:Nat) (X:d<A.n) (B:b<A.nb) (hw:A.wait<0) (Z:A.lost d=Z0)
 (r:aW) (I:r.ok) (hm:iS r) (hv:bj w) (y:¬ F.has p A.n 2) (T:¬ F.has p A.n v) (hc:a.tmps.size=22) (J:a.eval (Z3 0)=Z7 (Z1 ⟨v,0,Z2⟩)) (K:a.eval (Z3 1)=Z8 Z9 d) (M:a.eval (Z3 2)=Z8 Z9 b) (N:a.eval (Z3 3)=bp r)
 (V:∀ w',aq w' p ((A.setBlk d b r.blk).setBad d b Z0) F->aa (F.has p A.n) w w'->Q .normal (Act.putFrom a 9 [.nilIface,Z7 (Z1 ⟨v,0,Z2⟩),Z7 (Z1 ⟨v,0,Z2⟩),Z7 (Z1 ⟨v,0,Z2⟩),Z7 (Z1 ⟨p,0,Z2⟩),Z8 Z9 d,Z8 Z9 b,bp r,.agg (an r.blk),.nilIface]) w') :
 (Code.region 1 ops true).wp ZW Q a w:=by
 subst O;refine bZ (by kernel_rfl) Fb a w (by omega) (λi u _=>u=(Nh v p d b r).getD i undef) (Qj w v p D L G ps ho A F d b r) ⟨h.keep λ_ _=>rfl,g,aa.drew w⟩ ?_ ?_
 . intro i C;match i,C with
   | 0,_=>exact λo k w' s y ho l q t x m j g=>ab (ag ho ((q.slot 0 (by omega)).trans J) w') l ⟨iT j _ (by decide) (Below.refl _ _),rfl,kq⟩
   | 1,_|2,_=>
    intro o k w' s y ho l q t x m j g;have u0:=g _ (m _ (.head _));simp only [Pc,Nh,bV,cM,Sg,Sf] at ho u0;exact ab (by simp only [execOp,ho,u0,Nh,Sg,Sf];go_simp) l ⟨iT j _ (by decide) (Below.refl _ _),rfl,kq⟩
   | 3,_=>
    intro o k w' s y ho l q t x m j g;have u0:k.eval (Z3 12)=Z7 (Z1 ⟨v,0,Z2⟩):=g 2 (m 2 (by decide));have c:=j.2.1.cells.1;exact ab (v:=Z7 (Z1 ⟨p,0,Z2⟩)) (by simp only [execOp,show o.op=Op.load 31 (Z3 12) from ho,u0];go_simp) l ⟨iT j _ (by decide) (Below.refl _ _),rfl,kq⟩
   | 4,_=>exact λo k w' s y ho l q t x m j g=>ab (ag ho ((q.slot 1 (by omega)).trans K) w') l ⟨iT j _ (by decide) (Below.refl _ _),rfl,kq⟩
   | 5,_=>exact λo k w' s y ho l q t x m j g=>ab (ag ho ((q.slot 2 (by omega)).trans M) w') l ⟨iT j _ (by decide) (Below.refl _ _),rfl,kq⟩
   | 6,_=>exact λo k w' s y ho l q t x m j g=>ab (ag ho ((q.slot 3 (by omega)).trans N) w') l ⟨iT j _ (by decide) (Below.refl _ _),rfl,kq⟩
   | 7,_=>
    intro o k w' s R ho l q t x m j g;have u0:k.eval (Z3 16)=bp r:=g 6 (m 6 (by decide));refine dz (f:=156) (args:=#[bp r]) (w1:=w') (by simp only [execOp,show o.op=Op.call { callee:=Callee.value (Operand.func 156),args:=#[Z3 16],argTypes:=#[219] } from ho];go_simp;simpa [Act.eval] using u0) l (hm w' (hv.outside j.2.2 y)) ?_;rintro e E ⟨rfl,B⟩;exact ⟨_,rfl,iT j 7 (by decide) B,rfl,kq⟩
   | 8,_=>
    intro o k w' s R ho l q t x m j g;have u0:k.eval (Z3 13)=Z7 (Z1 ⟨p,0,Z2⟩):=g 3 (m 3 (by decide));have u1:k.eval (Z3 14)=Z8 Z9 d:=g 4 (m 4 (by decide));have u2:k.eval (Z3 15)=Z8 Z9 b:=g 5 (m 5 (by decide));have u3:k.eval (Z3 17)=.agg (an r.blk):=g 7 (m 7 (by decide));have z:aq w' p A F:=(by have:=j.1;unfold wV at this;rw [if_neg (by rw [t];decide)] at this;exact this);refine dz (f:=155) (args:=#[Z7 (Z1 ⟨p,0,Z2⟩),Z8 Z9 d,Z8 Z9 b,.agg (an r.blk)]) (w1:=w') (by simp only [execOp,show o.op=Op.call { callee:=Callee.value (Operand.func 155),args:=#[Z3 13,Z3 14,Z3 15,Z3 17],argTypes:=#[31,3,3,255] } from ho];go_simp;exact ⟨by simpa [Act.eval] using u0,by simpa [Act.eval] using u1,by simpa [Act.eval] using u2,by simpa [Act.eval] using u3⟩) l (Ii z Y d b X B hw Z r.blk (ez I) (jg I)) ?_;rintro e E ⟨rfl,P,H⟩;refine ⟨_,rfl,⟨?_,j.2.1.keep (H.block _ j.2.1.lt T),j.2.2.trans H⟩,rfl,kq⟩;have e:wV A d b r (dN s 8)=(A.setBlk d b r.blk).setBad d b Z0:=(by unfold wV dN;rw [if_pos (by rw [if_pos rfl])]);rw [e];exact P
   | 9,_=>
    intro o k w' s y ho l q t x m j g;have u0:k.eval (Z3 18)=.nilIface:=g 8 (m 8 (by decide));exact ab (v:=.nilIface) (by simp [execOp,show o.op=Op.assign (Z3 18) from ho,u0]) l ⟨iT j _ (by decide) (Below.refl _ _),rfl,kq⟩
   | n+10,hn=>exact absurd hn (by show ¬ n+10<10;omega)
 . rintro k w' S ⟨s,U,j⟩ g;have e:wV A d b r s=(A.setBlk d b r.blk).setBad d b Z0:=(by unfold wV;rw [if_pos (U 8 (by decide))]);have z:=j.1;rw [e] at z;have W:∀ i:Nat,i<10->k.eval (.tmp (9+i))=[.nilIface,Z7 (Z1 ⟨v,0,Z2⟩),Z7 (Z1 ⟨v,0,Z2⟩),Z7 (Z1 ⟨v,0,Z2⟩),Z7 (Z1 ⟨p,0,Z2⟩),Z8 Z9 d,Z8 Z9 b,bp r,.agg (an r.blk),.nilIface].getD i undef:=by
    intro i C;match i,C with
    | 0,_=>exact g 9 (by decide)
    | 1,_=>exact g 0 (by decide)
    | 2,_=>exact g 1 (by decide)
    | 3,_=>exact g 2 (by decide)
    | 4,_=>exact g 3 (by decide)
    | 5,_=>exact g 4 (by decide)
    | 6,_=>exact g 5 (by decide)
    | 7,_=>exact g 6 (by decide)
    | 8,_=>exact g 7 (by decide)
    | 9,_=>exact g 8 (by decide)
    | n+10,hn=>exact absurd hn (by show ¬ n+10<10;omega)
   rw [S.out [.nilIface,Z7 (Z1 ⟨v,0,Z2⟩),Z7 (Z1 ⟨v,0,Z2⟩),Z7 (Z1 ⟨v,0,Z2⟩),Z7 (Z1 ⟨p,0,Z2⟩),Z8 Z9 d,Z8 Z9 b,bp r,.agg (an r.blk),.nilIface] rfl (by omega) W];exact V w' z j.2.2
theorem pR (k:bq w v p D L G ps ho) (h:aq w p A F) (o:A.fit) (d b:Nat) (m:d<A.n) (l:b<A.nb) (y:A.wait<0) (s:A.lost d=Z0)
 (r:aW) (u:r.ok) (t:iS r) (x:bj w) (q:¬ F.has p A.n 2) (j:¬ F.has p A.n v) :
 ZX ZW 130 #[Z7 (Z1 ⟨v,0,Z2⟩),Z8 Z9 d,Z8 Z9 b,bp r] w λe w'=>e=Z4 .nilIface/\aq w' p ((A.setBlk d b r.blk).setBad d b Z0) F/\aa (F.has p A.n) w w':=by
 obtain ⟨rv,a⟩:=nM (bp r);simp only [a];have f:=hide a;clear a;go_enter Tryz.func130,Tryz.ntmps130;go_wp2_with fail;refine qK (by kernel_rfl) k h o d b m l y s r u t x q j rfl rfl rfl rfl f.out.symm ?_;intro w1 g i;rw [f.out];have c:=hide2 g i;clear g i;rename_i hK
 refine hK _ _ ?_;clear hK;simp only [Act.putFrom,Act.put,Tm,Tn,To];generalize an r.blk=z;go_wp2_with fail;refine (Ij w1).mono ?_;rintro e w' ⟨rfl,rfl⟩;go_wp2;go_ret;exact ⟨rfl,c.out.1,c.out.2⟩
end Go.Proofs.YtfbmmcnpjhmjaaaGreatDoor
