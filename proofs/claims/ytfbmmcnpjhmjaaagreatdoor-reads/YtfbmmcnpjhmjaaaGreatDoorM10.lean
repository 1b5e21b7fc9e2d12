import Derived.Test.YtfbmmcnpjhmjaaaGreatDoorM04
import Derived.Test.YtfbmmcnpjhmjaaaGreatDoorM08
import Derived.Test.YtfbmmcnpjhmjaaaGreatDoorM05
import Derived.Laws.BitsAllLaws
import Derived.BigRegion
import Derived.Test.YtfbmmcnpjhmjaaaGreatDoorM09
import Derived.Deep.AppendLies
set_option maxRecDepth 100000
set_option maxHeartbeats 8000000
open Go.Value renaming int -> Z9, slice -> Z8
open Go.Operand renaming tmp -> Z7
open Option renaming none -> Z6, some -> Z5
open Go renaming World -> Z4, Value -> Z3
open List renaming range -> Tm, getElem?_eq_getElem -> Tn, drop_drop -> Tp, length_drop -> Tq, length_map -> Tr, mem_filter -> Ts, mem_range -> Tt, getD_eq_getElem?_getD -> Tu, mem_map -> Tv, length_range -> Tw, getElem?_map -> Tx, range_succ -> Tz, countP_append -> TA, mem_cons_of_mem -> TB, mem_of_mem_drop -> TE, append_assoc -> TF, getElem_mem -> TG, getElem?_append -> TH, mem_cons_self -> TI, range_add -> TJ, countP_map -> TK, countP_eq_length_filter -> TL, nodup_range -> TM, eq_nil_of_length_eq_zero -> TN, getElem_append_left -> TO, getElem_append_right -> TP
open Nat renaming zero_add -> To, mod_two_eq_zero_or_one -> TC
open Array renaming foldl -> Ty, getElem?_eq_none -> TD
namespace Go.Proofs.YtfbmmcnpjhmjaaaGreatDoor
variable {O:List (Int×Nat×Nat×List Nat)} {K:List (List Nat)} {l src:List Nat} {b off c base:Nat} {t:TypeId} {v u:Z3} {w w0 w':Z4}
section
open Go.RowKit Go.Deep
def bp:aW->Z3
 | .blank=>.iface 235 (.agg #[])
 | .root D L G t f n=>.iface 117 (.agg (aQ D L G t f n))
 | .filled=>.iface 174 (.agg #[])
 | .shard l=>.iface 217 (.agg (aH l).toArray)
theorem lX (h:bG w b l):w.rangeAt b 0 (aH l):=λj v c=>by
 have:(an l)[j]?=Z5 v:=by unfold an;simpa using c
 have a:w.heap[b]?=Z5 (.cells (an l) 255 (0,0)):=h;simp [World.cell?,a,this]
theorem Ib (h:bG w b l) (i:Nat) (a:i<l.length):w.cell? ⟨b,i,Z6⟩=Z5 (Z9 .u8 ((l.getD i 0:Nat):Int)):=by
 have:=lX h i (Z9 .u8 ((l.getD i 0:Nat):Int)) (by unfold aH;rw [Tx,Tn a,Tu,Tn a];rfl);rwa [To] at this
theorem rH (l:List Nat) (i:Nat) (h:i<l.length):(l.drop i).take 1=[l.getD i 0]:=by
 rw [List.drop_eq_getElem_cons h,Tu,Tn h];rfl
theorem Ic (b:l.length=64) (a:l.getD 4 0=1):EN l=.root (gy ((l.drop 5).take 1)) (gy (((l.drop 5).drop 1).take 1)) (gy (((l.drop 5).drop 2).take 1)) (gy (((l.drop 5).drop 3).take 8)) (gy (((l.drop 5).drop 11).take 4)) (gy (((l.drop 5).drop 15).take 4)):=by
 unfold EN;rw [if_pos a,Tp,Tp,Tp,Tp,Tp,rH l 5 (by omega),rH l (5+1) (by omega),rH l (5+2) (by omega)]
theorem zv:∀ (l:List Z3) (k:Nat) (z:Array Z3),((l.zipIdx k).foldl (λcs x=>cs.setIfInBounds x.2 x.1) z).size=z.size/\∀ i,((l.zipIdx k).foldl (λcs x=>cs.setIfInBounds x.2 x.1) z)[i]?=if k<=i/\i<k+l.length/\i<z.size then l[i-k]? else z[i]?
 | [],k,z=>⟨rfl,λi=>by
  show z[i]?=if k<=i/\i<k+0/\i<z.size then _ else z[i]?;rw [if_neg (by omega)]⟩
 | v::l,k,z=>by
  obtain ⟨b,c⟩:=zv l (k+1) (z.setIfInBounds k v);rw [List.zipIdx_cons,List.foldl_cons];refine ⟨by rw [b];simp,λi=>?_⟩;rw [c i,Array.size_setIfInBounds,Array.getElem?_setIfInBounds];simp only [List.length_cons];by_cases e:k=i
  . subst e;rw [if_neg (by omega),if_pos rfl];by_cases a:k<z.size
    . rw [if_pos a,if_pos (by omega),Nat.sub_self];rfl
    . rw [if_neg a,if_neg (by omega)];simp [a]
  . rw [if_neg e];by_cases a:k+1<=i/\i<k+1+l.length/\i<z.size
    . rw [if_pos a,if_pos (by omega),show i-k=(i-(k+1))+1 by omega];rfl
    . rw [if_neg a,if_neg (by omega)]
theorem uP (z a:Array Z3) (n:Nat) (g:z.size=n) (c:a.size=n):Ty (λcs x=>cs.setIfInBounds x.snd x.fst) z a.zipIdx 0 n=a:=by
 have e:Ty (λcs x=>cs.setIfInBounds x.snd x.fst) z a.zipIdx 0 n=(a.toList.zipIdx).foldl (λcs x=>cs.setIfInBounds x.2 x.1) z:=by
  rw [<- c,show a.size=a.zipIdx.size by simp,<- Array.foldl_toList,Array.toList_zipIdx]
 rw [e];obtain ⟨d,b⟩:=zv a.toList 0 z;apply Array.ext_getElem?;intro i;rw [b i];by_cases f:i<n
 . rw [if_pos (by simp;omega)];simp
 . rw [if_neg (by omega)];simp [TD (show z.size<=i by omega),TD (show a.size<=i by omega)]
theorem E3 (l:List Nat) (w:Z4) (q:l.length=64) (m:∀ x∈l,x<256) :
 Calls Tryz.prog 176 #[.agg (an l)] w λe w'=>e=.returned (bp (EN l))/\Below w.heap.size w w':=by
 have o:=bG.new w l;have c:Below w.heap.size w (w.alloc (.cells (an l) 255)):=bA w _;have b:(w.alloc (.cells (an l) 255)).heap.size=w.heap.size+1:=by simp
 have I:(an l).size=64:=by rw [bz,q]
 obtain ⟨w1,G⟩:=nM (w.alloc (.cells (an l) 255));rw [G] at o c b;have t:=Ib o 4 (by omega);have j:w1.rangeAt w.heap.size 5 (aH (l.drop 5)):=by have:=fI 5 (lX o);rwa [To] at this
 have i:w1.rangeAt w.heap.size 20 (aH (l.drop 20)):=by have:=fI 20 (lX o);rwa [To] at this
 have k:∀ x∈l.drop 5,x<256:=λx h=>m x (TE h);have d:(l.drop 5).length=59:=by rw [Tq,q]
 have f:(l.drop 20).length=44:=by rw [Tq,q]
 by_cases g:l.getD 4 0=1
 . have a:=Ic q g;rw [g] at t;have p:=BX w.heap.size 5 (l.drop 5) w1 d k j (by omega);rw [d] at p;rw [a];obtain ⟨ra,v⟩:=nM (aQ (gy ((l.drop 5).take 1)) (gy (((l.drop 5).drop 1).take 1)) (gy (((l.drop 5).drop 2).take 1)) (gy (((l.drop 5).drop 3).take 8)) (gy (((l.drop 5).drop 11).take 4)) (gy (((l.drop 5).drop 15).take 4)));rw [v] at p;have E:=hide v;clear v;have H:=hide2 c b;clear a i j k f m d c b;go_enter Tryz.func176,Tryz.ntmps176;go_wp2_with fail;refine p.mono ?_;rintro e w2 ⟨rfl,B⟩;clear p;have D:=hide B;clear B;go_wp2;go_ret;exact ⟨by rw [show bp (.root (gy ((l.drop 5).take 1)) (gy (((l.drop 5).drop 1).take 1)) (gy (((l.drop 5).drop 2).take 1)) (gy (((l.drop 5).drop 3).take 8)) (gy (((l.drop 5).drop 11).take 4)) (gy (((l.drop 5).drop 15).take 4)))=.iface 117 (.agg ra) from (by unfold bp;rw [<- E.out])];rfl,H.out.1.trans (D.out.mono (by have:=H.out.2;omega))⟩
 . by_cases n:l.getD 4 0=2
   . have a:EN l=.filled:=(by unfold EN;rw [if_neg g,if_pos n]);rw [n] at t;rw [a];have H:=hide2 c b;clear a i j k f m d c b;unfold bp;go_enter Tryz.func176,Tryz.ntmps176;go_wp2;go_ret;exact ⟨rfl,H.out.1⟩
   . by_cases u:l.getD 4 0=3
     . have a:EN l=.shard (l.drop 20):=(by unfold EN;rw [if_neg g,if_neg n,if_pos u]);rw [u] at t;rw [a];have H:=hide4 c b i f;clear a i j k f m d c b;have J:∀ (s:Addr) (w:Z4),(Instr.arrayAt 215 (Z8 (Z5 s) 44 44)).run Tryz.prog w=.ok (.pointer (Z5 s)) w:=λs w=>by simp [Instr.arrayAt,run_underlying Tryz.underlying215]
       have C:(aH (l.drop 20)).toArray.size=44:=(by rw [List.size_toArray,bm];exact H.out.2.2.2);go_enter Tryz.func176,Tryz.ntmps176;obtain ⟨r,y⟩:=nM ((aH (l.drop 20)).toArray);rw [y] at C;have A:=hide y;go_wp2_with (refine wpList_load_mid rfl 215 (Z7 17) rfl w.heap.size 20 rfl (aH (l.drop 20)) _ H.out.2.2.1 Tryz.underlying215 rfl (by rw [bm,H.out.2.2.2];kernel_rfl) ?_;rw [A.out];clear y);have F:∀ z:Array Z3,z.size=44->Ty (λcs x=>cs.setIfInBounds x.snd x.fst) z r.zipIdx 0 44=r:=λz b=>uP z r 44 b C;rw [F _ rfl];go_ret;exact ⟨by rw [show bp (.shard (l.drop 20))=.iface 217 (.agg r) from (by unfold bp;rw [<- A.out])];rfl,H.out.1⟩
     . have a:EN l=.blank:=(by unfold EN;rw [if_neg g,if_neg n,if_neg u]);rw [a];have H:=hide2 c b;have K:¬ ((l.getD 4 0:Nat):Int)=1:=(by omega);have L:¬ ((l.getD 4 0:Nat):Int)=2:=(by omega);have M:¬ ((l.getD 4 0:Nat):Int)=3:=(by omega);clear a i j k f m d c b;generalize l.getD 4 0=x at *;unfold bp;go_enter Tryz.func176,Tryz.ntmps176;go_wp2;go_ret;exact ⟨rfl,H.out.1⟩
def jA (l:List Nat) (off:Nat) (src:List Nat):List Nat:=l.take off++(src++l.drop (off+src.length))
theorem nG (h:off+src.length<=l.length):(jA l off src).length=l.length:=by unfold jA;simp;omega
theorem nH {n cap:Nat} (h:TypeId) (p:bG w b l) (r:Bs w v src) (i:src≠[]) (y:src.length<=n) (t:off+src.length<=l.length) :
 (Builtin.copy_ #[34,34] h #[Z8 (Z5 ⟨b,off,Z6⟩) n cap,v]).run Tryz.prog w=.ok (Z9 .i64 (src.length:Nat)) (w.setRow b (an (jA l off src))):=by
 obtain ⟨z,c,rfl,A,B,C,k⟩:=r;obtain ⟨g,o,rfl,s⟩:=k i;have m:=run_copy_row (P:=Tryz.prog) w 34 34 h 5 b off n cap ⟨g,o,Z6⟩ src.length c (an l) 255 (aH src) Tryz.underlying34 (by kernel_rfl) p (by rw [bm];exact (Nat.min_eq_left y).symm) (λj u f=>by
  have a:j<src.length:=by obtain ⟨q,_⟩:=List.getElem?_eq_some_iff.1 f;rwa [bm] at q
  rw [Addr.add_mid,s j a,<- f];unfold aH;rw [Tx,Tn a,Tu,Tn a];rfl) (by rw [bm,bz];exact t) (λu d=>by
  unfold aH at d;rw [Tv] at d;obtain ⟨x,_,rfl⟩:=d;rfl)
 rw [m];have e:(List.take off (an l).toList++aH src++List.drop (off+(aH src).length) (an l).toList).toArray=an (jA l off src):=by
  rw [uM,bm];unfold an jA;rw [bU,bU,TF];unfold aH;rw [List.map_take,List.map_drop]
 simp only [TF] at e ⊢;rw [e,bm];rfl
noncomputable def QV:Array Oper:=((Tryz.f156.body.bind (mD · 5))).getD #[]
def Qb:List (Op×Option Nat×List Nat):=[(Op.slice 255 (Z7 3) Z6 (Z5 (Operand.const (Value.int IntKind.i64 4))) Z6,Z5 13,[]),
 (Op.slice 255 (Z7 3) (Z5 (Operand.const (Value.int IntKind.i64 4))) Z6 Z6,Z5 14,[]),
 (Op.call { callee:=Callee.value (Operand.func 175),args:=#[Z7 14],argTypes:=#[34] },Z5 15,[1]),
 (Op.convert 296 47 (Z7 15),Z5 16,[2]),
 (Op.call { callee:=Callee.value (Operand.func 149),args:=#[Operand.const (Value.slice Z6 0 0),Z7 16,Operand.const (Value.int IntKind.i64 4)],argTypes:=#[34,47,3] },Z5 17,[3,2]),
 (Op.call { callee:=Callee.builtin Builtin.copy,args:=#[Z7 13,Z7 17],argTypes:=#[34,34] },Z5 18,[0,4,4])]
theorem E4:aN QV 13 19 Qb:=bt (by kernel_rfl) (by kernel_rfl)
def Qc (w0:Z4) (b c:Nat) (i:Nat) (u:Z3) (w:Z4):Prop:=match i with
 | 0=>u=Z8 (Z5 ⟨b,0,Z6⟩) 4 64
 | 1=>u=Z8 (Z5 ⟨b,4,Z6⟩) 60 60
 | 2=>u=Z9 .u32 (c:Nat)
 | 3=>u=Z9 .u64 (c:Nat)
 | 4=>w.ownsRow w0.heap.size 5 1 u (0+4) (aH (be c 4))
 | _=>True
theorem zw (j:b<w0.heap.size) (g:∀ k,k≠b->k<w.heap.size->w'.heap[k]?=w.heap[k]?) (a:w.os=w'.os/\w.tape=w'.tape/\w.output=w'.output/\w.heap.size<=w'.heap.size) (i:Nat) (u:Z3) (h:Qc w0 b c i u w):Qc w0 b c i u w':=by
 match i with
 | 0|1|2|3=>exact h
 | 4=>exact World.ownsRow.kept h (row:=Z5 b) ⟨a.1.symm,a.2.1.symm,a.2.2.1.symm,a.2.2.2,λk d f=>g k (λe=>f (by rw [e])) d⟩ (.inr λe=>by have:=(World.ownsRow.lt h b e).1;omega)
 | n+5=>trivial
def Qd (w0:Z4) (b c:Nat) (l:List Nat) (D:Nat->Bool) (w:Z4):Prop:=bG w b (if D 5=true then jA l 0 (be c 4) else l)/\aa (λk=>k=b) w0 w
theorem nI {D:Nat->Bool} (h:Qd w0 b c l D w) (i:Nat) (d:i≠5) (a:aa (λ_=>False) w w'):Qd w0 b c l (dN D i) w':=by
 refine ⟨?_,h.2.later a (λ_ _ q=>q.elim)⟩;unfold dN;rw [if_neg (λe:5=i=>d e.symm)];exact h.1.keep (a.block _ h.1.lt (λq=>q))
theorem bj.out (h:bj w) (a:aa (λk=>k=b) w w') (c:b≠2):bj w':=λj d=>by
 have:=h j d;rw [<- this];exact World.cell?_of_block (a.block _ (block_lt_of_cell this) (λe=>c e.symm))
theorem jW {ops:Array Oper} {Q:Exit->Act->Z4->Prop} {a:Act} (O:QV=ops) (d:bG w b l) (F:l.length=64) (hx:∀ x∈l,x<256) (hv:bj w) (R:b≠2) (hs:a.tmps.size=20)
 (H:a.eval (Z7 3)=.pointer (Z5 ⟨b,0,Z6⟩)) (L:∀ (w':Z4) (N:List Z3),N.length=6->bG w' b (jA l 0 (be (Hn (l.drop 4)) 4))->aa (λk=>k=b) w w'->Q .normal (Act.putFrom a 13 N) w'):(Code.region 5 ops true).wp Tryz.prog Q a w:=by
 subst O;obtain ⟨c,G⟩:=nM (Hn (l.drop 4));have z:c<4294967296:=G▸M5 _;rw [G] at L;have K:=d.lt;refine bZ (by kernel_rfl) E4 a w (by omega) (Qc w b c) (Qd w b c l) ⟨d,aa.drew w⟩ ?_ ?_
 . intro i E;match i,E with
   | 0,_=>
    intro o g w' D A ho m r t z s d p;have u0:g.eval (Z7 3)=.pointer (Z5 ⟨b,0,Z6⟩):=(r.slot 3 (by omega)).trans H;exact ab (v:=Z8 (Z5 ⟨b,0,Z6⟩) 4 64) (by simp only [execOp,show o.op=Op.slice 255 (Z7 3) Z6 (Z5 (Operand.const (Value.int IntKind.i64 4))) Z6 from ho,u0];go_simp) m ⟨nI d 0 (by decide) (aa.refl _ _),rfl,kq⟩
   | 1,_=>
    intro o g w' D A ho m r t z s d p;have u0:g.eval (Z7 3)=.pointer (Z5 ⟨b,0,Z6⟩):=(r.slot 3 (by omega)).trans H;exact ab (v:=Z8 (Z5 ⟨b,4,Z6⟩) 60 60) (by simp only [execOp,show o.op=Op.slice 255 (Z7 3) (Z5 (Operand.const (Value.int IntKind.i64 4))) Z6 Z6 from ho,u0];go_simp) m ⟨nI d 1 (by decide) (aa.refl _ _),rfl,kq⟩
   | 2,_=>
    intro o g w' D A ho m r t z s d p;have u0:g.eval (Z7 14)=Z8 (Z5 ⟨b,4,Z6⟩) 60 60:=p 1 (s 1 (by decide));have T:D 5=false:=by
     cases q:D 5 with
     | false=>rfl
     | true=>have:=(z 5 q).2 4 (by decide);have:=(z 4 this).2 2 (by decide);rw [t] at this;cases this
    have C:bG w' b l:=(by have:=d.1;rw [if_neg (by rw [T];decide)] at this;exact this);have M:Bs w' (Z8 (Z5 ⟨b,4,Z6⟩) (l.drop 4).length 60) (l.drop 4):=Bs.mid (by rw [Tq,F];decide) (by rw [Tq,F];decide) (λx h=>hx x (TE h)) (by have:=fI 4 (lX C);rwa [To] at this);rw [show (l.drop 4).length=60 by rw [Tq,F]] at M;refine dz (f:=175) (args:=#[Z8 (Z5 ⟨b,4,Z6⟩) 60 60]) (w1:=w') (by simp only [execOp,show o.op=Op.call { callee:=Callee.value (Operand.func 175),args:=#[Z7 14],argTypes:=#[34] } from ho];go_simp;simpa [Act.eval] using u0) m (Lg _ (l.drop 4) w' M (hv.out d.2 R)) ?_;rintro e B ⟨rfl,rfl⟩;rw [G];exact ⟨_,rfl,nI d 2 (by decide) (aa.refl _ _),rfl,kq⟩
   | 3,_=>
    intro o g w' D A ho m r t I s d p;have u0:g.eval (Z7 15)=Z9 .u32 (c:Nat):=p 2 (s 2 (by decide));exact ab (v:=Z9 .u64 (c:Nat)) (by simp only [execOp,show o.op=Op.convert 296 47 (Z7 15) from ho,u0];go_simp;rw [IntKind.wrap_u64];omega) m ⟨nI d 3 (by decide) (aa.refl _ _),rfl,kq⟩
   | 4,_=>
    intro o g w' D A ho m r t I s d p;have u0:g.eval (Z7 16)=Z9 .u64 (c:Nat):=p 3 (s 3 (by decide));refine dz (f:=149) (args:=#[Z8 Z6 0 0,Z9 .u64 (c:Nat),Z9 .i64 (4:Nat)]) (w1:=w') (by simp only [execOp,show o.op=Op.call { callee:=Callee.value (Operand.func 149),args:=#[Operand.const (Value.slice Z6 0 0),Z7 16,Operand.const (Value.int IntKind.i64 4)],argTypes:=#[34,47,3] } from ho];go_simp;simpa [Act.eval] using u0) m (eR w.heap.size (Z8 Z6 0 0) 0 [] c 4 w' (World.ownsRow_nil _ _ _ _) d.2.size (by decide) (by decide)) ?_;rintro e B ⟨v',rfl,Z,U,hr⟩;have y:aa (λ_=>False) w' B:=U.mono (λk _ q=>by simp [Value.ownBlock] at q);refine ⟨v',rfl,nI d 4 (by decide) y,Z,λj u W q=>zw K (λk _ r=>y.block k r (λq=>q)) ⟨y.os.symm,y.tape.symm,y.output.symm,y.size⟩ j u q⟩
   | 5,_=>
    intro o g w' D A ho m r t I s d p;have u0:g.eval (Z7 13)=Z8 (Z5 ⟨b,0,Z6⟩) 4 64:=p 0 (s 0 (by decide));have u1:w'.ownsRow w.heap.size 5 1 (g.eval (Z7 17)) (0+4) (aH (be c 4)):=p 4 (s 4 (by decide));have C:bG w' b l:=(by have:=d.1;rw [if_neg (by rw [t];decide)] at this;exact this);have V:=nH (n:=4) (cap:=64) (off:=0) o.type C (Bs.of_owns u1 (rA _ _) (by rw [bT];decide)) (by intro e;have:=bT c 4;rw [e] at this;cases this) (by rw [bT];decide) (by rw [bT,F];decide);refine ab (v:=Z9 .i64 ((be c 4).length:Nat)) (w':=w'.setRow b (an (jA l 0 (be c 4)))) (by simp only [execOp,show o.op=Op.call { callee:=Callee.builtin Builtin.copy,args:=#[Z7 13,Z7 17],argTypes:=#[34,34] } from ho,resolve,invoke,builtin,Sem.run_bind,Sem.run_pure,Result.andThen_ok,List.map_toArray,List.map_cons,List.map_nil,u0,V]) m ⟨⟨?_,d.2.later (aa.setRow (S:=λk=>k=b) _ _ _ rfl) (λ_ _ q=>q)⟩,trivial,λj u W q=>zw K (λk Y r=>(aI _ _ _).block k r (λe=>Y (by cases e;rfl))) ⟨rfl,rfl,rfl,by simp [World.setRow]⟩ j u q⟩;show bG _ b (if dN D 5 5=true then _ else _);rw [if_pos (by unfold dN;rw [if_pos rfl])];exact C.setRow _
   | n+6,hn=>exact absurd hn (by show ¬ n+6<6;omega)
 . rintro g w' X ⟨D,P,J⟩ p;have e:g=Act.putFrom a 13 ((Tm 6).map λi=>g.eval (.tmp (13+i))):=X.out _ (by rw [Tr,Tw]) (by omega) (λi E=>by
    rw [Tr,Tw] at E;rw [Tu,Tx,List.getElem?_range E];rfl)
   rw [e];have:=J.1;rw [if_pos (P 5 (by decide))] at this;exact L w' _ (by rw [Tr,Tw]) this J.2
end
section
open Gf
def cB (M:List (List Nat)) (lost k:Nat):List (List Nat):=((Tm k).filter (λi=>decide (lost/2^i%2=0))).map (λi=>M.getD i [])
theorem Lk (M:List (List Nat)) (lost k:Nat) (h:lost/2^k%2=0):cB M lost (k+1)=cB M lost k++[M.getD k []]:=by
 simp [cB,Tz,h]
theorem It (M:List (List Nat)) (lost k:Nat) (h:lost/2^k%2≠0):cB M lost (k+1)=cB M lost k:=by
 simp [cB,Tz,h]
theorem rO (M:List (List Nat)) (lost k:Nat) (c:k<=M.length):∀ l∈cB M lost k,l∈M:=by
 intro l a;simp [cB] at a;obtain ⟨i,⟨b,_⟩,rfl⟩:=a;rw [Tn (by omega)];exact TG _
theorem nK (M:List (List Nat)) (lost k:Nat):(cB M lost k).length<=k:=by
 unfold cB;rw [Tr];exact Nat.le_trans (List.length_filter_le _ _) (by simp)
theorem Ll (T:List (List Nat)) (v:Nat->Nat):oU T 0 v↔∃ l∈T,v=kO l:=by
 constructor
 . rintro ⟨i,a,_,rfl⟩;exact ⟨_,TG a,rfl⟩
 . rintro ⟨l,b,rfl⟩;obtain ⟨i,a,rfl⟩:=List.mem_iff_getElem.1 b;exact ⟨i,a,Nat.zero_le _,rfl⟩
theorem zI (M:List (List Nat)) (lost k:Nat) (v:Nat->Nat):oU (cB M lost k) 0 v↔∃ i,i<k/\lost/2^i%2=0/\v=kO (M.getD i []):=by
 rw [Ll];constructor
 . rintro ⟨l,c,rfl⟩;simp only [cB,Tv,Ts,Tt,decide_eq_true_eq] at c;obtain ⟨i,⟨b,a⟩,rfl⟩:=c;exact ⟨i,b,a,rfl⟩
 . rintro ⟨i,b,a,rfl⟩;refine ⟨_,?_,rfl⟩;simp only [cB,Tv,Ts,Tt,decide_eq_true_eq];exact ⟨i,⟨b,a⟩,rfl⟩
def cnt (lost n:Nat):Nat:=(Tm n).countP (λi=>decide (lost/2^i%2=1))
theorem Iu (lost n:Nat):cnt lost (n+1)=cnt lost n+(if lost/2^n%2=1 then 1 else 0):=by
 simp [cnt,Tz,TA,List.countP_cons]
theorem Iv (D i:Nat) (a:i<D):kO (dw D i)=dn i:=by
 funext j;unfold kO dw dn;by_cases e:j=i
 . subst e;simp [a]
 . rw [if_neg e];simp [Ne.symm e,List.getElem?_replicate];split<;>rfl
theorem Cl (D i j:Nat):kO (cd D i) j=if j<D then gi ((D+i)^^^j) else 0:=by
 unfold kO cd;by_cases h:j<D
 . simp [h]
 . simp [h]
theorem Iw (D L G i:Nat) (a:i<D):(aL D L G).getD i []=dw D i:=by
 simp [aL,TH,a]
theorem Cm (D L G i:Nat) (d:i<G):(aL D L G).getD (D+L+i) []=cd D i:=by
 have a:¬ D+L+i<D:=by omega
 have b:¬ D+L+i-D<L:=by omega
 have c:D+L+i-D-L=i:=by omega
 simp [aL,TH,a,b,c,d]
theorem Cn {R:(Nat->Nat)->Prop} (d:∀ r,R r->br r) {v:Nat->Nat} (c:aO R v):∀ K:List Nat,(∀ k∈K,aO R (dn k))->aO R (λj=>if j∈K then 0 else v j)
 | [],_=>by simpa using c
 | k::K,h=>by
  by_cases i:k∈K
  . have e:(λj=>if j∈k::K then 0 else v j)=λj=>if j∈K then 0 else v j:=by
     funext j;by_cases a:j=k
     . subst a;simp [i]
     . simp [a]
    rw [e];exact Cn d c K (λj f=>h j (TB _ f))
  . have g:=c.byte k;have t:=aO.add d (Cn d c K (λj f=>h j (TB _ f))) g (h k TI);have e:cA (λj=>if j∈K then 0 else v j) (v k) (dn k)=λj=>if j∈k::K then 0 else v j:=by
     funext j;show (if j∈K then 0 else v j)^^^gm (v k) (if j=k then 1 else 0)=_;by_cases a:j=k
     . subst a;rw [if_neg i,if_pos rfl,cj _ g,Nat.xor_self,if_pos TI]
     . rw [if_neg a,bk,Nat.xor_zero];by_cases b:j∈K
       . rw [if_pos b,if_pos (TB _ b)]
       . rw [if_neg b,if_neg (by simp [a,b])]
    rwa [e] at t
theorem Ix (D L G lost:Nat) (y:D<=12) (z:G<=4) (m:∀ r,oU (cB (aL D L G) lost (D+L+G)) 0 r->br r) (A:cnt lost (D+L+G)<=G) :
 rM (oU (cB (aL D L G) lost (D+L+G)) 0) 0 D:=by
 have kd:∀ j,j<D->lost/2^j%2=0->aO (oU (cB (aL D L G) lost (D+L+G)) 0) (dn j):=by
  intro j f d;have o:oU (cB (aL D L G) lost (D+L+G)) 0 (dn j):=(zI _ _ _ _).2 ⟨j,by omega,d,by rw [Iw D L G j f,Iv D j f]⟩;exact aO.mem (jY j) o
 have w:cnt lost (D+L+G)=cnt lost D+((Tm L).countP (λi=>decide (lost/2^(D+i)%2=1))+(Tm G).countP (λi=>decide (lost/2^(D+L+i)%2=1))):=by
  unfold cnt;rw [TJ,TA,TJ,TA,TK,TK,Nat.add_assoc];rfl
 have s:=List.length_eq_countP_add_countP (λi=>decide (lost/2^(D+L+i)%2=1)) (l:=Tm G);rw [Tw] at s;have u:(Tm G).countP (λi=>decide ¬ (decide (lost/2^(D+L+i)%2=1))=true)=((Tm G).filter (λi=>decide (lost/2^(D+L+i)%2=0))).length:=by
  rw [<- TL];congr 1;funext i;have:=TC (lost/2^(D+L+i));rcases this with h|h<;>simp [h]
 have v:cnt lost D=((Tm D).filter (λi=>decide (lost/2^i%2=1))).length:=by rw [cnt,TL]
 refine rM.units m λj f=>?_;rcases TC (lost/2^j) with d|d
 . exact kd j f d
 . refine Ip _ m ((Tm D).filter (λi=>decide (lost/2^i%2=1))) (((Tm G).filter (λi=>decide (lost/2^(D+L+i)%2=0))).map (λi=>D+i)) (λ_=>1)
    (TM.filter _) ?_ ?_ ?_ ?_ ?_ j (by simp [f,d])
   . exact List.Pairwise.map _ (λa b h=>by omega) (TM.filter _)
   . rw [Tr,<- v,<- u];omega
   . intro i n;simp at n;exact ⟨by omega,by decide,by decide⟩
   . intro x g;simp at g;obtain ⟨i,⟨n,_⟩,rfl⟩:=g;refine ⟨by omega,λk c=>?_⟩;simp at c;omega
   . intro x g;simp only [Tv,Ts,Tt,decide_eq_true_eq] at g;obtain ⟨i,⟨n,q⟩,rfl⟩:=g;have o:oU (cB (aL D L G) lost (D+L+G)) 0 (kO (cd D i)):=(zI _ _ _ _).2 ⟨D+L+i,by omega,q,by rw [Cm D L G i n]⟩;have t:=Cn m (aO.mem (m _ o) o) ((Tm D).filter (λi=>decide (lost/2^i%2=0))) (λk c=>by
      simp only [Ts,Tt,decide_eq_true_eq] at c;exact kd k c.1 c.2)
     have e:(λj=>if j∈(Tm D).filter (λi=>decide (lost/2^i%2=0)) then 0 else kO (cd D i) j)=jk ((Tm D).filter (λi=>decide (lost/2^i%2=1))) (λ_=>1) (D+i):=by
      funext k;unfold jk;rw [Cl];simp only [Ts,Tt,decide_eq_true_eq];by_cases c:k<D
      . rcases TC (lost/2^k) with p|p
        . rw [if_pos ⟨c,p⟩,if_neg (by omega)]
        . rw [if_neg (by omega),if_pos c,if_pos ⟨c,p⟩];have:=cY (a:=(D+i)^^^k) (jU (by omega) (by omega));rw [bH (a:=1) (by decide) this,cj _ this]
      . rw [if_neg (by omega),if_neg c,if_neg (by omega)]
     rwa [e] at t
end
section
open Go.RowKit Go.Deep Gf
theorem Lm (lost k:Nat) (a:lost<18446744073709551616):bits .and .u64 ((lost:Int)/2^k) 1=((lost/2^k%2:Nat):Int):=by
 have c:(lost:Int)/2^k=((lost/2^k:Nat):Int):=by simp
 have h:lost/2^k<18446744073709551616:=Nat.lt_of_le_of_lt (Nat.div_le_self _ _) a;have e:=u64_and_nat (lost/2^k) 1 h (by decide);rw [O2] at e;rw [c];exact e
def Rl (w0 w:Z4) (v:Z3) (K:List (List Nat)):Prop:=
 ∃ xs:List Z3,xs.length=K.length/\(∀ i (h:i<xs.length) (h':i<K.length),Bs w0 xs[i] K[i])/\w.ownsRow w0.heap.size 34 1 v xs.length xs/\Below w0.heap.size w0 w
theorem Rl.nil (w:Z4):Rl w w (Z8 Z6 0 0) []:=⟨[],rfl,λi h=>absurd h (by simp),World.ownsRow_nil _ _ _ _,Below.refl _ _⟩
theorem Rl.rd (h:Rl w0 w v K) (s:K.length<=100000):Rd w v K:=by
 obtain ⟨xs,e,f,b,j⟩:=h;rcases b.2 with ⟨d,r⟩|⟨g,cap,cur,a,l,m,n,o,p,q⟩
 . have:K=[]:=TN (by omega);subst this;exact ⟨Z6,0,d,by simp,λh=>absurd rfl h⟩
 . refine ⟨Z5 ⟨g,0,Z6⟩,cap,by rw [a,e],by omega,λ_=>⟨g,0,rfl,λi k=>?_⟩⟩;have c:i<xs.length:=(by omega);have:=b.cells (g:=g) (by rw [a];rfl) i xs[i] (by simp [c]);rw [mw] at this;exact ⟨xs[i],by rw [To];exact this,(f i c k).mono j⟩
theorem Rl.push {w1 w2:Z4} {v':Z3} {o:Obj} {xs:List Z3} (b:xs.length=K.length) (j:∀ i (h:i<xs.length) (d:i<K.length),Bs w0 xs[i] K[i])
 (g:w.ownsRow w0.heap.size 34 1 v xs.length xs) (a:Below w0.heap.size w0 w) (q:w1=w.alloc o) (p:Bs w0 u l)
 (m:w1.grownBy w2 v.ownBlock) (f:w2.ownsRow w0.heap.size 34 1 v' (xs.length+1) (xs++[u])):Rl w0 w2 v' (K++[l]):=by
 subst q;refine ⟨xs++[u],by simp [b],λi h d=>?_,by simpa using f,(a.alloc a.size o).grown m (by rw [nblk_alloc];have:=a.size;omega) λk n=>(g.lt k n).1⟩;by_cases c:i<xs.length
 . rw [TO c,TO (by omega)];exact j i c (by omega)
 . have e:i=xs.length:=(by simp at h;omega);subst e;rw [TP lR,TP (by omega)];simpa [b] using p
theorem Bs.one (h:Bs w u l):u.oneCell'=true:=by
 obtain ⟨a,c,rfl,_⟩:=h;rfl
def Rx (w:Z4) (M:List (List Nat)) (lost:Nat) (v i:Z3) (wr:Z4):Prop:=∃ k:Nat,k<=M.length/\i=Z9 .i64 k/\Rl w wr v (cB M lost k)
theorem Iy (D:Z3) (M:List (List Nat)) (lost:Nat) (w:Z4) (z:Rd w D M) (Q:lost<18446744073709551616) (hm:M.length<=64) :
 Calls Tryz.prog 43 #[D,Z9 .u64 lost] w λe w'=>∃ v,e=.returned v/\Rl w w' v (cB M lost M.length):=by
 obtain ⟨V,O,S,T,U⟩:=info_parts Tryz.infoBytes;rcases z.cases with ⟨rfl,Y,c,rfl⟩|⟨b,off,c,rfl,_,f⟩
 . go_enter Tryz.func43,Tryz.ntmps43;go_wp2;refine wp_loop_rounds 1 ?_;rw [rounds_succ];go_wp2;go_ret;exact ⟨_,rfl,Rl.nil _⟩
 . clear z;go_enter Tryz.func43,Tryz.ntmps43;go_wp2;go_loopw [5,10] (λv i wr=>Rx w M lost v i wr) (λ_ i _=>M.length-(intOf i).toNat)
   case atStart=>exact ⟨0,Nat.zero_le _,rfl,Rl.nil _⟩
   case round=>
    rename Z4=>wo;obtain ⟨k,Z,rfl,a⟩:=hrel;by_cases B:k<M.length
    . obtain ⟨u,g,m⟩:=f k B;have R:wo.cell? ⟨b,off+k,Z6⟩=Z5 u:=(by rw [a.choose_spec.2.2.2.cell (block_lt_of_cell g)];exact g);obtain ⟨H,I,rfl,_⟩:=id m;have s:=Lm lost k Q;have E:=hide (nK M lost k);have W:=hide f;have n:=hide m;have X:=hide g;have t:M.getD k []=M[k]:=(by simp [B]);have J:=hide t;clear f m g t;by_cases d:lost/2^k%2=0
      . rw [d] at s;have K:=hide (Lk M lost k d);clear d;obtain ⟨xs,h,A,j,l⟩:=a;have G:=hide A;have N:=hide h;have hx:xs.length<=64:=(by rw [h];exact Nat.le_trans E.out (by omega));have hs:=l.size;clear A h;go_wp2_with (at_builtin;refine wpList_append_own _ rfl (Z7 20) (Z7 22) 95 rfl w.heap.size 34 V (Z8 Z6 0 0) 1 24 Tryz.underlying95 O S T U rfl (by decide) _ xs.length xs rfl (aA j (bA _ _)) ⟨wo.heap.size,0,Z6⟩ 1 1 [.slice H (M[k]).length I] rfl rfl (Lh _ _ rfl _ _) (by intro q C;simp at C;rw [C];exact n.out.one) (by unfold maxLen;omega) (by omega) (by rw [nblk_alloc];omega) ?_;intro v' w2 r o P);have x:=Rl.push N.out G.out j l rfl n.out o r;rw [<- J.out,<- K.out] at x;clear j r o P l R;go_wp2;go_roundw
        case rel=>exact ⟨k+1,by omega,by go_num,x⟩
        case measure=>simp [intOf];omega
      . have p:lost/2^k%2=1:=(by omega);rw [p] at s;have L:=hide (It M lost k d);clear d p;have F:=hide a;clear a;go_wp2;go_roundw
        case rel=>exact ⟨k+1,by omega,by go_num,by rw [L.out];exact F.out⟩
        case measure=>simp [intOf];omega
    . have y:k=M.length:=(by omega);rw [y] at a;clear f y;go_wp2;go_ret;exact ⟨_,rfl,a⟩
end
section
open Go.RowKit Go.Deep Gf
def ur (D:List (List Nat)):Prop:=D.length<=64/\∀ i (hi:i<D.length),(D[i]).length<=64
def Nq (D:List (List Nat)) (w:Z4) (e:Ending) (w':Z4):Prop:=(ur D->∃ k:Nat,k<=64/\e=.returned (Z9 .i64 k)/\rL D k)/\(¬ ur D->e=.returned (Z9 .i64 (-1)))/\Below w.heap.size w w'
end
section
open Go.RowKit Go.Deep
def pN:List (Int×Nat×Nat×List Nat)->List Z3
 | []=>[]
 | q::O=>[Z9 .i64 q.1,lg q.2]++pN O
theorem qI:∀ O a,pN (O++a)=pN O++pN a
 | [],_=>rfl
 | q::O,a=>by simp [pN,qI O a]
theorem EF:∀ (O:List (Int×Nat×Nat×List Nat)) (i:Nat) (a:i<O.length),(pN O)[i*2]?=Z5 (Z9 .i64 O[i].1)/\(pN O)[i*2+1]?=Z5 (lg O[i].2)
 | q::O,0,_=>by simp [pN]
 | q::O,i+1,a=>by
  have:=EF O i (by simpa using a);have b:(i+1)*2=i*2+2:=by omega
  have c:(i+1)*2+1=i*2+1+2:=by omega
  simp only [pN,List.getElem_cons_succ];refine ⟨?_,?_⟩
  . rw [b];simpa using this.1
  . rw [c];simpa using this.2
structure mB (t:TypeId) (w:Z4) (base:Nat) (v:Z3) (O:List (Int×Nat×Nat×List Nat)):Prop where
 own:w.ownsRow base t 2 v O.length (pN O)
 row:∀ q∈O,base<=q.2.1/\aM w q.2.1 q.2.2.2/\q.2.2.1<=q.2.2.2.length/\(q.2.2.1<=140737488355328/\q.2.2.2.length<=9223372036854775807)/\∀ x∈q.2.2.2,x<256
 nodup:(O.map (λq=>q.2.1)).Nodup
theorem mB.nil (t:TypeId) (w:Z4) (base:Nat):mB t w base (Z8 Z6 0 0) []:=⟨World.ownsRow_nil _ _ _ _,λq a=>by simp at a,by simp⟩
theorem mB.below (h:mB t w base v O) (d:Below w.heap.size w w'):mB t w' base v O:=
 ⟨aA h.own d,λq e=>by obtain ⟨a,b,c⟩:=h.row q e;exact ⟨a,b.below d,c⟩,h.nodup⟩
theorem mB.cases (h:mB t w base v O):(O=[]/\v=Z8 Z6 0 0)\/∃ g cap,v=Z8 (Z5 ⟨g,0,Z6⟩) O.length cap/\∀ i (b:i<O.length),w.cell? ⟨g,i*2,Z6⟩=Z5 (Z9 .i64 O[i].1)/\w.cell? ⟨g,i*2+1,Z6⟩=Z5 (lg O[i].2):=by
 rcases h.own.2 with ⟨c,d⟩|⟨g,cap,cur,a,_⟩
 . exact .inl ⟨TN d,c⟩
 . refine .inr ⟨g,cap,a,λi b=>?_⟩;have ho:=h.own;rw [a] at ho;obtain ⟨e,f⟩:=EF O i b;exact ⟨by rw [ho.cellAt (i*2) (by omega)];exact e,by rw [ho.cellAt (i*2+1) (by omega)];exact f⟩
end
end Go.Proofs.YtfbmmcnpjhmjaaaGreatDoor
