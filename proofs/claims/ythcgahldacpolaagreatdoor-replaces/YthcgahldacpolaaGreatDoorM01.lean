import Derived.Test.YthcgahldacpolaaGreatDoorRows
import Derived.WalkKit
import Derived.ProofKit
import Derived.OpenShut
import Derived.WalkSpells
import Derived.Deep.OwnRows
import Derived.Deep.Slices
import Derived.Deep.Matrix
import Derived.Deep.MidRow
import Derived.Deep.AppendSrc
set_option maxRecDepth 100000
set_option maxHeartbeats 8000000
namespace Go.Proofs.YthcgahldacpolaaGreatDoor
variable {a:Act} {ops:Array Oper} {Q:Exit→Act→World→Prop} {L:List (Nat×Nat×List Nat)} {l l':List Nat} {rest:List Oper} {xs:List Value} {n b base size base' r:Nat} {S T:Nat→Prop} {o:Oper} {P:Program} {e:TypeId} {v:Value} {w w' w'':World}
section
open Go.RowKit Go.Deep
theorem wrap64_nat (h:n≤1000000000000):wrap64 (n:Int)=(n:Int):=by unfold wrap64;omega
def vb (l:List Nat) (i:Nat):Value:=.int .u8 ((l.getD i 0:Nat):Int)
def Brow (w:World) (b:Nat) (l:List Nat):Prop:=w.rowIs b 5 l.length (vb l)
def hdr (p:Nat×Nat×List Nat):Value:=.slice (some ⟨p.1,0,none⟩) p.2.1 p.2.2.length
structure Tab (w:World) (base:Nat) (v:Value) (L:List (Nat×Nat×List Nat)):Prop where
 own:w.ownsRow base 33 1 v L.length (L.map hdr)
 row:∀ p∈L,base≤p.1∧Brow w p.1 p.2.2∧p.2.1≤p.2.2.length∧(p.2.1≤140737488355328∧p.2.2.length≤9223372036854775807)∧∀ x∈p.2.2,x < 256
 nodup:(L.map (fun p=>p.1)).Nodup
theorem getD_lt (h:∀ x∈l,x < 256) (i:Nat):l.getD i 0 < 256:=by
 by_cases hi:i < l.length
 · have e:l.getD i 0=l[i]:=by simp [hi]
   rw [e];exact h _ (List.getElem_mem hi)
 · have e:l.getD i 0=0:=by simp [List.getElem?_eq_none (show l.length≤i by omega)]
   rw [e];decide
theorem Brow.below (h:Brow w b l) (hb:Below w.heap.size w w'):Brow w' b l:=
 World.rowIs.of_block h (hb.block b h.lt)
theorem Brow.cell (h:Brow w b l) (i:Nat) (hi:i < l.length):w.cell? ⟨b,i,none⟩=some (.int .u8 ((l.getD i 0:Nat):Int)):=
 World.rowIs.cell h hi
theorem Brow.frozen (h:Brow w b l) (i:Nat):w.frozen? ⟨b,i,none⟩=false:=World.rowIs.frozen h i
theorem Brow.set (h:Brow w b l) (i x:Nat):Brow (w.setCell ⟨b,i,none⟩ (.int .u8 (x:Int))) b (l.set i x):=by
 have h1:=World.rowIs.set h i (.int .u8 (x:Int))
 unfold Brow
 rw [List.length_set]
 refine h1.congr fun j hj=>?_
 unfold vb
 by_cases e:j=i
 · subst e
   simp [hj]
 · simp only [if_neg e]
   rw [List.getD_eq_getElem?_getD,List.getD_eq_getElem?_getD,List.getElem?_set_ne (fun h=>e h.symm)]
theorem Brow.other (h:Brow w b l) {a:Addr} (ha:b≠a.block) (v:Value):Brow (w.setCell a v) b l:=World.rowIs.setOther h ha v
theorem Brow.alloc (h:Brow w b l) (o:Obj):Brow (w.alloc o) b l:=World.rowIs.alloc h o
theorem Brow.lt (h:Brow w b l):b < w.heap.size:=World.rowIs.lt h
theorem Brow.grown {row:Option Nat} (h:Brow w b l) (hg:w.grownBy w' row) (h0:some b≠row):Brow w' b l:=
 World.rowIs.of_block h (hg.block b h.lt h0)
theorem Brow.made (w:World) (n:Nat):Brow (w.alloc (.cells (madeCells #[.int .u8 0] n) 5)) w.heap.size (List.replicate n 0):=by
 have h:=World.rowIs_made w (.int .u8 0) n 5
 unfold Brow
 rw [List.length_replicate]
 refine h.congr fun i hi=>?_
 simp [vb,hi]
theorem ownsRow_below (h:w.ownsRow base e size v n xs) (hb:Below w.heap.size w w'):w'.ownsRow base e size v n xs:=by
 refine ⟨h.1,?_⟩
 rcases h.2 with h0 | ⟨g,cap,cur,e1,e2,e3,e4⟩
 · exact .inl h0
 · refine .inr ⟨g,cap,cur,e1,e2,?_,e4⟩
   obtain ⟨h1,_⟩:=Array.getElem?_eq_some_iff.1 e3
   rw [hb.block g h1];exact e3
theorem ownsRow_weaken (h:w.ownsRow base e size v n xs) (hb:base'≤base):w.ownsRow base' e size v n xs:=by
 refine ⟨h.1,?_⟩
 rcases h.2 with h0 | ⟨g,cap,cur,e1,e2,e3⟩
 · exact .inl h0
 · exact .inr ⟨g,cap,cur,e1,by omega,e3⟩
theorem own_ne (h:w.ownsRow base 33 1 v n xs) {b:Nat} {l:List Nat} (hb:Brow w b l):v.ownBlock≠some b:=by
 intro e
 rcases h.2 with ⟨h0,_⟩ | ⟨g,cap,cur,e1,e2,e3,e4⟩
 · rw [h0] at e;simp [Value.ownBlock] at e
 · rw [e1] at e
   simp [Value.ownBlock] at e
   subst e
   obtain ⟨c,hc,_⟩:=hb
   rw [hc] at e3
   simp at e3
theorem Tab.weaken (h:Tab w base v L) (hb:base'≤base):Tab w base' v L:=
 ⟨ownsRow_weaken h.own hb,fun p hp=>by obtain ⟨a,b⟩:=h.row p hp;exact ⟨by omega,b⟩,h.nodup⟩
theorem Tab.nil (w:World) (base:Nat):Tab w base (.slice none 0 0) []:=
 ⟨World.ownsRow_nil _ _ _ _,fun p hp=>by simp at hp,by simp⟩
theorem Tab.below (h:Tab w base v L) (hb:Below w.heap.size w w'):Tab w' base v L:=
 ⟨ownsRow_below h.own hb,fun p hp=>by obtain ⟨a,b,c⟩:=h.row p hp;exact ⟨a,b.below hb,c⟩,h.nodup⟩
theorem Tab.alloc (h:Tab w base v L) (o:Obj):Tab (w.alloc o) base v L:=
 h.below ((Below.refl _ _).alloc (Nat.le_refl _) _)
theorem Tab.push {v':Value} {p:Nat×Nat×List Nat} (h:Tab w base v L) (hg:w.grownBy w' v.ownBlock) (h0:w'.ownsRow base 33 1 v' (L.length+1) (L.map hdr ++ [hdr p]))
 (hp:base≤p.1∧Brow w p.1 p.2.2∧p.2.1≤p.2.2.length∧(p.2.1≤140737488355328∧p.2.2.length≤9223372036854775807)∧∀ x∈p.2.2,x < 256) (h1:∀ q∈L,q.1≠p.1):Tab w' base v' (L ++ [p]):=by
 refine ⟨by simpa using h0,fun q hq=>?_,?_⟩
 · rcases List.mem_append.1 hq with hq | hq
   · obtain ⟨a,b,c⟩:=h.row q hq
     exact ⟨a,b.grown hg (fun e=>own_ne h.own b e.symm),c⟩
   · simp at hq;subst hq
     exact ⟨hp.1,hp.2.1.grown hg (fun e=>own_ne h.own hp.2.1 e.symm),hp.2.2⟩
 · rw [List.map_append,List.nodup_append]
   refine ⟨h.nodup,by simp,?_⟩
   intro a ha b hb
   obtain ⟨q,hq,rfl⟩:=List.mem_map.1 ha
   simp at hb
   subst hb
   exact h1 q hq
theorem add0 (g i:Nat):(⟨g,0,none⟩:Addr).add i=⟨g,i,none⟩:=by
 unfold Addr.add
 split
 · rename_i h;simp_all
 · simp
theorem Tab.shape (h:Tab w base v L):(v=.slice none 0 0∧L=[])∨∃ g cap,v=.slice (some ⟨g,0,none⟩) L.length cap∧base≤g∧L.length≤cap∧cap≤maxLen∧g < w.heap.size∧(∀ i (hi:i < L.length),w.cell? ⟨g,i,none⟩=some (hdr L[i]))∧(∀ i,w.frozen? ⟨g,i,none⟩=false)∧∀ p∈L,p.1≠g:=by
 rcases h.own.2 with ⟨h0,h1⟩ | ⟨g,cap,cur,e1,e2,e3,e4,e5,e6,e7⟩
 · exact .inl ⟨h0,List.eq_nil_of_length_eq_zero h1⟩
 · obtain ⟨h2,_⟩:=Array.getElem?_eq_some_iff.1 e3
   refine .inr ⟨g,cap,e1,e2,e4,e5,h2,fun i hi=>?_,fun i=>?_,fun p hp e=>?_⟩
   · have:=h.own.cells (g:=g) (by rw [e1];rfl) i (hdr L[i]) (by simp [hi])
     rw [add0] at this
     exact this
   · simp [World.frozen?,e3]
   · have:=own_ne h.own (h.row p hp).2.1
     rw [e1] at this
     exact this (by rw [e];rfl)
theorem Tryz.infoByte:(Tryz.prog.info? 5).map (fun i=>(i.zero,i.size,i.bytes))=some (some (.int .u8 0),1,1):=by kernel_rfl
theorem Tryz.infoBytes:(Tryz.prog.info? 33).map (fun i=>(i.zero,i.size,i.bytes))=some (some (.slice none 0 0),1,24):=by kernel_rfl
theorem wpList_mk (w:World) {ops:Array Oper} {rest:List Oper} {o:Oper} {a:Act} {Q:Exit→Act→World→Prop}
 (hg:o.guard=none) (l c:Operand) (h1:o.op=Op.makeSlice 33 l c) (C:Int) (n:Nat) (hl:a.eval l=.int .i64 C) (hc:a.eval c=.int .i64 C) (hC:C=(n:Int)) (hn:n≤140737488355328)
 (hK:∀ w',Brow w' w.heap.size (List.replicate n 0)→Below w.heap.size w w'→w'.heap.size=w.heap.size+1→wpList Tryz.prog ops Q rest (a.put o.dst (.slice (some ⟨w.heap.size,0,none⟩) n n)) w') :
 wpList Tryz.prog ops Q (o :: rest) a w:=by
 refine wpList_plain hg fun K h2=>?_
 have h0:=run_make_row' (P:=Tryz.prog) 33 5 (.int .u8 0) 1 Tryz.underlying33 Tryz.infoByte rfl .i64 .i64 n (by omega) (by omega) w
 subst hC
 unfold Oper.wp
 simp [execOp,h1,hl,hc,h0,Result.andThen]
 exact h2 _ _ (hK _ (Brow.made w n) ((Below.refl _ _).alloc (Nat.le_refl _) _) (nblk_alloc _ _))
end
section
open Go.RowKit Go.Deep
structure Outside (S:Nat→Prop) (w w':World):Prop where
 os:w'.os=w.os
 tape:w'.tape=w.tape
 output:w'.output=w.output
 size:w.heap.size≤w'.heap.size
 block:∀ k,k < w.heap.size→¬ S k→w'.heap[k]?=w.heap[k]?
theorem Outside.refl (S:Nat→Prop) (w:World):Outside S w w:=⟨rfl,rfl,rfl,Nat.le_refl _,fun _ _ _=>rfl⟩
theorem Outside.mono (h:Outside S w w') (hs:∀ k,k < w.heap.size→S k→T k):Outside T w w':=
 ⟨h.os,h.tape,h.output,h.size,fun k hk ht=>h.block k hk (fun s=>ht (hs k hk s))⟩
theorem Outside.trans (h:Outside S w w') (h':Outside S w' w''):Outside S w w'':=
 ⟨h'.os.trans h.os,h'.tape.trans h.tape,h'.output.trans h.output,Nat.le_trans h.size h'.size,fun k hk hs=>(h'.block k (Nat.lt_of_lt_of_le hk h.size) hs).trans (h.block k hk hs)⟩
theorem Outside.later (h:Outside S w w') (h':Outside T w' w'') (hT:∀ k,k < w.heap.size→T k→S k):Outside S w w'':=
 ⟨h'.os.trans h.os,h'.tape.trans h.tape,h'.output.trans h.output,Nat.le_trans h.size h'.size,fun k hk hs=>(h'.block k (Nat.lt_of_lt_of_le hk h.size) (fun t=>hs (hT k hk t))).trans (h.block k hk hs)⟩
theorem Outside.of_below {B:Nat} (h:Below B w w') (S:Nat→Prop) (hB:∀ k,k < w.heap.size→¬ S k→k < B):Outside S w w':=
 ⟨h.os,h.tape,h.output,h.size,fun k hk hs=>h.block k (hB k hk hs)⟩
theorem Outside.of_all (h:Below w.heap.size w w') (S:Nat→Prop):Outside S w w':=.of_below h S fun _ hk _=>hk
theorem Outside.below (h:Outside S w w') {B:Nat} (hB:∀ k,k < B→k < w.heap.size∧¬ S k):Below B w w':=
 ⟨h.os,h.tape,h.output,h.size,fun k hk=>h.block k (hB k hk).1 (hB k hk).2⟩
theorem Outside.setCell (w:World) (a:Addr) (v:Value) (h:S a.block):Outside S w (w.setCell a v):=
 ⟨rfl,rfl,rfl,by simp [World.setCell],fun k _ hs=>blk_setCell_other _ _ _ _ (fun e=>hs (e ▸ h))⟩
theorem Outside.alloc (w:World) (o:Obj):Outside S w (w.alloc o):=.of_all ((Below.refl _ _).alloc (Nat.le_refl _) _) S
theorem Outside.drew (w:World):Outside S w w.drew:=⟨rfl,rfl,rfl,Nat.le_refl _,fun _ _ _=>rfl⟩
theorem heap_setCells_other (b:Nat):∀ (vs:List Value) (o:Nat) (w:World) (k:Nat),k≠b→(w.setCells b o vs).heap[k]?=w.heap[k]?
 | [],_,_,_,_=>rfl
 | v :: r,o,w,k,h=>by
  show ((w.setCell ⟨b,o,none⟩ v).setCells b (o+1) r).heap[k]?=_
  rw [heap_setCells_other b r _ _ k h]
  exact blk_setCell_other _ _ _ _ (by exact h)
theorem size_setCells (b:Nat):∀ (vs:List Value) (o:Nat) (w:World),(w.setCells b o vs).heap.size=w.heap.size
 | [],_,_=>rfl
 | v :: r,o,w=>by
  show ((w.setCell ⟨b,o,none⟩ v).setCells b (o+1) r).heap.size=_
  rw [size_setCells b r];simp [World.setCell]
theorem rest_setCells (b:Nat):∀ (vs:List Value) (o:Nat) (w:World),(w.setCells b o vs).os=w.os∧(w.setCells b o vs).tape=w.tape∧(w.setCells b o vs).output=w.output
 | [],_,_=>⟨rfl,rfl,rfl⟩
 | v :: r,o,w=>rest_setCells b r (o+1) (w.setCell ⟨b,o,none⟩ v)
theorem Outside.setCells (w:World) (b o:Nat) (vs:List Value) (h:S b):Outside S w (w.setCells b o vs):=by
 obtain ⟨h1,h2,h3⟩:=rest_setCells b vs o w
 exact ⟨h1,h2,h3,by rw [size_setCells];exact Nat.le_refl _,fun k _ hs=>heap_setCells_other b vs o w k (fun e=>hs (e ▸ h))⟩
theorem rowIs_setCells {t:Nat}:∀ (vs:List Value) (o:Nat) (w:World) (f:Nat→Value),w.rowIs b t n f →
 (w.setCells b o vs).rowIs b t n (fun k=>if o≤k∧k < o+vs.length then vs.getD (k - o) undef else f k)
 | [],o,w,f,h=>h.congr fun i hi=>by
  show f i=if o≤i∧i < o+0 then _ else f i
  rw [if_neg (by omega)]
 | v :: r,o,w,f,h=>by
  have h1:=rowIs_setCells r (o+1) _ _ (h.set o v)
  refine World.rowIs.congr h1 fun k hk=>?_
  simp only [List.length_cons]
  by_cases e:k=o
  · subst e
    rw [if_neg (by omega),if_pos rfl,if_pos (by omega),Nat.sub_self];rfl
  · by_cases e2:o+1≤k∧k < o+1+r.length
    · rw [if_pos e2,if_pos (by omega),show k - o=(k - (o+1))+1 by omega];rfl
    · rw [if_neg e2,if_neg e,if_neg (by omega)]
structure Arr where
 n:Nat
 nb:Nat
 wait:Int
 lost:Nat→Bool
 bad:Nat→Nat→Bool
 blk:Nat→Nat→List Nat
 reads:Nat→Int
structure Foot where
 g:Nat
 cap:Nat
 bb:Nat→Nat
 bd:Nat→Nat
def Foot.has (F:Foot) (p n k:Nat):Prop:=k=p∨k=F.g∨∃ i,i < n∧(k=F.bb i∨k=F.bd i)
def drvV (A:Arr) (F:Foot) (k:Nat):Value:=
 if k % 4=0 then .bool (A.lost (k / 4)) else if k % 4=1 then .slice (some ⟨F.bb (k / 4),0,none⟩) A.nb A.nb else if k % 4=2 then .slice (some ⟨F.bd (k / 4),0,none⟩) A.nb A.nb else .int .i64 (A.reads (k / 4))
def byV (A:Arr) (i k:Nat):Value:=.int .u8 (((A.blk i (k / 64)).getD (k % 64) 0:Nat):Int)
structure ArrAt (X:World) (p:Nat) (A:Arr) (F:Foot):Prop where
 top:X.heap[p]?=some (.cells #[.slice (some ⟨F.g,0,none⟩) A.n F.cap,.int .i64 A.wait] 64 (0,0))
 drv:∃ cs,X.heap[F.g]?=some (.cells cs 68 (0,0))∧∀ k,k < 4*A.n→cs[k]?=some (drvV A F k)
 blk:∀ i,i < A.n→X.rowIs (F.bb i) 197 (64*A.nb) (byV A i)
 bad:∀ i,i < A.n→X.rowIs (F.bd i) 4 A.nb (fun j=>.bool (A.bad i j))
 inj:∀ i j,i < A.n→j < A.n→(F.bb i=F.bb j→i=j)∧(F.bd i=F.bd j→i=j)
structure Arr.fit (A:Arr):Prop where
 n:A.n≤1000
 nb:A.nb≤1000000
 len:∀ i j,(A.blk i j).length=64
 byt:∀ i j,∀ x∈A.blk i j,x < 256
variable {X Y:World} {p:Nat} {A:Arr} {F:Foot}
theorem ArrAt.p_lt (h:ArrAt X p A F):p < X.heap.size:=(Array.getElem?_eq_some_iff.1 h.top).1
theorem ArrAt.g_lt (h:ArrAt X p A F):F.g < X.heap.size:=by obtain ⟨cs,h1,_⟩:=h.drv;exact (Array.getElem?_eq_some_iff.1 h1).1
theorem ArrAt.has_lt (h:ArrAt X p A F) {k:Nat} (hk:F.has p A.n k):k < X.heap.size:=by
 rcases hk with rfl | rfl | ⟨i,hi,rfl | rfl⟩
 · exact h.p_lt
 · exact h.g_lt
 · exact (h.blk i hi).lt
 · exact (h.bad i hi).lt
theorem ArrAt.keep (h:ArrAt X p A F) (hk:∀ k,F.has p A.n k→Y.heap[k]?=X.heap[k]?):ArrAt Y p A F:=by
 obtain ⟨cs,h1,h2⟩:=h.drv
 exact ⟨(hk _ (.inl rfl)).trans h.top,⟨cs,(hk _ (.inr (.inl rfl))).trans h1,h2⟩,fun i hi=>(h.blk i hi).of_block (hk _ (.inr (.inr ⟨i,hi,.inl rfl⟩))),fun i hi=>(h.bad i hi).of_block (hk _ (.inr (.inr ⟨i,hi,.inr rfl⟩))),h.inj⟩
theorem ArrAt.below (h:ArrAt X p A F) {B:Nat} (hb:Below B X Y) (hB:X.heap.size≤B):ArrAt Y p A F:=h.keep fun k hk=>hb.block k (Nat.lt_of_lt_of_le (h.has_lt hk) hB)
theorem ArrAt.outside (h:ArrAt X p A F) (hb:Outside S X Y) (hS:∀ k,F.has p A.n k→¬ S k):ArrAt Y p A F:=h.keep fun k hk=>hb.block k (h.has_lt hk) (hS k hk)
theorem ArrAt.alloc (h:ArrAt X p A F) (o:Obj):ArrAt (X.alloc o) p A F:=h.below ((Below.refl _ _).alloc (Nat.le_refl _) _) (Nat.le_refl _)
theorem ArrAt.apart (h:ArrAt X p A F):p≠F.g∧(∀ i,i < A.n→F.bb i≠p∧F.bb i≠F.g∧F.bd i≠p∧F.bd i≠F.g)∧∀ i j,i < A.n→j < A.n→F.bb i≠F.bd j:=by
 obtain ⟨cs,h1,_⟩:=h.drv
 have ht:=h.top
 refine ⟨fun e=>?_,fun i hi=>?_,fun i j hi hj e=>?_⟩
 · rw [e,h1] at ht;simp at ht
 · obtain ⟨c,hc,_⟩:=h.blk i hi
   obtain ⟨d,hd,_⟩:=h.bad i hi
   refine ⟨fun e=>?_,fun e=>?_,fun e=>?_,fun e=>?_⟩
   · rw [e,ht] at hc;simp at hc
   · rw [e,h1] at hc;simp at hc
   · rw [e,ht] at hd;simp at hd
   · rw [e,h1] at hd;simp at hd
 · obtain ⟨c,hc,_⟩:=h.blk i hi
   obtain ⟨d,hd,_⟩:=h.bad j hj
   rw [e,hd] at hc;simp at hc
theorem ArrAt.drvs (h:ArrAt X p A F) (i:Nat) (hi:i < A.n):X.cell? ⟨F.g,i*4,none⟩=some (.bool (A.lost i))∧X.cell? ⟨F.g,i*4+1,none⟩=some (.slice (some ⟨F.bb i,0,none⟩) A.nb A.nb) ∧
 X.cell? ⟨F.g,i*4+2,none⟩=some (.slice (some ⟨F.bd i,0,none⟩) A.nb A.nb)∧X.cell? ⟨F.g,i*4+3,none⟩=some (.int .i64 (A.reads i)):=by
 obtain ⟨cs,h1,h2⟩:=h.drv
 have hc:∀ k,k < 4*A.n→X.cell? ⟨F.g,k,none⟩=some (drvV A F k):=fun k hk=>by simp [World.cell?,h1,h2 k hk]
 refine ⟨?_,?_,?_,?_⟩
 · rw [hc _ (by omega)];unfold drvV;rw [if_pos (by omega),show i*4 / 4=i by omega]
 · rw [hc _ (by omega)];unfold drvV;rw [if_neg (by omega),if_pos (by omega),show (i*4+1) / 4=i by omega]
 · rw [hc _ (by omega)];unfold drvV;rw [if_neg (by omega),if_neg (by omega),if_pos (by omega),show (i*4+2) / 4=i by omega]
 · rw [hc _ (by omega)];unfold drvV;rw [if_neg (by omega),if_neg (by omega),if_neg (by omega),show (i*4+3) / 4=i by omega]
theorem ArrAt.unfrozen (h:ArrAt X p A F) (k:Nat):X.frozen? ⟨F.g,k,none⟩=false:=by obtain ⟨cs,h1,_⟩:=h.drv;simp [World.frozen?,h1]
theorem ArrAt.p_cells (h:ArrAt X p A F):X.cell? ⟨p,0,none⟩=some (.slice (some ⟨F.g,0,none⟩) A.n F.cap)∧X.cell? ⟨p,1,none⟩=some (.int .i64 A.wait)∧X.frozen? ⟨p,0,none⟩=false∧X.frozen? ⟨p,1,none⟩=false:=by simp [World.cell?,World.frozen?,h.top]
theorem ArrAt.badC (h:ArrAt X p A F) (i j:Nat) (hi:i < A.n) (hj:j < A.nb):X.cell? ⟨F.bd i,j,none⟩=some (.bool (A.bad i j)):=(h.bad i hi).cell hj
def bts (l:List Nat):List Value:=l.map fun (x:Nat)=>Value.int .u8 (x:Int)
theorem ArrAt.range (h:ArrAt X p A F) (hf:A.fit) (i j:Nat) (hi:i < A.n) (hj:j < A.nb):X.rangeAt (F.bb i) (j*64) (bts (A.blk i j)):=by
 intro k v hv
 unfold bts at hv
 rw [List.getElem?_map,Option.map_eq_some_iff] at hv
 obtain ⟨x,hx,rfl⟩:=hv
 obtain ⟨hk,e⟩:=List.getElem?_eq_some_iff.1 hx
 rw [hf.len] at hk
 rw [(h.blk i hi).cell (i:=j*64+k) (by omega)]
 unfold byV
 rw [show (j*64+k) / 64=j by omega,show (j*64+k) % 64=k by omega,List.getD_eq_getElem?_getD,hx];rfl
theorem ArrAt.there (h:ArrAt X p A F) (i j:Nat) (hi:i < A.n) (hj:j < A.nb):X.there (F.bb i) (j*64) 64:=fun k hk=>by
 rw [(h.blk i hi).cell (i:=j*64+k) (by omega)]
 exact ⟨rfl,(h.blk i hi).frozen _⟩
def Arr.setReads (A:Arr) (i:Nat) (r:Int):Arr:={ A with reads:=fun k=>if k=i then r else A.reads k }
def Arr.setLost (A:Arr) (i:Nat) (t:Bool):Arr:={ A with lost:=fun k=>if k=i then t else A.lost k }
def Arr.setBad (A:Arr) (i j:Nat) (t:Bool):Arr:={ A with bad:=fun k m=>if k=i∧m=j then t else A.bad k m }
def Arr.setBlk (A:Arr) (i j:Nat) (l:List Nat):Arr:={ A with blk:=fun k m=>if k=i∧m=j then l else A.blk k m }
theorem ArrAt.setDrv (h:ArrAt X p A F) (k:Nat) (v:Value) (A':Arr) (e1:A'.n=A.n) (e2:A'.nb=A.nb) (e3:A'.wait=A.wait) (e4:A'.bad=A.bad) (e5:A'.blk=A.blk) (hv:∀ j,j < 4*A.n→drvV A' F j=if j=k then v else drvV A F j) :
 ArrAt (X.setCell ⟨F.g,k,none⟩ v) p A' F:=by
 obtain ⟨a1,a2,a3⟩:=h.apart
 have hk:∀ j,j≠F.g→(X.setCell ⟨F.g,k,none⟩ v).heap[j]?=X.heap[j]?:=fun j hj=>blk_setCell_other _ _ _ _ hj
 obtain ⟨cs,h1,h2⟩:=h.drv
 refine ⟨?_,⟨cs.setIfInBounds k v,by simp [World.setCell,Array.getElem?_modify,h1],fun j hj=>?_⟩,fun i hi=>?_,fun i hi=>?_,fun i j hi hj=>h.inj i j (by omega) (by omega)⟩
 · rw [e1,e3];exact (hk _ a1).trans h.top
 · rw [e1] at hj
   rw [hv j hj,Array.getElem?_setIfInBounds]
   by_cases e:k=j
   · subst e
     rw [if_pos rfl,if_pos rfl]
     have:=h2 k hj
     obtain ⟨q,_⟩:=Array.getElem?_eq_some_iff.1 this
     simp [q]
   · rw [if_neg e,if_neg (fun q=>e q.symm)];exact h2 j hj
 · rw [e1] at hi
   have:=(h.blk i hi).of_block (hk _ (a2 i hi).2.1)
   rw [e2]
   exact this.congr fun j hj=>by unfold byV;rw [e5]
 · rw [e1] at hi
   rw [e2,e4];exact (h.bad i hi).of_block (hk _ (a2 i hi).2.2.2)
theorem ArrAt.setReads (h:ArrAt X p A F) (i:Nat) (r:Int):ArrAt (X.setCell ⟨F.g,i*4+3,none⟩ (.int .i64 r)) p (A.setReads i r) F:=
 h.setDrv (i*4+3) (.int .i64 r) (A.setReads i r) rfl rfl rfl rfl rfl fun j hj=>by
  by_cases e:j=i*4+3
  · subst e
    rw [if_pos rfl];unfold drvV
    rw [if_neg (by omega),if_neg (by omega),if_neg (by omega)]
    show Value.int .i64 (if (i*4+3) / 4=i then r else _)=_
    rw [if_pos (by omega)]
  · rw [if_neg e];unfold drvV
    show (if j % 4=0 then Value.bool (A.lost (j / 4)) else if j % 4=1 then _ else if j % 4=2 then _ else Value.int .i64 (if j / 4=i then r else A.reads (j / 4)))=_
    by_cases q:j % 4=3
    · rw [if_neg (show ¬ j / 4=i by omega)];rfl
    · by_cases q0:j % 4=0
      · rw [if_pos q0,if_pos q0]
      · by_cases q1:j % 4=1
        · rw [if_neg q0,if_neg q0,if_pos q1,if_pos q1];rfl
        · rw [if_neg q0,if_neg q0,if_neg q1,if_neg q1,if_pos (by omega),if_pos (by omega)];rfl
theorem ArrAt.setLost (h:ArrAt X p A F) (i:Nat) (t:Bool):ArrAt (X.setCell ⟨F.g,i*4,none⟩ (.bool t)) p (A.setLost i t) F:=
 h.setDrv (i*4) (.bool t) (A.setLost i t) rfl rfl rfl rfl rfl fun j hj=>by
  by_cases e:j=i*4
  · subst e
    rw [if_pos rfl];unfold drvV
    rw [if_pos (by omega)]
    show Value.bool (if (i*4) / 4=i then t else _)=_
    rw [if_pos (by omega)]
  · rw [if_neg e];unfold drvV
    show (if j % 4=0 then Value.bool (if j / 4=i then t else A.lost (j / 4)) else _)=_
    by_cases q:j % 4=0
    · rw [if_pos q,if_pos q,if_neg (show ¬ j / 4=i by omega)]
    · rw [if_neg q,if_neg q];rfl
theorem ArrAt.setBad (h:ArrAt X p A F) (i j:Nat) (hi:i < A.n) (t:Bool):ArrAt (X.setCell ⟨F.bd i,j,none⟩ (.bool t)) p (A.setBad i j t) F:=by
 obtain ⟨a1,a2,a3⟩:=h.apart
 have hk:∀ k,k≠F.bd i→(X.setCell ⟨F.bd i,j,none⟩ (.bool t)).heap[k]?=X.heap[k]?:=fun k hk=>blk_setCell_other _ _ _ _ hk
 obtain ⟨cs,h1,h2⟩:=h.drv
 refine ⟨(hk _ (fun e=>(a2 i hi).2.2.1 e.symm)).trans h.top,⟨cs,(hk _ (fun e=>(a2 i hi).2.2.2 e.symm)).trans h1,h2⟩,fun k h0=>(h.blk k h0).of_block (hk _ (a3 k i h0 hi)),fun k h0=>?_,h.inj⟩
 by_cases e:k=i
 · subst e
   refine ((h.bad k h0).set j (.bool t)).congr fun m hm=>?_
   show _=Value.bool (if k=k∧m=j then t else A.bad k m)
   by_cases e2:m=j
   · rw [if_pos e2,if_pos ⟨rfl,e2⟩]
   · rw [if_neg e2,if_neg (fun q=>e2 q.2)]
 · refine ((h.bad k h0).of_block (hk _ (fun q=>e ((h.inj k i h0 hi).2 q)))).congr fun m hm=>?_
   show _=Value.bool (if k=i∧m=j then t else A.bad k m)
   rw [if_neg (fun q=>e q.1)]
theorem ArrAt.setBlk (h:ArrAt X p A F) (i j:Nat) (hi:i < A.n) (l:List Nat) (hl:l.length=64):ArrAt (X.setCells (F.bb i) (j*64) (bts l)) p (A.setBlk i j l) F:=by
 obtain ⟨a1,a2,a3⟩:=h.apart
 have hk:∀ k,k≠F.bb i→(X.setCells (F.bb i) (j*64) (bts l)).heap[k]?=X.heap[k]?:=fun k hk=>heap_setCells_other _ _ _ _ _ hk
 obtain ⟨cs,h1,h2⟩:=h.drv
 refine ⟨(hk _ (fun e=>(a2 i hi).1 e.symm)).trans h.top,⟨cs,(hk _ (fun e=>(a2 i hi).2.1 e.symm)).trans h1,h2⟩,fun k h0=>?_,fun k h0=>(h.bad k h0).of_block (hk _ (fun e=>a3 i k hi h0 e.symm)),h.inj⟩
 by_cases e:k=i
 · subst e
   refine (rowIs_setCells (bts l) (j*64) X _ (h.blk k h0)).congr fun m hm=>?_
   have h3:(bts l).length=64:=by unfold bts;rw [List.length_map,hl]
   rw [h3]
   unfold byV
   show _=Value.int .u8 (((if k=k∧m / 64=j then l else A.blk k (m / 64)).getD (m % 64) 0:Nat):Int)
   by_cases e2:m / 64=j
   · rw [if_pos (by omega),if_pos ⟨rfl,e2⟩,show m - j*64=m % 64 by omega]
     unfold bts
     have h4:m % 64 < l.length:=by omega
     rw [List.getD_eq_getElem?_getD,List.getElem?_map,List.getD_eq_getElem?_getD,List.getElem?_eq_getElem h4];rfl
   · rw [if_neg (by omega),if_neg (fun q=>e2 q.2)]
 · refine ((h.blk k h0).of_block (hk _ (fun q=>e ((h.inj k i h0 hi).1 q)))).congr fun m hm=>?_
   unfold byV
   show _=Value.int .u8 (((if k=i∧m / 64=j then l else A.blk k (m / 64)).getD (m % 64) 0:Nat):Int)
   rw [if_neg (fun q=>e q.1)]
theorem Arr.fit.setReads (h:A.fit) (i:Nat) (r:Int):(A.setReads i r).fit:=⟨h.n,h.nb,h.len,h.byt⟩
end
section
open Go.RowKit Go.Deep
def setA:Array Value→Nat→List Value→Array Value
 | cur,_,[]=>cur
 | cur,o,v :: r=>setA (cur.setIfInBounds o v) (o+1) r
theorem setA_size:∀ (vs:List Value) (o:Nat) (cur:Array Value),(setA cur o vs).size=cur.size
 | [],_,_=>rfl
 | v :: r,o,cur=>by unfold setA;rw [setA_size r];simp
theorem setA_take:∀ (vs:List Value) (o:Nat) (cur:Array Value),o+vs.length≤cur.size→(setA cur o vs).toList.take (o+vs.length)=cur.toList.take o ++ vs
 | [],o,cur,_=>by simp [setA]
 | v :: r,o,cur,h=>by
  simp only [List.length_cons] at h ⊢
  unfold setA
  have:=setA_take r (o+1) (cur.setIfInBounds o v) (by simp;omega)
  rw [show o+(r.length+1)=o+1+r.length by omega,this,Array.toList_setIfInBounds]
  have e:(cur.toList.set o v).take (o+1)=cur.toList.take o ++ [v]:=by
   rw [List.take_add_one,List.take_set_of_le (Nat.le_refl o),List.getElem?_set_self (by simp;omega)]
   rfl
  rw [e,List.append_assoc]
  rfl
theorem heap_setCells:∀ (vs:List Value) (o:Nat) (w:World) {b:Nat} {cur:Array Value} {t:TypeId} {fr:Nat×Nat},w.heap[b]?=some (.cells cur t fr)→(w.setCells b o vs).heap[b]?=some (.cells (setA cur o vs) t fr)
 | [],_,_,_,_,_,_,h=>h
 | v :: r,o,w,b,cur,t,fr,h=>by
  show ((w.setCell ⟨b,o,none⟩ v).setCells b (o+1) r).heap[b]?=_
  exact heap_setCells r (o+1) _ (by simp [World.setCell,Array.getElem?_modify,h])
theorem grown_setCellsA (w:World) (b o:Nat) (vs:List Value):w.grownBy (w.setCells b o vs) (some b):=by
 obtain ⟨h1,h2,h3⟩:=rest_setCells b vs o w
 exact ⟨h1,h2,h3,by rw [size_setCells];exact Nat.le_refl _,fun k _ h0=>heap_setCells_other b vs o w k (fun e=>h0 (by rw [e]))⟩
theorem run_append_from (w:World) (base:Nat) (t tx ty e:TypeId) (i:TypeInfo) (z:Value) (size bytes:Nat) (ht:P.underlying t=some (.slice e)) (hi:P.info? e=some i) (hz:i.zero=some z)
 (h5:i.size=size) (hf:i.bytes=bytes) (hh:z.cells.size=size) (v:Value) (n:Nat) (xs:List Value) (h0:w.ownsRow base e size v n xs)
 (x:Value) (m:Nat) (news:List Value) (hs:Src P size tx x m news w) (hc:n+m≤maxLen) (h1:(n+m)*bytes≤140737488355328) (h6:base≤w.heap.size) :
 ∃ v' w',(Builtin.append_ #[t,tx] ty #[v,x]).run P w=.ok v' w'∧w'.ownsRow base e size v' (n+m) (xs ++ news)∧w.grownBy w' v.ownBlock∧(v'.ownBlock=v.ownBlock∨v'.ownBlock=some w.heap.size):=by
 subst h5
 subst hf
 have h8:n+m≤9223372036854775807:=by simp only [maxLen] at hc;omega
 have h3:(xs ++ news).length=(n+m)*i.size:=by rw [List.length_append,h0.1,hs.newsLen,Nat.add_mul]
 have grown:∀ (old:Nat),∀ (row:Option Nat),
  (w.drew.alloc (.cells ((xs ++ news).toArray ++ Builtin.zeroCells z.cells (grownCap w (n+m) old e - (n+m))) e)).ownsRow base e i.size
   (.slice (some ⟨w.heap.size,0,none⟩) (n+m) (grownCap w (n+m) old e)) (n+m) (xs ++ news) ∧
  w.grownBy (w.drew.alloc (.cells ((xs ++ news).toArray ++ Builtin.zeroCells z.cells (grownCap w (n+m) old e - (n+m))) e)) row:=by
  intro old row
  have hp:=grownCap_ge w (n+m) old e
  have h9:grownCap w (n+m) old e≤maxLen:=grownCap_le_maxLen w (n+m) old e hc
  refine ⟨⟨h3,.inr ⟨w.heap.size,_,_,rfl,h6,heap_alloc_new w.drew _,hp,h9,?_,?_⟩⟩,⟨rfl,rfl,rfl,by simp,fun k hk _=>(blk_alloc_lt w.drew _ k hk:_)⟩⟩
  · rw [Array.size_append,List.size_toArray,size_zeroCells,hh,h3,← Nat.add_mul]
    congr 1
    omega
  · rw [Array.toList_append,← h3]
    exact List.take_left
 rcases h0.2 with ⟨rfl,rfl⟩ | ⟨g,cap,cur,rfl,hq,hg,hy,h9,he,h7⟩
 · have hx:xs=[]:=List.eq_nil_of_length_eq_zero (by simpa using h0.1)
   subst hx
   by_cases hm:m=0
   · subst hm
     have hn:news=[]:=List.eq_nil_of_length_eq_zero (by simpa using hs.newsLen)
     subst hn
     refine ⟨.slice none 0 0,w,?_,World.ownsRow_nil w base e i.size,⟨rfl,rfl,rfl,Nat.le_refl _,fun _ _ _=>rfl⟩,.inl rfl⟩
     rcases hs.kind with ⟨e',hk⟩ | hk <;> simp [Builtin.append_,run_underlying ht,run_underlying hk,sizeOf,typeInfo,hi,hs.len,hs.cells]
   · have hr:=run_append_grow_src (P:=P) (w:=w) t tx ty e i z ht hi hz none 0 0 [] (by simp [Builtin.firstCells]) x m news hs (by omega) (by omega) (growslice_fits (by omega) (by simpa using h1))
     have h4:=grown 0 (Value.ownBlock (.slice none 0 0))
     simp only [Nat.zero_add,List.nil_append] at h4 hr ⊢
     exact ⟨_,_,hr,h4.1,h4.2,.inr rfl⟩
 · by_cases h2:n+m≤cap
   · have ha:n*i.size+news.length≤cur.size:=by rw [hs.newsLen,he,← Nat.add_mul];exact Nat.mul_le_mul_right _ h2
     have hr:=run_append_room_src (P:=P) (w:=w) t tx ty e i ht hi g 0 n cap x m news hs h2 (fun j hj=>by simp [World.cell?,hg];omega) (fun j hj=>by simp [World.frozen?,hg])
     rw [Nat.zero_add] at hr
     refine ⟨_,_,hr,⟨h3,.inr ⟨g,cap,_,rfl,hq,heap_setCells news _ w hg,h2,h9,by rw [setA_size];exact he,?_⟩⟩,grown_setCellsA w g _ news,.inl rfl⟩
     rw [Nat.add_mul,← hs.newsLen,setA_take news _ cur ha,h7]
   · have holds:∀ j u,xs[j]?=some u→w.cell? ((⟨g,0,none⟩:Addr).add j)=some u:=h0.cells (g:=g) rfl
     have hr:=run_append_grow_src (P:=P) (w:=w) t tx ty e i z ht hi hz (some ⟨g,0,none⟩) n cap xs (run_firstCells_some w.drew i.size n ⟨g,0,none⟩ n cap xs h0.1 (by simpa using holds)) x m news hs (by omega) (by omega) (growslice_fits (by omega) h1)
     have h4:=grown cap (Value.ownBlock (.slice (some ⟨g,0,none⟩) n cap))
     exact ⟨_,_,hr,h4.1,h4.2,.inr rfl⟩
theorem wpList_append_from (w:World) {ops:Array Oper} {rest:List Oper} {o:Oper} {a:Act} {Q:Exit→Act→World→Prop} (h7:o.guard=none) (s x:Operand) (t tx:TypeId)
 (ho:o.op=.call { callee:=.builtin .append,args:=#[s,x],argTypes:=#[t,tx] }) (base:Nat) (e:TypeId) (i:TypeInfo) (z:Value) (size bytes:Nat) (ht:P.underlying t=some (.slice e)) (hi:P.info? e=some i) (hz:i.zero=some z)
 (h1:i.size=size) (h8:i.bytes=bytes) (h9:z.cells.size=size) (v:Value) (n:Nat) (xs:List Value) (hv:a.eval s=v) (h6:w.ownsRow base e size v n xs)
 (u:Value) (hu:a.eval x=u) (m:Nat) (news:List Value) (hs:Src P size tx u m news w) (ha:n+m≤maxLen) (h0:(n+m)*bytes≤140737488355328) (h5:base≤w.heap.size)
 (h:∀ v' w',w'.ownsRow base e size v' (n+m) (xs ++ news)→w.grownBy w' v.ownBlock→(v'.ownBlock=v.ownBlock∨v'.ownBlock=some w.heap.size)→wpList P ops Q rest (a.put o.dst v') w'):wpList P ops Q (o :: rest) a w:=by
 obtain ⟨v',w',hr,h2,h3,h4⟩:=run_append_from (P:=P) w base t tx o.type e i z size bytes ht hi hz h1 h8 h9 v n xs h6 u m news hs ha h0 h5
 refine wpList_plain h7 fun K hK=>?_
 unfold Oper.wp execOp
 simp only [ho,resolve,invoke,builtin,Sem.run_bind,Sem.run_pure,Result.andThen_ok,List.map_toArray,List.map_cons,List.map_nil,hv,hu,hr]
 exact hK _ _ (h v' w' h2 h3 h4)
end
def be (n:Nat):Nat→List Nat
 | 0=>[]
 | s+1=>n / 256^s % 256 :: be n s
theorem be_len (n s:Nat):(be n s).length=s:=by induction s with
 | zero=>rfl
 | succ s ih=>simp [be,ih]
theorem be_lt (n s:Nat):∀ x∈be n s,x < 256:=by induction s with
 | zero=>intro x hx;simp [be] at hx
 | succ s ih=>
  intro x hx
  simp only [be,List.mem_cons] at hx
  rcases hx with rfl | hx
  · exact Nat.mod_lt _ (by decide)
  · exact ih x hx
def ofB (l:List Nat):Nat:=l.foldl (fun n x=>(n*256+x) % 18446744073709551616) 0
theorem ofB_snoc (l:List Nat) (x:Nat):ofB (l ++ [x])=(ofB l*256+x) % 18446744073709551616:=by simp [ofB]
theorem fold_be (n:Nat) (hn:n < 18446744073709551616):∀ (s a:Nat),s≤8→a=n / 256^s→(be n s).foldl (fun n x=>(n*256+x) % 18446744073709551616) a=n:=by
 intro s
 induction s with
 | zero=>intro a _ ha;simpa [be] using ha
 | succ s ih=>
  intro a hs ha
  simp only [be,List.foldl_cons]
  refine ih _ (by omega) ?_
  subst ha
  have h1:n / 256^(s+1)=n / 256^s / 256:=by rw [Nat.pow_succ,Nat.div_div_eq_div_mul]
  rw [h1]
  have h2:n / 256^s≤n:=Nat.div_le_self _ _
  generalize n / 256^s=q at *
  omega
theorem ofB_be (n s:Nat) (hs:s≤8) (h:n < 256^s):ofB (be n s)=n:=by
 have h8:(256:Nat)^s≤256^8:=Nat.pow_le_pow_right (by decide) hs
 have h9:(256:Nat)^8=18446744073709551616:=by decide
 exact fold_be n (by omega) s 0 hs (Nat.div_eq_of_lt h).symm
def halvesL:List Nat:=[0x00000000,0x1db71064,0x3b6e20c8,0x26d930ac,0x76dc4190,0x6b6b51f4,0x4db26158,0x5005713c,0xedb88320,0xf00f9344,0xd6d6a3e8,0xcb61b38c,0x9b64c2b0,0x86d3d2d4,0xa00ae278,0xbdbdf21c]
def halfStep (r:Nat):Nat:=(r / 16)^^^halvesL.getD (r % 16) 0
def crcStep (r b:Nat):Nat:=halfStep (halfStep (r^^^b))
def crcFold (l:List Nat):Nat:=l.foldl crcStep 4294967295
def crc (l:List Nat):Nat:=4294967295 - crcFold l
theorem halves_lt:∀ i,halvesL.getD i 0 < 4294967296:=by
 intro i
 by_cases h:i < 16
 · have:∀ j:Fin 16,halvesL.getD j.1 0 < 4294967296:=by decide
   exact this ⟨i,h⟩
 · have:halvesL.getD i 0=0:=by simp [halvesL,List.getElem?_eq_none (show ([0x00000000,0x1db71064,0x3b6e20c8,0x26d930ac,0x76dc4190,0x6b6b51f4,0x4db26158,0x5005713c,0xedb88320,0xf00f9344,0xd6d6a3e8,0xcb61b38c,0x9b64c2b0,0x86d3d2d4,0xa00ae278,0xbdbdf21c]:List Nat).length≤i by simp;omega)]
   omega
theorem halfStep_lt (h:r < 4294967296):halfStep r < 4294967296:=by
 unfold halfStep
 exact Nat.xor_lt_two_pow (n:=32) (by omega) (halves_lt _)
theorem crcStep_lt (h:r < 4294967296) (hb:b < 256):crcStep r b < 4294967296:=
 halfStep_lt (halfStep_lt (Nat.xor_lt_two_pow (n:=32) h (by omega)))
theorem fold_lt:∀ (l:List Nat) (r:Nat),r < 4294967296→(∀ x∈l,x < 256)→l.foldl crcStep r < 4294967296:=by
 intro l
 induction l with
 | nil=>intro r h _;exact h
 | cons b l ih=>intro r h hl;exact ih _ (crcStep_lt h (hl b (by simp))) (fun x hx=>hl x (by simp [hx]))
theorem crcFold_lt (h:∀ x∈l,x < 256):crcFold l < 4294967296:=fold_lt l _ (by decide) h
theorem crc_lt (l:List Nat):crc l < 4294967296:=by unfold crc;omega
inductive Rec where
 | blank
 | root (D L G turn first len:Nat)
 | filled
 | shard (l:List Nat)
deriving DecidableEq
def Rec.body:Rec→List Nat
 | .blank=>[]
 | .root D L G t f n=>[1,D % 256,L % 256,G % 256] ++ (be t 8 ++ (be f 4 ++ be n 4))
 | .filled=>[2]
 | .shard l=>3 :: (List.replicate 15 0 ++ l)
def sealed (body:List Nat):List Nat:=be (crc (body ++ List.replicate (60 - body.length) 0)) 4 ++ (body ++ List.replicate (60 - body.length) 0)
def Rec.blk (r:Rec):List Nat:=if r.body.length=0 then List.replicate 64 0 else sealed r.body
def Rec.ok:Rec→Prop
 | .blank=>True
 | .root D L G t f n=>D < 256∧L < 256∧G < 256∧t < 18446744073709551616∧f < 4294967296∧n < 4294967296
 | .filled=>True
 | .shard l=>l.length=44∧∀ x∈l,x < 256
def prs (b:List Nat):Rec:=
 if b.getD 4 0=1 then .root (ofB [b.getD 5 0]) (ofB [b.getD 6 0]) (ofB [b.getD 7 0]) (ofB ((b.drop 8).take 8)) (ofB ((b.drop 16).take 4)) (ofB ((b.drop 20).take 4))
 else if b.getD 4 0=2 then .filled else if b.getD 4 0=3 then .shard (b.drop 20) else .blank
theorem body_len {r:Rec} (h:r.ok):r.body.length≤60:=by
 cases r with
 | blank=>simp [Rec.body]
 | root D L G t f n=>simp [Rec.body,be_len]
 | filled=>simp [Rec.body]
 | shard l=>simp [Rec.body,h.1]
theorem blk_len {r:Rec} (h:r.ok):r.blk.length=64:=by
 have:=body_len h
 unfold Rec.blk sealed
 split
 · simp
 · simp [be_len];omega
theorem body_lt {r:Rec} (h:r.ok):∀ x∈r.body,x < 256:=by
 cases r with
 | blank=>intro x hx;simp [Rec.body] at hx
 | root D L G t f n=>
  intro x hx
  simp only [Rec.body,List.mem_append,List.mem_cons,List.not_mem_nil,or_false] at hx
  rcases hx with (rfl | rfl | rfl | rfl) | hx | hx | hx
  · omega
  · omega
  · omega
  · omega
  all_goals exact be_lt _ _ x hx
 | filled=>
  intro x hx
  simp only [Rec.body,List.mem_cons,List.not_mem_nil,or_false] at hx
  omega
 | shard l=>
  intro x hx
  simp only [Rec.body,List.mem_append,List.mem_cons] at hx
  rcases hx with rfl | hx | hx
  · decide
  · have:=List.eq_of_mem_replicate hx;omega
  · exact h.2 x hx
theorem sealed_lt (h:∀ x∈l,x < 256):∀ x∈sealed l,x < 256:=by
 intro x hx
 unfold sealed at hx
 simp only [List.mem_append] at hx
 rcases hx with hx | hx | hx
 · exact be_lt _ _ x hx
 · exact h x hx
 · have:=List.eq_of_mem_replicate hx;omega
theorem blk_lt {r:Rec} (h:r.ok):∀ x∈r.blk,x < 256:=by
 unfold Rec.blk
 split
 · intro x hx;have:=List.eq_of_mem_replicate hx;omega
 · exact sealed_lt (body_lt h)
theorem four (n:Nat):be n 4=[n / 256^3 % 256,n / 256^2 % 256,n / 256^1 % 256,n / 256^0 % 256]:=rfl
theorem ofB_one (x:Nat) (h:x < 256):ofB [x]=x:=by simp [ofB];omega
theorem prs_blk {r:Rec} (h:r.ok):prs r.blk=r:=by
 cases r with
 | blank=>rfl
 | root D L G t f n=>
  obtain ⟨h1,h2,h3,h4,h5,h6⟩:=h
  have e:Rec.blk (.root D L G t f n)=sealed (Rec.body (.root D L G t f n)):=by unfold Rec.blk;rw [if_neg (by simp [Rec.body])]
  rw [e]
  unfold sealed
  generalize crc _=c
  simp only [Rec.body,four c,List.length_append,List.length_cons,List.length_nil,be_len]
  unfold prs
  simp only [List.cons_append,List.nil_append,List.getD_cons_succ,List.getD_cons_zero,if_true,List.drop_succ_cons,List.drop_zero,List.append_assoc]
  have t8:∀ R:List Nat,(be t 8 ++ R).take 8=be t 8:=fun R=>by rw [List.take_append_of_le_length (by simp [be_len])];exact List.take_of_length_le (by simp [be_len])
  have d8:∀ R:List Nat,(be t 8 ++ R).drop 8=R:=fun R=>by rw [List.drop_append_of_le_length (by simp [be_len]),List.drop_of_length_le (by simp [be_len])];rfl
  have t4:∀ (m:Nat) (R:List Nat),(be m 4 ++ R).take 4=be m 4:=fun m R=>by rw [List.take_append_of_le_length (by simp [be_len])];exact List.take_of_length_le (by simp [be_len])
  have d12:∀ R:List Nat,(be t 8 ++ (be f 4 ++ R)).drop 12=R:=fun R=>by
   rw [show (12:Nat)=8+4 from rfl,← List.drop_drop,d8,List.drop_append_of_le_length (by simp [be_len]),List.drop_of_length_le (by simp [be_len])];rfl
  rw [t8,d8,t4,d12,t4,ofB_be t 8 (by decide) h4,ofB_be f 4 (by decide) h5,ofB_be n 4 (by decide) h6]
  rw [ofB_one _ (by omega),ofB_one _ (by omega),ofB_one _ (by omega),Nat.mod_eq_of_lt h1,Nat.mod_eq_of_lt h2,Nat.mod_eq_of_lt h3]
 | filled=>
  have e:Rec.blk .filled=sealed (Rec.body .filled):=by unfold Rec.blk;rw [if_neg (by simp [Rec.body])]
  rw [e]
  unfold sealed
  generalize crc _=c
  simp only [Rec.body,four c,List.length_cons,List.length_nil]
  unfold prs
  simp
 | shard l=>
  have e:Rec.blk (.shard l)=sealed (Rec.body (.shard l)):=by unfold Rec.blk;rw [if_neg (by simp [Rec.body])]
  rw [e]
  unfold sealed
  generalize crc _=c
  have hl:=h.1
  simp only [Rec.body,four c,List.length_append,List.length_cons,List.length_replicate,hl]
  unfold prs
  simp [List.replicate]
section
open Go.RowKit Go.Deep
def blkA (l:List Nat):Array Value:=(bts l).toArray
theorem blkA_size (l:List Nat):(blkA l).size=l.length:=by unfold blkA bts;simp
theorem blkA_list (l:List Nat):(blkA l).toList=bts l:=by unfold blkA;rfl
theorem bts_len (l:List Nat):(bts l).length=l.length:=by unfold bts;simp
theorem blkA_one (l:List Nat):(blkA l).all (fun v=>v.oneCell')=true:=all_oneCell_toArray fun v hv=>by
 unfold bts at hv
 rw [List.mem_map] at hv
 obtain ⟨x,_,rfl⟩:=hv
 rfl
theorem Tryz.sizeBlk:(Tryz.prog.info? 197).map (fun i=>i.size)=some 64:=by kernel_rfl
theorem blkA_info (h:l.length=64):(Tryz.prog.info? 197).map (fun i=>i.size)=some (blkA l).size:=by rw [blkA_size,h];exact Tryz.sizeBlk
def zb:List Nat:=List.replicate 64 0
theorem zb_len:zb.length=64:=by simp [zb]
theorem Tryz.zeroBlk:(Tryz.prog.info? 197).map (fun i=>(i.zero,i.size,i.bytes))=some (some (.agg (blkA zb)),64,64):=by kernel_rfl
theorem zeroBlk (w:World):(zeroValue 197).run Tryz.prog w=.ok (.agg (blkA zb)) w:=by
 obtain ⟨i0,h0,h1,_,_⟩:=info_parts Tryz.zeroBlk
 simp [zeroValue,typeInfo,Sem.run_bind,h0,h1]
def BlkAt (w:World) (b:Nat) (l:List Nat):Prop:=w.heap[b]?=some (.cells (blkA l) 197 (0,0))
theorem BlkAt.lt (h:BlkAt w b l):b < w.heap.size:=(Array.getElem?_eq_some_iff.1 h).1
theorem BlkAt.new (w:World) (l:List Nat):BlkAt (w.alloc (.cells (blkA l) 197)) w.heap.size l:=blk_alloc_new _ _
theorem BlkAt.keep (h:BlkAt w b l) (e:w'.heap[b]?=w.heap[b]?):BlkAt w' b l:=e.trans h
theorem BlkAt.setRow (l:List Nat) (h:BlkAt w b l'):BlkAt (w.setRow b (blkA l)) b l:=setRow_heap w b (blkA l') (blkA l) _ _ h
theorem grown_setRow' (w:World) (b:Nat) (cs:Array Value):w.grownBy (w.setRow b cs) (some b):=
 ⟨rfl,rfl,rfl,by simp,fun k _ h0=>by
  have:b≠k:=fun e=>h0 (by rw [e])
  simp [World.setRow,Array.getElem?_modify,this]⟩
theorem Outside.setRow (w:World) (b:Nat) (cs:Array Value) (h:S b):Outside S w (w.setRow b cs):=
 have g:=grown_setRow' w b cs
 ⟨g.os,g.tape,g.output,g.size,fun k hk hs=>g.block k hk (fun e=>hs (by cases e;exact h))⟩
theorem size_setRow (w:World) (b:Nat) (cs:Array Value):(w.setRow b cs).heap.size=w.heap.size:=by simp [World.setRow]
theorem blk_loadAt (h:BlkAt w b l) (hl:l.length=64):(Instr.loadAt 197 (.pointer (some ⟨b,0,none⟩))).run Tryz.prog w=.ok (.agg (blkA l)) w:=by
 simp only [Instr.loadAt,Instr.sureAddr,Sem.run_bind,Sem.run_pure,Result.andThen_ok,run_loadVar_row w b 197 197 (blkA l) (0,0) _ h Tryz.underlying197 rfl (blkA_info hl)]
theorem blk_loadVar (h:BlkAt w b l) (hl:l.length=64):(loadVar 197 ⟨b,0,none⟩).run Tryz.prog w=.ok (.agg (blkA l)) w:=
 run_loadVar_row w b 197 197 (blkA l) (0,0) _ h Tryz.underlying197 rfl (blkA_info hl)
theorem blk_storeAt (l:List Nat) (h:BlkAt w b l') (h0:l'.length=64) (hl:l.length=64):(Instr.storeAt 197 (.pointer (some ⟨b,0,none⟩)) (.agg (blkA l))).run Tryz.prog w=.ok () (w.setRow b (blkA l)):=by
 simp only [Instr.storeAt,Instr.sureAddr,Sem.run_bind,Sem.run_pure,Result.andThen_ok,run_storeVar_row w b 197 197 (blkA l') (blkA l) h (blkA_info hl) (by rw [blkA_size,blkA_size,hl,h0]) (blkA_one l)]
theorem bl_load (hg:o.guard=none) (x:Operand) (ho:o.op=.load 197 x) (b:Nat) (l:List Nat)
 (hx:a.eval x=.pointer (some ⟨b,0,none⟩)) (hb:BlkAt w b l) (hl:l.length=64) (h:wpList Tryz.prog ops Q rest (a.put o.dst (.agg (blkA l))) w):wpList Tryz.prog ops Q (o :: rest) a w:=by
 refine wpList_plain hg fun K hK=>?_
 unfold Oper.wp
 simp [execOp,ho,hx,blk_loadAt hb hl,Result.andThen]
 exact hK _ _ h
theorem bl_store (hg:o.guard=none) (x y:Operand) (ho:o.op=.store 197 x y) (b:Nat) (l l':List Nat)
 (hx:a.eval x=.pointer (some ⟨b,0,none⟩)) (hy:a.eval y=.agg (blkA l)) (hb:BlkAt w b l') (h0:l'.length=64) (hl:l.length=64) (h:wpList Tryz.prog ops Q rest (a.put o.dst undef) (w.setRow b (blkA l))):wpList Tryz.prog ops Q (o :: rest) a w:=by
 refine wpList_plain hg fun K hK=>?_
 unfold Oper.wp
 simp [execOp,ho,hx,hy,blk_storeAt l hb h0 hl,Result.andThen]
 exact hK _ _ h
theorem bl_loadMid (hg:o.guard=none) (x:Operand) (ho:o.op=.load 197 x) (b k:Nat) (l:List Nat)
 (hx:a.eval x=.pointer (some ⟨b,k,none⟩)) (hb:w.rangeAt b k (bts l)) (hl:l.length=64) (h:wpList Tryz.prog ops Q rest (a.put o.dst (.agg (blkA l))) w):wpList Tryz.prog ops Q (o :: rest) a w:=
 wpList_load_mid hg 197 x ho b k hx (bts l) _ hb Tryz.underlying197 rfl (by rw [bts_len,hl];exact Tryz.sizeBlk) h
theorem results_cell_slot {fn:Func} {p q:Tmp} {ty:TypeId} (h:fn.results=#[.cell p ty,.tmp q]) (tmps:Array Value) (w:World) (ad:Addr) (v u:Value)
 (hp:tmps.getD p undef=.pointer (some ad)) (hq:tmps.getD q undef=u) (hl:(loadVar ty ad).run P w=.ok v w):(results fn tmps).run P w=.ok (.tuple #[v,u]) w:=by
 have h0:tmps[p]?.getD undef=.pointer (some ad):=by simpa using hp
 have h1:tmps[q]?.getD undef=u:=by simpa using hq
 simp [results,h,h0,h1,asAddr,hl]
end
end Go.Proofs.YthcgahldacpolaaGreatDoor
