import Derived.Test.YthcgahldacpolaaGreatDoorM39
import Derived.Deep.AppendLies
set_option maxRecDepth 100000
set_option maxHeartbeats 8000000
namespace Go.Proofs.YthcgahldacpolaaGreatDoor
open Go.RowKit Go.Deep
variable {A:Arr} {F:Foot} {O:List (Int×Nat×Nat×List Nat)} {P:List St} {k v p D L G ps ho g N S b base gone:Nat} {f0:Nat→Value} {r:Rec} {t:TypeId} {w w':World}
section
open Gf
def rcL (A:Arr) (r:Rec) (k i:Nat):Value:=if i < k∧A.lost i=false then recV r else .nilIface
theorem rcL_ok (h:A.lost k=false) (i:Nat):(if i=k then recV r else rcL A r k i)=rcL A r (k+1) i:=by
 unfold rcL
 by_cases e:i=k
 · subst e
   rw [if_pos rfl,if_pos ⟨by omega,h⟩]
 · rw [if_neg e]
   by_cases e2:i < k∧A.lost i=false
   · rw [if_pos e2,if_pos ⟨by omega,e2.2⟩]
   · rw [if_neg e2,if_neg (fun q=>e2 ⟨by omega,q.2⟩)]
theorem rcL_lost (h:A.lost k=true) (i:Nat):rcL A r k i=rcL A r (k+1) i:=by
 unfold rcL
 by_cases e:i=k
 · subst e
   rw [if_neg (fun q=>by rw [h] at q;cases q.2),if_neg (fun q=>by rw [h] at q;cases q.2)]
 · by_cases e2:i < k∧A.lost i=false
   · rw [if_pos e2,if_pos ⟨by omega,e2.2⟩]
   · rw [if_neg e2,if_neg (fun q=>e2 ⟨by omega,q.2⟩)]
def RlR (w1:World) (g p N:Nat) (A:Arr) (F:Foot) (r:Rec) (i:Value) (wr:World):Prop:=∃ k:Nat,k≤N∧i=.int .i64 k∧(∃ rs,ArrAt wr p (A.rd rs) F)∧Outside (fun j=>j=g∨F.has p A.n j) w1 wr∧wr.rowIs g 164 N (rcL A r k)
def RlPost (w:World) (p:Nat) (A:Arr) (F:Foot) (r:Rec) (e:Ending) (w':World):Prop:=∃ g,e=.returned (.slice (some ⟨g,0,none⟩) A.n A.n)∧w.heap.size≤g∧w'.rowIs g 164 A.n (rcL A r A.n)∧(∃ rs,ArrAt w' p (A.rd rs) F)∧Outside (F.has p A.n) w w'
theorem readCopies_any (hP:Vol w v p D L G ps ho A F) (h9:Free F p A.n v) (hf:A.fit) (b:Nat) (hn:A.n=D+L+G) (hD:D≤12) (hL:L≤4) (hG:G≤4) (hb:b < A.nb) (hw:A.wait≠0) (ha:∀ d,A.bad d b=false)
 (r:Rec) (hr:r.ok) (hm:Makes r) (he:∀ i,i < A.n→A.blk i b=r.blk) :
 Calls Tryz.prog 53 #[.pointer (some ⟨v,0,none⟩),.int .i64 b] w fun e w'=>RlPost w p A F r e w':=by
 obtain ⟨_,c1,c2,c3,_⟩:=hP.vol.cells
 have hN:((D:Int)+(L:Int)+(G:Int))=((A.n:Nat):Int):=by omega
 have ka:A.n≤1000:=hf.n
 go_enter Tryz.func53,Tryz.ntmps53
 go_wp2_with fail
 refine (shards_any (D:Int) (L:Int) (G:Int) w ⟨by omega,by omega⟩ ⟨by omega,by omega⟩ ⟨by omega,by omega⟩).mono ?_
 rintro e w5 ⟨rfl,hh⟩
 rw [hN]
 clear hN hn
 simp only []
 go_wp2_with (at_make;refine wpList_mkRecs _ rfl (.tmp 13) (.tmp 13) rfl _ A.n rfl rfl rfl (by omega) ?_;intro w6 h3 hp kb)
 have h1:Below w.heap.size w w5:=hh
 have h2:Below w.heap.size w w6:=h1.trans (hp.mono h1.size)
 have k6:w.heap.size≤w5.heap.size:=h1.size
 have hq:¬ F.has p A.n w5.heap.size:=fun q=>by have:=hP.arr.has_lt q;omega
 have h4:=hP.below h2 (Nat.le_refl _)
 have k7:v≠w5.heap.size:=fun e=>by have:=hP.vol.lt;omega
 have k8:2≠w5.heap.size:=fun e=>by have:=hP.laid.lt;omega
 have hy:∃ rs,ArrAt w6 p (A.rd rs) F:=⟨A.reads,h4.arr⟩
 have hz:w6.rowIs w5.heap.size 164 A.n (rcL A r 0):=h3.congr fun i hi=>by unfold rcL;rw [if_neg (by omega)]
 obtain ⟨ty,x,hx⟩:=recV_iface r
 clear h3 hh h1 hp hP c1 c2 c3
 go_loopw [17] (fun i wr=>RlR w6 w5.heap.size p A.n A F r i wr) (fun i _=>A.n - (intOf i).toNat)
 case atStart=>exact ⟨0,Nat.zero_le _,rfl,hy,Outside.refl _ _,hz⟩
 case round=>
  clear hy hz
  obtain ⟨k,hk,rfl,⟨rs,hA⟩,hO,hR⟩:=hrel
  by_cases h5:k < A.n
  · have h6:VolAt wr v p D L G ps ho:=h4.vol.keep (hO.block _ h4.vol.lt (fun q=>q.elim k7 h9.v))
    have hc:hvLaid wr:=h4.laid.keep (hO.block _ h4.laid.lt (fun q=>q.elim k8 h9.g))
    cases hl:A.lost k
    · have h0:=volRead_ok (A:=A.rd rs) h6 hA ⟨hf.n,hf.nb,hf.len,hf.byt⟩ k b h5 hb hw hl (ha k) r hr hm (he k h5) hc h9.g
      rw [hx] at h0
      have H:=hide3 hO hR h0
      clear h6 hc h0 hA hO hR
      go_wp2_with fail
      refine H.out.2.2.mono ?_
      rintro e w7 ⟨rfl,k0,hg⟩
      have h7:w7.rowIs w5.heap.size 164 A.n (rcL A r k):=H.out.2.1.of_block (hg.block w5.heap.size H.out.2.1.lt hq)
      have cS:=h7.cell (i:=k) h5
      have fS:=h7.frozen k
      have kc:((k:Nat):Int).toNat=k:=by omega
      have H7:=hide3 k0 (H.out.1.trans (hg.mono fun _ _ q=>.inr q)) h7
      clear k0 hg H h7
      go_wp2
      refine ⟨⟨k+1,by omega,by go_num,⟨_,H7.out.1.keep fun j hj=>blk_setCell_other _ _ _ _ (fun e=>hq (by have e':j=w5.heap.size:=e;rwa [e'] at hj))⟩,H7.out.2.1.trans (Outside.setCell _ _ _ (.inl rfl)),(H7.out.2.2.set k _).congr fun i hi=>?_⟩,by simp [intOf];omega⟩
      rw [← hx]
      exact rcL_ok hl i
    · have h0:=volRead_lost (A:=A.rd rs) h6 hA ⟨hf.n,hf.nb,hf.len,hf.byt⟩ k b h5 hw hl
      have H:=hide4 hA hO hR h0
      clear h6 hc h0 hA hO hR
      go_wp2_with fail
      refine H.out.2.2.2.mono ?_
      rintro e w7 ⟨rfl,_,h8⟩
      obtain ⟨hA,hO,hR,_⟩:=H.out
      unfold beV
      have H7:=hide3 (hA.below h8 (Nat.le_refl _)) (hO.trans (Outside.of_all h8 _)) (hR.of_block (h8.block _ hR.lt))
      clear hA hO hR h8 H
      go_wp2
      exact ⟨⟨k+1,by omega,by go_num,⟨_,H7.out.1⟩,H7.out.2.1,H7.out.2.2.congr fun i _=>rcL_lost hl i⟩,by simp [intOf];omega⟩
  · have k9:k=A.n:=by omega
    subst k9
    have k5:Outside (F.has p A.n) w wr:=(hO.mono (T:=fun j=>j=w5.heap.size∨F.has p A.n j) fun _ _ q=>q) |> fun h=>⟨h.os.trans h2.os,h.tape.trans h2.tape,h.output.trans h2.output,Nat.le_trans h2.size h.size,fun j hj hs=>(h.block j (Nat.lt_of_lt_of_le hj h2.size) (fun q=>q.elim (fun e=>by omega) hs)).trans (h2.block j hj)⟩
    have H:=hide3 hA k5 hR
    clear hA hO k5 hR
    go_wp2
    go_ret
    exact ⟨_,rfl,k6,H.out.2.2,⟨rs,H.out.1⟩,H.out.2.1⟩
theorem unlike_nil {ty:TypeId} {x:Value} (w:World):(binOp .neq 164 .nilIface (.iface ty x)).run Tryz.prog w=.ok (.bool true) w:=by
 have h2:(Op.equalIn 10000 164 .nilIface (.iface ty x)).run Tryz.prog w=.ok false w:=by
  rw [Op.equalIn]
  simp [Sem.run_bind,run_underlying Tryz.underlying164,Result.andThen_ok]
 simp only [binOp]
 simp [Op.equal,Op.maxDepth,h2]
def UlR (w:World) (N:Nat) (s i:Value) (wr:World):Prop:=∃ k x:Nat,k≤N∧i=.int .i64 k∧s=.int .u64 x∧x < 2^60∧wr=w
theorem unlike_any {f:Nat→Value} (hN:N≤60) (hr:likeB r) (h0:w.rowIs g 164 N f) (hf:∀ i,i < N→f i=recV r∨f i=.nilIface) :
 Calls Tryz.prog 68 #[.slice (some ⟨g,0,none⟩) N N,recV r] w fun e w'=>∃ x:Nat,e=.returned (.int .u64 x)∧w'=w:=by
 unfold likeB at hr
 obtain ⟨ty,rv,h2⟩:=recV_iface r
 have h6:=unlike_nil (ty:=ty) (x:=rv)
 rw [h2] at hr hf ⊢
 clear h2
 go_enter Tryz.func68,Tryz.ntmps68
 go_wp2_with fail
 go_loopw [4,9] (fun s i wr=>UlR w N s i wr) (fun _ i _=>N - (intOf i).toNat)
 case atStart=>exact ⟨0,0,Nat.zero_le _,rfl,rfl,by decide,rfl⟩
 case round=>
  obtain ⟨k,x,hk,rfl,rfl,hx,rfl⟩:=hrel
  by_cases h3:k < N
  · have c:=h0.cell (i:=k) h3
    have h1:=with_any x k (by omega) (by omega) wr
    have h4:x|||2^k < 2^60:=Nat.or_lt_two_pow hx (Nat.pow_lt_pow_right (by decide) (by omega))
    have H:=hide h0
    clear h0
    rcases hf k h3 with e | e
    · rw [e] at c
      clear h1
      go_wp2
      exact ⟨⟨k+1,x,by omega,by go_num,rfl,hx,rfl⟩,by simp [intOf];omega⟩
    · rw [e] at c
      obtain ⟨y,hy⟩:∃ y,x|||2^k=y:=⟨_,rfl⟩
      rw [hy] at h1 h4
      go_wp2_with fail
      refine h1.mono ?_
      rintro e w' ⟨rfl,rfl⟩
      clear h1
      go_wp2
      exact ⟨⟨k+1,y,by omega,by go_num,rfl,h4,rfl⟩,by simp [intOf];omega⟩
  · have h5:k=N:=by omega
    subst h5
    clear h0
    go_wp2
    go_ret
    exact ⟨x,rfl,rfl⟩
theorem putL_rds {f:Nat→List Nat} (rs:Nat→Int) (h:∀ i,i∈mems S→A.blk i b=f i) (h0:∀ i m,A.bad i m=false):(A.rd rs).putL (mems S) b f=A.rd rs:=by
 unfold Arr.putL Arr.putAt Arr.rd
 simp only [Arr.mk.injEq,true_and,and_true]
 refine ⟨?_,?_⟩
 · funext i m
   split
   · exact (h0 i m).symm
   · rfl
 · funext i m
   split
   · rename_i hq
     obtain ⟨h1,rfl⟩:=hq
     exact (h i (List.mem_filter.1 h1).1).symm
   · rfl
def MlPost (w:World) (p S:Nat) (A:Arr) (F:Foot) (e:Ending) (w':World):Prop:=e=.returned (.int .u64 (lsOf A (mems S):Nat))∧(∃ rs,ArrAt w' p (A.rd rs) F)∧Outside (F.has p A.n) w w'
theorem mendCopies_any {ar D' L' G' t f nn:Nat} {pg ob:Value} {off:Bool} (ha:ArcAt w ar v D' L' G' t f nn pg ob off) (hV:Vol w v p D L G ps ho A F) (hF:Free F p A.n v) (hx:¬ F.has p A.n ar) (hf:A.fit) (b:Nat) (hn:A.n=D+L+G) (hD:D≤12) (hL:L≤4) (hG:G≤4) (k0:A.n≤16) (hb:b < A.nb) (hw:A.wait < 0) (h5:∀ d m,A.bad d m=false)
 (r:Rec) (hr:r.ok) (hm:Makes r) (h1:likeB r) (he:∀ i,i < A.n→A.blk i b=r.blk) {q S:Nat} (hq:Boxed w q 101 (.int .u64 S)) (hy:¬ F.has p A.n q) (hS:S < 65536) (hj:∀ i,i∈mems S→i < A.n) :
 Calls Tryz.prog 51 #[.pointer (some ⟨ar,0,none⟩),.int .i64 b,recV r,chsV q] w (MlPost w p S A F):=by
 have hk:=readCopies_any hV hF hf b hn hD hL hG hb (by omega) (fun d=>h5 d b) r hr hm he
 have c0:=ha.cells.1
 obtain ⟨ty,rx,h0⟩:=recV_iface r
 have k5:∀ (args:Array Value) (w:World),(callFunc 36 args).run Tryz.prog w=.ok (.enter 36 args) w:=enters_of Tryz.func36 (by kernel_rfl) rfl
 obtain ⟨N,hN⟩:∃ N,A.n=N:=⟨_,rfl⟩
 have H:=hide8 ha hV h0 he hq hm h1 hN
 unfold chsV
 rw [h0]
 clear ha hV h0 he hq hm h1
 go_enter Tryz.func51,Tryz.ntmps51
 go_wp2_with fail
 refine hk.mono ?_
 rintro e w1 ⟨g,rfl,hg,h6,⟨rs,hp⟩,h2⟩
 obtain ⟨ha,hV,h0,he,hq,hm,h1,hN⟩:=H.out
 have hc:=unlike_any (N:=A.n) (by omega) h1 h6 (fun i _=>by unfold rcL;split;exact .inl rfl;exact .inr rfl)
 have h7:Vol w1 v p D L G ps ho (A.rd rs) F:=hV.turn hF h2 hp
 have h8:=ha.keep (h2.block _ ha.lt hx)
 have h9:Boxed w1 q 101 (.int .u64 S):=(h2.block _ hq.lt hy).trans hq
 rw [h0] at hc
 rw [hN] at hc ⊢
 have H1:=hide4 h7 h8 h9 h2
 clear ha hV h0 he hq hm h1 hN h6 hp h2 h7 h8 h9 hk c0
 go_wp2_with fail
 refine hc.mono ?_
 rintro e w2 ⟨y,rfl,rfl⟩
 clear hc
 obtain ⟨h7,h8,h9,h2⟩:=H1.out
 obtain ⟨ha,hV,h0,he,hq,hm,h1,hN⟩:=H.out
 have c1:=h8.cells.1
 have hs:=choose_any (w:=w2.drew) (q:=q) (S:=S) h9 y
 have hh:=writeCopies_any (h7.below ((Below.refl _ w2).drew) (Nat.le_refl _)) hF ⟨hf.n,hf.nb,hf.len,hf.byt⟩ b S hb hS hj hw r hr hm
 rw [h0,putL_rds rs (fun i hi=>he i (hj i hi)) h5] at hh
 obtain ⟨z,hz⟩:∃ z,lsOf (A.rd rs) (mems S)=z:=⟨_,rfl⟩
 rw [hz] at hh
 have H2:=hide3 hh hs hz
 clear h7 h8 h9 h2 ha hV h0 he hq hm h1 hN hs hh hz
 go_upto_region 2 with fail
 go_cut [8] from 18 to 27 (fun v8 wx=>v8=.int .u64 z∧ArrAt wx p (A.rd rs) F∧Outside (F.has p A.n) w2.drew wx)
 case first=>
  go_region_with (first
   | (go_at_call 36;refine H2.out.2.1.mono ?_;rintro e wz ⟨rfl,rfl⟩)
   | (go_at_call 69;refine H2.out.1.mono ?_;rintro e w3 ⟨rfl,h3,h4⟩;have H3:=hide2 h3 h4;clear h3 h4))
  all_goals (go_wp2_with fail;go_meet;case rel=>exact ⟨rfl,H3.out.1,H3.out.2⟩)
 case rest=>
  obtain ⟨rfl,h3,h4⟩:=hcut
  have H3:=hide2 h3 h4
  clear h3 h4 c1
  go_wp2
  go_ret
  obtain ⟨h3,h4⟩:=H3.out
  exact ⟨by rw [← H2.out.2.2];rfl,⟨rs,h3⟩,(H1.out.2.2.2.trans (Outside.drew _)).trans h4⟩
end
section
open Go.Shelf Gf
attribute [local go_sem] Oper.semAt_some
def heL (A:Arr) (ds:List Nat):List Nat:=ds.filter fun d=>!A.lost d
theorem heL_lost (A:Arr) (ds:List Nat) (d:Nat) (h:A.lost d=true):heL A (ds ++ [d])=heL A ds:=by unfold heL;rw [List.filter_append];simp [h]
theorem heL_ok (A:Arr) (ds:List Nat) (d:Nat) (h:A.lost d=false):heL A (ds ++ [d])=heL A ds ++ [d]:=by unfold heL;rw [List.filter_append];simp [h]
theorem heL_mem {ds:List Nat} {d:Nat}:d∈heL A ds↔d∈ds∧A.lost d=false:=by unfold heL;rw [List.mem_filter];simp
structure FlI (w:World) (r v b g N p D L G ps ho:Nat) (A:Arr) (F:Foot) (f0:Nat→Value) (R:Nat→List Nat) (B S:Nat) (pre:List (Mb S)) (X:World):Prop where
 b2:Boxed X w.heap.size 127 (.pointer (some ⟨r,0,none⟩))
 rd:RdAt X r v b g N (lsOf A (preM pre)) 0
 vol:VolAt X v p D L G ps (ho|||lsOf A (preM pre))
 row:∃ f,X.rowIs g 33 N f∧Kn X w.heap.size f0 f R (heL A (preM pre))
 arr:∃ rs,ArrAt X p (A.rd rs) F
 out:Outside (fun k=>k=g∨k=r∨k=v∨F.has p A.n k) w X
 size:B≤X.heap.size
theorem FlI.own {r:Nat} {R:Nat→List Nat} {B:Nat} (hB:w.heap.size+1≤B) (hg:g < w.heap.size) (hr:r < w.heap.size) (hv:v < w.heap.size) (hF:∀ k,F.has p A.n k→k < w.heap.size):OwnFrom B (FlI w r v b g N p D L G ps ho A F f0 R B S):=by
 rintro pre X Y row ⟨h0,h1,ha,⟨f,h2,he⟩,⟨rs,h3⟩,h4,h5⟩ h6 h7
 have hk:∀ k,k < w.heap.size+1→Y.heap[k]?=X.heap[k]?:=fun k hk=>h6.block k (by omega) (fun e=>by have:=(h7 k e.symm).1;omega)
 refine ⟨(hk _ (by omega)).trans h0,h1.keep (hk _ (by omega)),ha.keep (hk _ (by omega)),⟨f,h2.of_block (hk _ (by omega)),he.keep h6.size fun k o _ ho hc=>?_⟩,⟨rs,h3.keep fun k hf=>hk k (by have:=hF k hf;omega)⟩,h4.later (T:=fun k=>w.heap.size≤k) ⟨h6.os,h6.tape,h6.output,h6.size,fun k hh hi=>hk k (by omega)⟩ (fun k hh hi=>by omega),Nat.le_trans h5 h6.size⟩
 refine (h6.block k (Array.getElem?_eq_some_iff.1 ho).1 (fun e=>?_)).trans ho
 obtain ⟨_,o',h8,h9⟩:=h7 k e.symm
 rw [ho] at h8
 cases h8
 rw [hc] at h9
 cases h9
theorem ta_none1:∃ z,∀ w:World,(Instr.typeAssert .nilIface 164 162 true).run Tryz.prog w=.ok (.tuple #[z,.bool false]) w:=by
 exact ⟨.agg (List.replicate 44 (.int .u8 0)).toArray,fun w=>by kernel_rfl⟩
theorem ta_none2:∃ z,∀ w:World,(Instr.typeAssert .nilIface 164 180 true).run Tryz.prog w=.ok (.tuple #[z,.bool false]) w:=by
 exact ⟨.agg #[],fun w=>by kernel_rfl⟩
theorem fetch_any {r:Nat} (hV:Vol w v p D L G ps ho A F) (hF:Free F p A.n v) (hf:A.fit) (hr:RdAt w r v b g N 0 0) (k5:w.rowIs g 33 N f0) (S:Nat) (hS:S < 65536) (x4:∀ i,i∈mems S→i < N∧i < A.n) (hb:b < A.nb) (hw:A.wait≠0)
 (x5:ho < 65536) (q0:v≠r) (xy:3≤r) (xz:v≠2∧v≠1) (q1:∀ i,i∈mems S→A.bad i b=false) (x6:∀ i,i∈mems S→f0 i=.slice none 0 0) (R:Nat→List Nat) (hR:∀ i,i∈mems S→(Rec.shard (R i)).ok) (q2:∀ i,i∈mems S→A.blk i b=(Rec.shard (R i)).blk) (qj:¬ F.has p A.n g) (q3:¬ F.has p A.n r) (q4:r≠g) (qk:v≠g) (y0:3≤g) :
 Calls Tryz.prog 62 #[.pointer (some ⟨r,0,none⟩),.int .u64 S] w fun e w'=>e=.returned (.tuple #[])∧RdAt w' r v b g N (lsOf A (mems S)) 0∧VolAt w' v p D L G ps (ho|||lsOf A (mems S))∧(∃ f,w'.rowIs g 33 N f∧Kn w' w.heap.size f0 f R (heL A (mems S)))∧(∃ rs,ArrAt w' p (A.rd rs) F)∧Outside (fun k=>k=g∨k=r∨k=v∨F.has p A.n k) w w':=by
 obtain ⟨n,HN⟩:∃ n:Nat,Hid (9≤n):=⟨9,Nat.le_refl _⟩
 have kc:∀ k,F.has p A.n k→k < w.heap.size:=fun k hk=>hV.arr.has_lt hk
 have x7:=k5.lt
 have x8:=hr.lt
 have x9:=hV.vol.lt
 have y1:2 < 3:=by decide
 have y2:1 < 3:=by decide
 refine (callsIn_wide (n:=n)).1 ?_
 refine callsIn_of_wp_marks Tryz.func62 rfl trivial ?_ rfl
 simp only [Tryz.ntmps62,List.size_toArray,List.length_cons,List.length_nil,Nat.reduceAdd,Nat.reduceSub,Array.replicate_succ,Array.replicate_zero,List.push_toArray,List.append_toArray,List.nil_append,List.cons_append]
 gi_wp2
 obtain ⟨w1,kg⟩:∃ w1,w.alloc (.cells #[.pointer (some ⟨r,0,none⟩)] 127)=w1:=⟨_,rfl⟩
 have h2:Boxed w1 w.heap.size 127 (.pointer (some ⟨r,0,none⟩)):=by rw [← kg];exact Boxed.new w _ _
 have q5:w1.heap.size=w.heap.size+1:=by rw [← kg];simp
 have ks:Below w.heap.size w w1:=by rw [← kg];exact (Below.refl _ w).alloc (Nat.le_refl _) _
 rw [kg]
 clear kg
 have qm:=hr.keep (ks.block _ hr.lt)
 refine fetch_region1 h2 qm hS (by kernel_rfl) rfl rfl rfl ?_
 intro w6 kv
 have q6:w6.heap.size=w1.heap.size+1:=by rw [kv];simp
 have qn:w6.cell? ⟨w1.heap.size,0,none⟩=some (.int .u64 (S:Int)):=by rw [kv];exact (Boxed.new w1.drew 101 (.int .u64 (S:Int))).cell
 have k6:Below w1.heap.size w1 w6:=by rw [kv];exact (Below.refl _ w1).drew.alloc (Nat.le_refl _) _
 have k7:Below w.heap.size w w6:=ks.trans (k6.mono ks.size)
 have qo:FlI w r v b g N p D L G ps ho A F f0 R (w1.heap.size+1) S [] w6:=
  ⟨(k6.block _ h2.lt).trans h2,hr.keep (k7.block _ hr.lt),by rw [show lsOf A (preM ([]:List (Mb S)))=0 from rfl,Nat.or_zero];exact hV.vol.keep (k7.block _ hV.vol.lt),⟨f0,k5.of_block (k7.block _ k5.lt),Kn.nil _ _ _ _⟩,⟨A.reads,hV.arr.below k7 (Nat.le_refl _)⟩,Outside.of_all k7 _,by omega⟩
 have xa:=hide qn
 have q7:=hide2 qo k7
 have HZ:=hide2 q5 q6
 clear qn qo h2 ks k7 k6 qm kv q5
 rename_i hK
 refine hK _ _ ?_
 clear hK
 simp only [Act.putFrom,Act.put,List.setIfInBounds_toArray,List.set_cons_succ,List.set_cons_zero]
 gi_wp2
 obtain ⟨q5,xb,q6⟩:w.heap.size+1≤w1.heap.size∧w1.heap.size≤w.heap.size+1∧w6.heap.size=w1.heap.size+1:=by have:=HZ.out;omega
 rw [← q6] at q7
 refine wpIn_rangeFunc_ownG rfl (by have:=HN.out;omega) (gf:=83) (lb:=#[.pointer (some ⟨w1.heap.size,0,none⟩)]) rfl trivial (enters_of Tryz.func83 (by kernel_rfl) rfl)
  (members_mb (n - 1) w1.heap.size S hS w6 (by omega) xa.out (by have:=hV.room;omega) (hV.tab.mono (by exact hV.tab.lt) q7.out.2)) (fun h k=>kpT_t h k) (kpT_b (by have:=hV.room;omega)) (Below.refl _ _) (fun _=>rfl)
  (FlI w r v b g N p D L G ps ho A F f0 R w6.heap.size S) (fun _ _ _=>False) (FlI.own (by omega) x7 x8 x9 kc) (fun _ _ _ _ _ h _ _=>h.elim) q7.out.1
  (fun x=>{ tmps:=#[.pointer (some ⟨r,0,none⟩),.int .u64 (S:Int),.pointer (some ⟨w.heap.size,0,none⟩),undef,.int .i64 (x.1:Int),undef,undef,undef,undef,.int .u64 (S:Int),.pointer (some ⟨r,0,none⟩),.pointer (some ⟨r,0,none⟩),.pointer (some ⟨r,3,none⟩),.int .u64 0,.int .u64 (S:Int),.pointer (some ⟨r,0,none⟩),.pointer (some ⟨r,0,none⟩),.pointer (some ⟨r,4,none⟩),.int .u64 0,.int .u64 (S:Int),.func (.func 83) #[] #[.pointer (some ⟨w1.heap.size,0,none⟩)],.int .i64 (x.1:Int),undef,undef,undef,undef,undef,undef,undef,undef,undef,undef,undef,undef,undef,undef,undef,undef,undef,undef,undef,undef,undef,undef,undef,undef,undef,undef,undef,undef,undef,undef,undef,undef,undef,undef,undef,undef,undef,undef,undef,undef,undef,undef,undef,undef,undef,undef,undef,undef,undef,undef,undef,undef,undef,undef,undef,undef,undef,undef,undef,undef,undef,undef,undef,undef,undef,undef,undef,undef,undef,undef,undef,undef,undef,undef,undef,undef,undef,undef],defers:=[] }) ?assign ?body ?done ?stop
 case assign=>
  intro l2 x X Kk hK
  unfold encMb
  gi_wp2
  exact hK
 case body=>
  rintro l2 pre x X hi q8
  clear q8
  have hs:x.1∈mems S:=mem_mems.2 x.2
  obtain ⟨qp,qq⟩:=x4 _ hs
  have qs:=hi.b2.lt
  have c2:=hi.b2.cell
  obtain ⟨c0,c1,cs,c3,c4⟩:=hi.rd.cells
  obtain ⟨f,h0,h4⟩:=hi.row
  have cg:=h0.cell (i:=x.1) qp
  have y3:¬ F.has p A.n w.heap.size:=fun q=>by have:=kc _ q;omega
  by_cases hm:x.1∈heL A (preM pre)
  · obtain ⟨bl,xc,xd,xe,xf⟩:=h4.2 _ hm
    rw [xc] at cg
    have HI:=hide hi
    have HK:=hide h4
    have HR:=hide h0
    clear hi h4 h0
    gi_wp2
    rename_i kh
    refine kh _ _ ?_
    clear kh
    simp only [Act.put,List.setIfInBounds_toArray,List.set_cons_succ,List.set_cons_zero,Bool.not_false]
    gi_wp2
    have hi:=HI.out
    refine ⟨⟨Nat.le_refl _,fun k o _ ho _=>ho⟩,fun _=>hV.tab.keep (hi.out.block _ hV.tab.lt (fun q=>by rcases q with q | q | q | q;omega;omega;omega;exact hF.t q)),?_⟩
    have h9:=(heL_mem.1 hm).2
    refine ⟨hi.b2,by rw [preM_snoc,lsOf_ok A _ _ h9];exact hi.rd,by rw [preM_snoc,lsOf_ok A _ _ h9];exact hi.vol,⟨f,HR.out,?_⟩,hi.arr,hi.out,hi.size⟩
    rw [preM_snoc,heL_ok A _ _ h9]
    refine ⟨fun i hy=>HK.out.1 i (fun q=>hy (List.mem_append_left _ q)),fun i hy=>HK.out.2 i ?_⟩
    rcases List.mem_append.1 hy with q | q
    · exact q
    · rw [List.mem_singleton.1 q];exact hm
  · have xg:f x.1=.slice none 0 0:=(h4.1 _ hm).trans (x6 _ hs)
    rw [xg] at cg
    obtain ⟨rs,ki⟩:=hi.arr
    have xh:lsOf A (preM pre) < 65536:=lsOf_lt A _ (fun d hd=>by unfold preM at hd;obtain ⟨y,_,rfl⟩:=List.mem_map.1 hd;exact y.2.1)
    have h6:Vol X v p D L G ps (ho|||lsOf A (preM pre)) (A.rd rs) F:=⟨hi.vol,ki,hV.laid.keep (hi.out.block _ hV.laid.lt (fun q=>by rcases q with q | q | q | q;omega;omega;omega;exact hF.g q)),hV.tab.keep (hi.out.block _ hV.tab.lt (fun q=>by rcases q with q | q | q | q;omega;omega;omega;exact hF.t q)),Nat.le_trans hV.room hi.out.size⟩
    have HI:=hide4 hi h4 h0 h6
    clear hi h4 h0 h6
    gi_wp2
    rename_i kh
    refine kh _ _ ?_
    clear kh
    simp only [Act.put,List.setIfInBounds_toArray,List.set_cons_succ,List.set_cons_zero]
    gi_wp2
    obtain ⟨hi,h4,h0,h6⟩:=HI.out
    have kj:(A.rd rs).fit:=⟨hf.n,hf.nb,hf.len,hf.byt⟩
    cases h9:A.lost x.1
    · have hz:=h6.below ((Below.refl _ X).drew) (Nat.le_refl _)
      refine fetch_region4 (K:=fun w2=>ArrAt w2 p ((A.rd rs).setReads x.1 (wrap64 ((A.rd rs).reads x.1+1))) F∧Outside (F.has p A.n) X.drew w2) x.1 (volRead_ok hz.vol hz.arr kj x.1 b qq hb hw h9 (q1 _ hs) (.shard (R x.1)) (hR _ hs) (makes_shard (hR _ hs)) (q2 _ hs) hz.laid hF.g) hi.b2 hi.rd (by kernel_rfl) rfl rfl rfl ?_
      rintro w2 ⟨qv,kk⟩
      have k0:Outside (F.has p A.n) X w2:=(Outside.drew X).trans kk
      clear hz kk
      have kx:∀ k,w.heap.size≤k→k < X.heap.size→w2.heap[k]?=X.heap[k]?:=fun k hk km=>k0.block k km (fun q=>by have:=kc k q;omega)
      have y4:=ta_shard
      have q9:(R x.1).length=44:=(hR _ hs).1
      have qx:=hide qv
      have qy:=hide2 k0 kx
      clear hi h4 h0 h6 qv k0 kx c0 c1 cs c3 c4 cg c2
      rename_i hK
      refine hK _ _ ?_
      clear hK
      simp only [Act.putFrom,Act.put,List.setIfInBounds_toArray,List.set_cons_succ,List.set_cons_zero,recV]
      gi_wp2_with (show wpListIn _ _ _ _ _ ({ dst:=none,op:=Op.store 162 (.tmp 7) (.tmp 46),type:=_,pos:=_,after:=_,guard:=_ } :: _) _ _;refine in_shard_new (w:=w2) (l:=R x.1) rfl (.tmp 7) (.tmp 46) rfl (by rfl) (by rfl) (by rfl) q9 ?_)
      obtain ⟨k0,kx⟩:=qy.out
      obtain ⟨hi,h4,h0,h6⟩:=HI.out
      have y5:X.heap.size≤w2.heap.size:=k0.size
      have he:Below w2.heap.size w2 (w2.alloc (.cells (bts (R x.1)).toArray 162)):=(Below.refl _ w2).alloc (Nat.le_refl _) _
      have qa:(w2.alloc (.cells (bts (R x.1)).toArray 162)).heap[w2.heap.size]?=some (.cells (bts (R x.1)).toArray 162 (0,0)):=blk_alloc_new _ _
      have xi:(w2.alloc (.cells (bts (R x.1)).toArray 162)).heap.size=w2.heap.size+1:=by simp
      obtain ⟨w3,ky⟩:∃ w3,w2.alloc (.cells (bts (R x.1)).toArray 162)=w3:=⟨_,rfl⟩
      rw [ky] at he qa xi ⊢
      have kd:∀ k,k < X.heap.size→¬ F.has p A.n k→w3.heap[k]?=X.heap[k]?:=fun k hk xj=>(he.block k (by omega)).trans (k0.block k hk xj)
      have qb:∀ k,w.heap.size≤k→k < X.heap.size→w3.heap[k]?=X.heap[k]?:=fun k hk km=>kd k km (fun q=>by have:=kc k q;omega)
      have hg:w3.rowIs g 33 N f:=h0.of_block (kd g h0.lt qj)
      refine fetch_region8 (show Boxed w3 w.heap.size 127 (.pointer (some ⟨r,0,none⟩)) from (qb _ (Nat.le_refl _) (by omega)).trans hi.b2) (hi.rd.keep (kd r hi.rd.lt q3)) hg x.1 qp (by omega) q4 (by kernel_rfl) rfl rfl rfl rfl ?_
      intro w4 hj
      have h8:∀ k,k≠g→w4.heap[k]?=w3.heap[k]?:=fun k hk=>by rw [hj];exact blk_setCell_other _ _ _ _ hk
      have y6:w4.heap.size=w3.heap.size:=by rw [hj];simp [World.setCell]
      have h7:=hg.set x.1 (.slice (some ⟨w2.heap.size,0,none⟩) 44 44)
      have hh:w4.rowIs g 33 N (fun i=>if i=x.1 then .slice (some ⟨w2.heap.size,0,none⟩) 44 44 else f i):=by rw [hj];exact h7
      have ke:∀ k,w.heap.size≤k→k < X.heap.size→w4.heap[k]?=X.heap[k]?:=fun k hk km=>(h8 k (by omega)).trans (qb k hk km)
      have ha:Outside (fun k=>k=g∨k=r∨k=v∨F.has p A.n k) w w4:=by
       have h3:Outside (fun k=>k=g∨k=r∨k=v∨F.has p A.n k) w w3:=(hi.out.trans (k0.mono fun _ _ q=>.inr (.inr (.inr q)))).trans (Outside.of_all he _)
       rw [hj]
       exact (h3.trans (Outside.drew w3)).trans (Outside.setCell _ _ _ (.inl rfl))
      have kz:∃ rs,ArrAt w4 p (A.rd rs) F:=⟨_,qx.out.keep fun k hk=>by
       have:=kc k hk
       exact (h8 k (fun e=>qj (by rw [← e];exact hk))).trans (he.block k (by omega))⟩
      have hn:Kn w4 w.heap.size f0 (fun i=>if i=x.1 then .slice (some ⟨w2.heap.size,0,none⟩) 44 44 else f i) R (heL A (preM pre) ++ [x.1]):=by
       have qz:=h4.keep (w':=w4) (by omega) fun k o hk ho _=>(ke k hk (Array.getElem?_eq_some_iff.1 ho).1).trans ho
       refine ⟨fun i hy=>?_,fun i hy=>?_⟩
       · have h1:i≠x.1:=fun e=>hy (by rw [e];simp)
         show (if i=x.1 then _ else f i)=_
         rw [if_neg h1]
         exact qz.1 i (fun q=>hy (List.mem_append_left _ q))
       · show ∃ bl,(if i=x.1 then _ else f i)=_∧_
         by_cases e:i=x.1
         · rw [if_pos e,e]
           exact ⟨w2.heap.size,rfl,by omega,by omega,(h8 _ (by omega)).trans qa⟩
         · rw [if_neg e]
           rcases List.mem_append.1 hy with q | q
           · exact qz.2 i q
           · exact absurd (List.mem_singleton.1 q) e
      have H4:=hide5 hh ke ha kz hn
      have h5:=hide (hi.rd.keep ((h8 r q4).trans (kd r hi.rd.lt q3)))
      have qc:=hide (hi.vol.keep ((h8 v qk).trans (kd v hi.vol.lt hF.v)))
      have qd:X.heap.size≤w4.heap.size:=by omega
      clear h7 hh ke ha kz hn h8 hj hg kd qb he qa hi h4 h0 h6 k0 kx ky qx qy
      rename_i hK
      refine hK _ _ ?_
      clear hK
      simp only [Act.putFrom,Act.put,List.setIfInBounds_toArray,List.set_cons_succ,List.set_cons_zero]
      gi_wp2
      obtain ⟨h7,ke,ha,kz,hn⟩:=H4.out
      have hi:=HI.out.1
      have x0:=hi.size
      refine ⟨⟨qd,fun k o hk ho _=>(ke k (by omega) (Array.getElem?_eq_some_iff.1 ho).1).trans ho⟩,fun _=>hV.tab.keep (ha.block _ hV.tab.lt (fun q=>by rcases q with q | q | q | q;omega;omega;omega;exact hF.t q)),?_⟩
      exact ⟨(ke _ (Nat.le_refl _) (by omega)).trans hi.b2,by rw [preM_snoc,lsOf_ok A _ _ h9];exact h5.out,by rw [preM_snoc,lsOf_ok A _ _ h9];exact qc.out,⟨_,h7,by rw [preM_snoc,heL_ok A _ _ h9];exact hn⟩,kz,ha,by omega⟩
    · clear hi h4 h0 h6
      obtain ⟨hi,h4,h0,h6⟩:=HI.out
      have hz:=h6.below ((Below.refl _ X).drew) (Nat.le_refl _)
      refine fetch_region4 (Xv:=.nilIface) (Yv:=.iface 210 (.pointer (some ⟨X.heap.size+1,0,none⟩))) (K:=fun w2=>BeAt w2 (X.heap.size+1) x.1 b 11∧Below X.heap.size X.drew w2) x.1 (volRead_lost hz.vol hz.arr kj x.1 b qq hw h9) hi.b2 hi.rd (by kernel_rfl) rfl rfl rfl ?_
      rintro w2 ⟨x1,kn⟩
      have k8:Below X.heap.size X w2:=((Below.refl _ X).drew).trans kn
      clear hz kn
      obtain ⟨z1,xk⟩:=ta_none1
      obtain ⟨z2,xm⟩:=ta_none2
      have ko:=is_block x1 11
      rw [show ((11:Int) == 11)=true from rfl] at ko
      unfold beV at ko
      obtain ⟨e1,x2⟩:∃ e1,X.heap.size+1=e1:=⟨_,rfl⟩
      rw [x2] at ko ⊢
      have H2:=hide2 k8 ko
      clear hi h4 h0 h6 x1 k8 ko x2 c0 c1 cs c3 c4 cg c2
      rename_i hK
      refine hK _ _ ?_
      clear hK
      simp only [Act.putFrom,Act.put,List.setIfInBounds_toArray,List.set_cons_succ,List.set_cons_zero]
      gi_wp2
      refine at_round H2.out.2 ?_
      rintro e w3 ⟨rfl,ky⟩
      subst ky
      gi_wp2
      have k8:=H2.out.1
      obtain ⟨hi,h4,h0,h6⟩:=HI.out
      have xn:x.1 < 16:=(mem_mems.1 hs).1
      have k9:=hi.rd.keep (k8.block _ hi.rd.lt)
      have qe:=hi.vol.keep (k8.block _ hi.vol.lt)
      have qf:Boxed w3 w.heap.size 127 (.pointer (some ⟨r,0,none⟩)):=(k8.block _ qs).trans hi.b2
      have y7:ho|||lsOf A (preM pre) < 65536:=Nat.or_lt_two_pow (n:=16) x5 xh
      refine fetch_region13 qe qf k9 x.1 (by omega) (by omega) (by omega) (fun e=>q0 e.symm) (by kernel_rfl) rfl rfl rfl ?_
      intro w4 hj
      have ka:VolAt w4 v p D L G ps (ho|||lsOf A (preM pre)|||2^x.1):=by rw [hj];exact heap_setCell_at (j:=5) qe _
      have qg:∀ k,k≠v→w4.heap[k]?=w3.heap[k]?:=fun k hk=>by rw [hj];exact blk_setCell_other _ _ _ _ hk
      have ha:Outside (fun k=>k=v) w3 w4:=by
       rw [hj]
       exact (Outside.drew w3).trans (Outside.setCell _ _ _ rfl)
      have h5:=k9.keep (qg r (fun e=>q0 e.symm))
      have kf:Boxed w4 w.heap.size 127 (.pointer (some ⟨r,0,none⟩)):=(qg _ (by omega)).trans qf
      have H4:=hide4 ka ha h5 kf
      clear hi h4 h0 h6 k9 qe qf hj ka qg ha h5 kf
      rename_i hK
      refine hK _ _ ?_
      clear hK
      simp only [Act.putFrom,Act.put,List.setIfInBounds_toArray,List.set_cons_succ,List.set_cons_zero]
      gi_wp2
      obtain ⟨ka,ha,h5,kf⟩:=H4.out
      refine fetch_region14 kf h5 x.1 (by omega) (by omega) (by omega) (by kernel_rfl) rfl rfl rfl ?_
      intro w5 qh
      have hp:RdAt w5 r v b g N (lsOf A (preM pre)|||2^x.1) 0:=by rw [qh];exact heap_setCell_at (j:=3) h5 _
      have kp:Outside (fun k=>k=r) w4 w5:=by
       rw [qh]
       exact (Outside.drew w4).trans (Outside.setCell _ _ _ rfl)
      have H5:=hide2 hp kp
      clear h5 qh hp kp ka ha kf
      simp only [Act.putFrom,Act.put,List.setIfInBounds_toArray,List.set_cons_succ,List.set_cons_zero]
      gi_wp2
      obtain ⟨hp,kp⟩:=H5.out
      obtain ⟨ka,ha,h5,kf⟩:=H4.out
      obtain ⟨hi,h4,h0,h6⟩:=HI.out
      have qi:Outside (fun k=>k=r∨k=v) w3 w5:=(ha.mono fun _ _ q=>.inr q).trans (kp.mono fun _ _ q=>.inl q)
      have hq:Outside (fun k=>k=r∨k=v) X w5:=(Outside.of_all k8 _).trans qi
      have x3:Outside (fun k=>k=g∨k=r∨k=v∨F.has p A.n k) w w5:=hi.out.trans (hq.mono fun _ _ q=>.inr (q.elim .inl (fun q=>.inr (.inl q))))
      have x0:=hi.size
      refine ⟨⟨hq.size,fun k o hk ho _=>(hq.block k (Array.getElem?_eq_some_iff.1 ho).1 (by omega)).trans ho⟩,fun _=>hV.tab.keep (x3.block _ hV.tab.lt (fun q=>by rcases q with q | q | q | q;omega;omega;omega;exact hF.t q)),?_⟩
      refine ⟨(hq.block _ qs (by omega)).trans hi.b2,by rw [preM_snoc,lsOf_lost A _ _ h9];exact hp,by rw [preM_snoc,lsOf_lost A _ _ h9,← Nat.or_assoc];exact ka.keep (kp.block _ ka.lt (fun e=>q0 e)),⟨f,h0.of_block (hq.block _ h0.lt (fun q=>q.elim (fun e=>q4 e.symm) (fun e=>qk e.symm))),by rw [preM_snoc,heL_lost A _ _ h9];exact h4.keep hq.size fun k o hk ho _=>(hq.block k (Array.getElem?_eq_some_iff.1 ho).1 (by omega)).trans ho⟩,⟨rs,ki.keep fun k hk=>hq.block k (ki.has_lt hk) (fun q=>q.elim (fun e=>q3 (by rw [← e];exact hk)) (fun e=>hF.v (by rw [← e];exact hk)))⟩,x3,Nat.le_trans x0 hq.size⟩
 case done=>
  rintro D' xs X xo xp hi hK
  have y8:=(Array.getElem?_eq_some_iff.1 hK).1
  have kb:preM xs=mems S:=xp
  obtain ⟨f,h0,h4⟩:=hi.row
  have kr:∀ k,k < w.heap.size+1→(X.putObj D' (.deferred none)).heap[k]?=X.heap[k]?:=fun k hk=>World.putObj_heap_other (by omega)
  obtain ⟨rs,ki⟩:=hi.arr
  refine end_none Tryz.results62 rfl hK ⟨rfl,by rw [← kb];exact hi.rd.keep (kr _ (by omega)),by rw [← kb];exact hi.vol.keep (kr _ (by omega)),⟨f,h0.of_block (kr _ (by omega)),?_⟩,⟨rs,?_⟩,?_⟩
  · rw [← kb]
    refine h4.keep (by simp [World.putObj]) fun k o hk ho hc=>(World.putObj_heap_other (fun e=>?_)).trans ho
    rw [e,hK] at ho
    cases ho
    cases hc
  · exact ki.keep fun k hk=>kr k (by have:=kc k hk;omega)
  · exact hi.out.later (T:=fun k=>w.heap.size≤k) ⟨rfl,rfl,rfl,by simp [World.putObj],fun k xq xv=>kr k (by omega)⟩ (fun k xq xv=>by omega)
 case stop=>
  rintro D' cc pre X xo xx hx hK
  exact hx.elim
end
def outc:List (Int×Nat×Nat×List Nat)→List Value
 | []=>[]
 | q :: O=>[.int .i64 q.1,hdr q.2] ++ outc O
theorem outc_append:∀ O O',outc (O ++ O')=outc O ++ outc O'
 | [],_=>rfl
 | q :: O,O'=>by simp [outc,outc_append O O']
theorem outc_at:∀ (O:List (Int×Nat×Nat×List Nat)) (i:Nat) (hi:i < O.length),(outc O)[i*2]?=some (.int .i64 O[i].1)∧(outc O)[i*2+1]?=some (hdr O[i].2)
 | q :: O,0,_=>by simp [outc]
 | q :: O,i+1,hi=>by
  have:=outc_at O i (by simpa using hi)
  have e1:(i+1)*2=i*2+2:=by omega
  have e2:(i+1)*2+1=i*2+1+2:=by omega
  simp only [outc,List.getElem_cons_succ]
  refine ⟨?_,?_⟩
  · rw [e1];simpa using this.1
  · rw [e2];simpa using this.2
structure Outs (t:TypeId) (w:World) (base:Nat) (v:Value) (O:List (Int×Nat×Nat×List Nat)):Prop where
 own:w.ownsRow base t 2 v O.length (outc O)
 row:∀ q∈O,base≤q.2.1∧Brow w q.2.1 q.2.2.2∧q.2.2.1≤q.2.2.2.length∧(q.2.2.1≤140737488355328∧q.2.2.2.length≤9223372036854775807)∧∀ x∈q.2.2.2,x < 256
 nodup:(O.map (fun q=>q.2.1)).Nodup
theorem Outs.nil (t:TypeId) (w:World) (base:Nat):Outs t w base (.slice none 0 0) []:=⟨World.ownsRow_nil _ _ _ _,fun q hq=>by simp at hq,by simp⟩
theorem Outs.below {v:Value} (h:Outs t w base v O) (hb:Below w.heap.size w w'):Outs t w' base v O:=
 ⟨ownsRow_below h.own hb,fun q hq=>by obtain ⟨a,b,c⟩:=h.row q hq;exact ⟨a,b.below hb,c⟩,h.nodup⟩
theorem Outs.cases {v:Value} (h:Outs t w base v O):(O=[]∧v=.slice none 0 0)∨∃ g cap,v=.slice (some ⟨g,0,none⟩) O.length cap∧∀ i (hi:i < O.length),w.cell? ⟨g,i*2,none⟩=some (.int .i64 O[i].1)∧w.cell? ⟨g,i*2+1,none⟩=some (hdr O[i].2):=by
 rcases h.own.2 with ⟨h0,h1⟩ | ⟨g,cap,cur,e1,_⟩
 · exact .inl ⟨List.eq_nil_of_length_eq_zero h1,h0⟩
 · refine .inr ⟨g,cap,e1,fun i hi=>?_⟩
   have ho:=h.own
   rw [e1] at ho
   obtain ⟨q1,q2⟩:=outc_at O i hi
   exact ⟨by rw [ho.cellAt (i*2) (by omega)];exact q1,by rw [ho.cellAt (i*2+1) (by omega)];exact q2⟩
def bv (l:List Nat):List Value:=l.map fun x=>Value.int .u8 ((x:Nat):Int)
theorem brow_lit {m:Nat} {l:List Nat} (h:w.heap[g]?=some (.cells (((bv l).toArray) ++ Builtin.zeroCells #[.int .u8 0] m) 5 (0,0))):Brow w g (l ++ List.replicate m 0):=by
 have e:((bv l).toArray ++ Builtin.zeroCells #[.int .u8 0] m)=((l ++ List.replicate m 0).map (fun x=>Value.int .u8 ((x:Nat):Int))).toArray:=by
  apply Array.ext'
  simp [bv,Builtin.zeroCells,Nat.mod_one,List.map_const']
 rw [e] at h
 refine ⟨_,h,by simp,fun i hi=>?_⟩
 rw [List.getElem?_toArray,List.getElem?_map,List.getElem?_eq_getElem hi]
 simp [vb,List.getElem?_eq_getElem hi]
theorem wpList_app {ops:Array Oper} {rest:List Oper} {o:Oper} {a:Act} {Q:Exit→Act→World→Prop} (h1:o.guard=none) (s x:Operand) (t:TypeId) (ho:o.op=.call { callee:=.builtin .append,args:=#[s,x],argTypes:=#[t,t] })
 (vs vx v':Value) (hs:a.eval s=vs) (hx:a.eval x=vx) (h0:(Builtin.append_ #[t,t] o.type #[vs,vx]).run Tryz.prog w=.ok v' w') (h:wpList Tryz.prog ops Q rest (a.put o.dst v') w'):wpList Tryz.prog ops Q (o :: rest) a w:=by
 refine wpList_plain h1 fun K hK=>?_
 unfold Oper.wp
 simp [execOp,ho,resolve,invoke,builtin,hs,hx,h0,Result.andThen]
 exact hK _ _ h
theorem clone_some (ad:Addr) (c:Nat) (l:List Nat) (w:World) (h:Bs w (.slice (some ad) l.length c) l) (hl:l.length≤100000) :
 Calls Tryz.prog 112 #[.slice (some ad) l.length c] w fun e w'=>∃ b m,e=.returned (.slice (some ⟨b,0,none⟩) l.length (l.length+m))∧w.heap.size≤b∧Brow w' b (l ++ List.replicate m 0)∧l.length+m≤9223372036854775807∧Below w.heap.size w w':=by
 obtain ⟨i0,h6,h7,h8,h9⟩:=info_parts Tryz.infoByte
 have ha:=fun wx=>Lib.run_eql_slice_nil (P:=Tryz.prog) wx 33 5 (some ad) l.length c 0 0 Tryz.underlying33
 have h1:∀ j u,(bv l)[j]?=some u→(w.alloc (.cells #[] 5)).cell? (ad.add j)=some u:=by
  intro j u hu
  obtain ⟨ao',c',e,_,_,_,h4⟩:=h.mono ((Below.refl _ _).alloc (Nat.le_refl _) (.cells #[] 5))
  have hj:j < l.length:=by
   obtain ⟨q,_⟩:=List.getElem?_eq_some_iff.1 hu
   simpa [bv] using q
  obtain ⟨b',off',e2,hc⟩:=h4 (by intro e;rw [e] at hj;simp at hj)
  simp at e
  rw [← e.1] at e2
  simp at e2
  subst e2
  have e3:(⟨b',off',none⟩:Addr).add j=⟨b',off'+j,none⟩:=by unfold Addr.add;split <;> simp_all
  rw [e3,hc j hj,← hu]
  simp [bv,hj]
 have al:Below w.heap.size w (w.alloc (.cells #[] 5)):=(Below.refl _ _).alloc (Nat.le_refl _) _
 by_cases h0:l.length=0
 · have he:l=[]:=List.eq_nil_of_length_eq_zero h0
   subst he
   clear h h1
   go_enter Tryz.func112,Tryz.ntmps112
   simp only [List.length_nil] at ha
   go_wp2
   go_ret
   exact ⟨w.heap.size,0,rfl,Nat.le_refl _,⟨#[],heap_alloc_last w _,rfl,fun i hi=>by simp at hi⟩,by omega,al⟩
 · have h2:=run_append_grow (P:=Tryz.prog) (w:=w.alloc (.cells #[] 5)) 33 33 5 i0 (.int .u8 0) Tryz.underlying33 h6 h7 ⟨w.heap.size,0,none⟩ 0 0 [] (by simp) (fun j v hv=>by simp at hv) ad l.length c (bv l) (by rw [h8];simp [bv]) h1 (by omega) (by omega) (by rw [h9];have:=growslice_fits (need:=0+l.length) (old:=0) (bytes:=1) (by omega) (by omega);omega)
   obtain ⟨cp,hh,hf,h3⟩:∃ cp,l.length≤cp∧cp≤9223372036854775807∧(Builtin.append_ #[33,33] 33 #[.slice (some ⟨w.heap.size,0,none⟩) 0 0,.slice (some ad) l.length c]).run Tryz.prog (w.alloc (.cells #[] 5))=.ok (.slice (some ⟨w.heap.size+1,0,none⟩) l.length cp) ((w.alloc (.cells #[] 5)).drew.alloc (.cells ((bv l).toArray ++ Builtin.zeroCells #[.int .u8 0] (cp - l.length)) 5)):=by
    refine ⟨grownCap (w.alloc (.cells #[] 5)) (0+l.length) 0 5,by have:=grownCap_ge (w.alloc (.cells #[] 5)) (0+l.length) 0 5;omega,by have:=grownCap_le_maxLen (w.alloc (.cells #[] 5)) (0+l.length) 0 5 (by unfold maxLen;omega);unfold maxLen at this;omega,?_⟩
    rw [h2,nblk_alloc]
    simp [Value.cells]
   obtain ⟨m,rfl⟩:∃ m,cp=l.length+m:=⟨cp - l.length,by omega⟩
   rw [Nat.add_sub_cancel_left] at h3
   have h5:=hide h3
   clear h3 h2 h1 h
   go_enter Tryz.func112,Tryz.ntmps112
   go_wp2_with (at_builtin;refine wpList_app rfl (.tmp 5) (.tmp 6) 33 rfl _ _ _ rfl rfl h5.out ?_)
   go_ret
   have hg:Brow ((w.alloc (.cells #[] 5)).drew.alloc (.cells ((bv l).toArray ++ Builtin.zeroCells #[.int .u8 0] m) 5)) (w.heap.size+1) (l ++ List.replicate m 0):=by
    refine brow_lit ?_
    have:=heap_alloc_last (w.alloc (.cells #[] 5)).drew (.cells ((bv l).toArray ++ Builtin.zeroCells #[.int .u8 0] m) 5)
    rwa [show (w.alloc (.cells #[] 5)).drew.heap.size=w.heap.size+1 from nblk_alloc _ _] at this
   exact ⟨w.heap.size+1,m,rfl,by omega,hg,hf,((show Below w.heap.size w (w.alloc (.cells #[] 5)).drew from ⟨al.os,al.tape,al.output,al.size,al.block⟩).alloc (show w.heap.size≤(w.alloc _).heap.size by rw [nblk_alloc];omega) _)⟩
section
open Gf
def stAt (P:List St) (k:Nat):St:=P.getD k ⟨3,0,0,0⟩
theorem stAt_get (P:List St) (k:Nat) (h:k < P.length):stAt P k=P[k]:=by simp [stAt,h]
def fl (P:List St) (D:List (List Nat)):Nat→Option Nat
 | 0=>none
 | k+1=>match fl P D k with
  | some n=>some n
  | none=>if (stAt P k).k=0 then some (D.getD (stAt P k).b.toNat []).length else none
def goneB (gone i:Nat):Prop:=gone / 2^i % 2=1
def ldOk (P:List St) (D:List (List Nat)) (gone i:Nat):Prop:=(stAt P i).k=0→¬ goneB gone (stAt P i).b.toNat∧fl P D (i+1)=some (D.getD (stAt P i).b.toNat []).length∧(D.getD (stAt P i).b.toNat []).length≤4096
def ldsOk (P:List St) (D:List (List Nat)) (gone:Nat):Prop:=∀ i,i < P.length→ldOk P D gone i
def runLen (P:List St) (D:List (List Nat)):Nat:=(fl P D P.length).getD 0
theorem fl_some (P:List St) (D:List (List Nat)) (k n:Nat) (h:fl P D k=some n):fl P D (k+1)=some n:=by simp [fl,h]
theorem fl_load (P:List St) (D:List (List Nat)) (k:Nat) (h:fl P D k=none) (hk:(stAt P k).k=0):fl P D (k+1)=some (D.getD (stAt P k).b.toNat []).length:=by simp [fl,h,hk]
theorem fl_other (P:List St) (D:List (List Nat)) (k:Nat) (hk:(stAt P k).k≠0):fl P D (k+1)=fl P D k:=by
 cases h:fl P D k <;> simp [fl,h,hk]
theorem fl_mono (P:List St) (D:List (List Nat)) (k n:Nat) (h:fl P D k=some n):∀ m,k≤m→fl P D m=some n:=by
 intro m hm
 induction m with
 | zero => have:k=0:=by omega
           subst this;exact h
 | succ m ih=>
  by_cases e:k=m+1
  · subst e;exact h
  · exact fl_some P D m n (ih (by omega))
theorem ld_len {D:List (List Nat)} (h:ldsOk P D gone) (i:Nat) (hi:i < P.length) (hk:(stAt P i).k=0):(D.getD (stAt P i).b.toNat []).length=runLen P D:=by
 have:=(h i hi hk).2.1
 have:=fl_mono P D (i+1) _ this P.length (by omega)
 simp [runLen,this]
theorem fl_le {D:List (List Nat)} (h:ldsOk P D gone):∀ k,k≤P.length→∀ n,fl P D k=some n→n≤4096
 | 0,_,n,e=>by simp [fl] at e
 | k+1,hk,n,e=>by
  cases hf:fl P D k with
  | some m=>
   have:=fl_le h k (by omega) m hf
   rw [fl_some P D k m hf] at e
   simp at e;omega
  | none=>
   by_cases h0:(stAt P k).k=0
   · have q:=(h k (by omega) h0)
     rw [q.2.1] at e
     have:=Option.some.inj e
     omega
   · rw [fl_other P D k h0,hf] at e
     simp at e
theorem runLen_le {D:List (List Nat)} (h:ldsOk P D gone):runLen P D≤4096:=by
 unfold runLen
 cases hf:fl P D P.length with
 | none=>simp
 | some n=>exact fl_le h P.length (Nat.le_refl _) n hf
def addRow (x y:List Nat) (c:Nat):List Nat:=(List.range x.length).map fun j=>x.getD j 0^^^gm c (y.getD j 0)
def regStep (D:List (List Nat)) (s:St) (R:List (List Nat)):List (List Nat):=
 if s.k=0 then R.set s.a.toNat (D.getD s.b.toNat []) else if s.k=1 then R.set s.a.toNat (addRow (R.getD s.a.toNat []) (R.getD s.b.toNat []) s.c) else R
def outStep (s:St) (R:List (List Nat)) (O:List (Int×List Nat)):List (Int×List Nat):=if s.k=2 then O ++ [(s.b,R.getD s.a.toNat [])] else O
def regTo (P:List St) (D:List (List Nat)) (R0:List (List Nat)):Nat→List (List Nat)
 | 0=>R0
 | k+1=>regStep D (stAt P k) (regTo P D R0 k)
def outTo (P:List St) (D:List (List Nat)) (R0:List (List Nat)):Nat→List (Int×List Nat)
 | 0=>[]
 | k+1=>outStep (stAt P k) (regTo P D R0 k) (outTo P D R0 k)
def regs0 (r n:Nat):List (List Nat):=List.replicate r (List.replicate n 0)
def In (w:World) (b:Nat) (D:List (List Nat)) (gone:Nat):Prop:=∀ i (hi:i < D.length),(goneB gone i→w.cell? ⟨b,i,none⟩=some (.slice none 0 0))∧(¬ goneB gone i→∃ a c,w.cell? ⟨b,i,none⟩=some (.slice (some a) (D[i]).length c)∧Bs w (.slice (some a) (D[i]).length c) D[i])
theorem In.mono {D:List (List Nat)} (h:In w b D gone) (hb:Below w.heap.size w w'):In w' b D gone:=fun i hi=>by
 obtain ⟨h1,h2⟩:=h i hi
 refine ⟨fun hg=>by have:=h1 hg;rw [hb.cell (block_lt_of_cell this)];exact this,fun hg=>?_⟩
 obtain ⟨a,c,e,hB⟩:=h2 hg
 exact ⟨a,c,by rw [hb.cell (block_lt_of_cell e)];exact e,hB.mono hb⟩
end
section
open Gf
theorem regs0_succ (k n:Nat):regs0 (k+1) n=regs0 k n ++ [List.replicate n 0]:=by
 unfold regs0
 rw [List.replicate_succ']
def MkR (w:World) (B g r n:Nat) (i:Value) (wr:World):Prop:=
 ∃ k T,k≤r∧i=.int .i64 (k:Nat)∧Part wr B g r T∧Holds T n (regs0 k n)∧Below B w wr∧B≤wr.heap.size
def MkPost (r n:Nat) (w:World) (e:Ending) (w':World):Prop:=∃ g T,e=.returned (.slice (some ⟨g,0,none⟩) r r)∧Tab w' w.heap.size (.slice (some ⟨g,0,none⟩) r r) T∧Holds T n (regs0 r n)∧Below w.heap.size w w'
theorem holds_len {T:List (Nat×Nat×List Nat)} {M:List (List Nat)} (h:Holds T D M):T.length=M.length:=by simpa using congrArg List.length h
theorem makeRegs_any (r n:Nat) (w:World) (hr:r≤32) (hn:n≤4096) :
 Calls Tryz.prog 110 #[.int .i64 r,.int .i64 n] w fun e w'=>MkPost r n w e w':=by
 go_enter Tryz.func110,Tryz.ntmps110
 go_wp2_with (at_make;refine wpList_mkRows _ rfl (.tmp 7) (.tmp 7) rfl _ r rfl rfl rfl (by omega) ?_;intro wc h0 h1 hz;clear hz)
 have h4:Part wc w.heap.size w.heap.size r []:=⟨h0.congr (fun i _=>by simp [shv]),fun p hp=>by simp at hp,by simp⟩
 have h5:=h1.size
 clear h0
 go_loopw [11] (fun i wr=>MkR w w.heap.size w.heap.size r n i wr) (fun i _=>r - (intOf i).toNat)
 case atStart=>exact ⟨0,[],Nat.zero_le _,rfl,h4,rfl,h1,h5⟩
 case round=>
  clear h4 h1 h5
  rename World=>wo
  obtain ⟨k,T,hk,rfl,hP,hH,h6,h9⟩:=hrel
  have h2:=holds_len hH
  have ha:T.length=k:=by rw [h2];simp [regs0]
  by_cases hc:k < r
  · have HH:=hide hH
    have hf:=hide h2
    clear hH h2
    go_wp2_with (at_make;refine wpList_mk _ rfl (.tmp 16) (.tmp 16) rfl _ n rfl rfl rfl (by omega) ?_;intro w2 hB h7 hg
                 have h3:=hP.below h7
                 have hi:=h3.tab.cell (i:=k) hc
                 have hj:=h3.tab.frozen k)
    have h8:=h3.push (b:=wo.heap.size) (n:=n) (l:=List.replicate n 0) (by omega) hB (by simp) (by simp;omega) (by intro x hx;have:=List.eq_of_mem_replicate hx;omega) (fun p hp e=>by have:=(hP.row p hp).2.1.lt;omega)
    rw [ha,List.length_replicate] at h8
    refine ⟨⟨k+1,_,by omega,by go_num,h8,?_,(h6.trans (h7.mono h9)).setCell (by simp) _,by simp;omega⟩,by simp [intOf];omega⟩
    have hh:=HH.out
    unfold Holds at hh ⊢
    rw [regs0_succ,List.map_append,List.map_append,hh]
    rfl
  · have he:k=r:=by omega
    subst he
    have hT:=hP.done (by omega) (Nat.le_refl _) (by unfold maxLen;omega)
    have HT:=hide hT
    have HH:=hide hH
    clear hT hH
    go_wp2
    go_ret
    exact ⟨_,T,rfl,HT.out,HH.out,h6⟩
end
end Go.Proofs.YthcgahldacpolaaGreatDoor
