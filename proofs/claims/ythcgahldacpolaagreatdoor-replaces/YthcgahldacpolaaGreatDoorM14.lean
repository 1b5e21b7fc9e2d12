import Derived.Test.YthcgahldacpolaaGreatDoorM13
import Derived.Defers
import Derived.Recover
set_option maxRecDepth 100000
set_option maxHeartbeats 8000000
namespace Go.Proofs.YthcgahldacpolaaGreatDoor
open Go.RowKit Go.Deep
variable {a:Act} {A:Arr} {ops:Array Oper} {Q:Exit→Act→World→Prop} {F:Foot} {R:List (List Nat)} {g p b v D L G ps ho:Nat} {w:World}
section
open Go.Shelf Gf
attribute [local go_sem] Oper.semAt_some
def Rws (w:World) (base g:Nat) (R:List (List Nat)):Prop:=base≤g∧g < w.heap.size∧∀ i (hi:i < R.length),∃ b off c,w.cell? ⟨g,i,none⟩=some (.slice (some ⟨b,off,none⟩) 44 c)∧base≤b∧b < w.heap.size∧w.rangeAt b off (bts R[i])∧R[i].length=44∧∀ x∈R[i],x < 256
theorem Rws.keep {w':World} {base:Nat} (h:Rws w base g R) (hz:w.heap.size≤w'.heap.size) (hk:∀ k,base≤k→k < w.heap.size→w'.heap[k]?=w.heap[k]?):Rws w' base g R:=by
 obtain ⟨h1,h2,h3⟩:=h
 refine ⟨h1,Nat.lt_of_lt_of_le h2 hz,fun i hi=>?_⟩
 obtain ⟨b,off,c,q1,q2,q3,q4,q5⟩:=h3 i hi
 exact ⟨b,off,c,(World.cell?_of_block (hk g h1 h2)).trans q1,q2,Nat.lt_of_lt_of_le q3 hz,fun j v hv=>(World.cell?_of_block (hk b q2 q3)).trans (q4 j v hv),q5⟩
noncomputable def RWs:Array Oper:=((Tryz.f50.body.bind (rgf · 3))).getD #[]
def shWs:List (Op×Option Nat×List Nat):=[(Op.load 91 (.tmp 4),some 13,[]),
 (Op.move (.tmp 9),some 14,[]),
 (Op.load 3 (.tmp 5),some 15,[]),
 (Op.load 57 (.tmp 6),some 16,[]),
 (Op.move (.tmp 9),some 17,[]),
 (Op.indexAddr 57 (.tmp 16) (.tmp 17),some 18,[3,4]),
 (Op.load 33 (.tmp 18),some 19,[5]),
 (Op.sliceToArrayPointer 160 (.tmp 19),some 20,[6]),
 (Op.load 160 (.tmp 20),some 21,[7]),
 (Op.build 162 #[(0,.tmp 21)],some 22,[8]),
 (Op.makeInterface 162 (.tmp 22),some 23,[9]),
 (Op.call { callee:=Callee.value (Operand.func 67),args:=#[.tmp 13,.tmp 14,.tmp 15,.tmp 23],argTypes:=#[91,3,3,164] },some 24,[0,1,2,10]),
 (Op.binOp BinOp.neq 29 (.tmp 24) (Operand.const Value.nilIface) 29,some 25,[11])]
theorem RWs_shape:RegShape RWs 13 26 shWs:=regShape (by kernel_rfl) (by kernel_rfl)
def vsWs (v g m c bl off rc x b:Nat) (l:List Nat):List Value:=[.pointer (some ⟨v,0,none⟩),.int .i64 x,.int .i64 b,.slice (some ⟨g,0,none⟩) m c,.int .i64 x,.pointer (some ⟨g,x,none⟩),.slice (some ⟨bl,off,none⟩) 44 rc,.pointer (some ⟨bl,off,none⟩),.agg (bts l).toArray,.agg (bts l).toArray,recV (.shard l),.nilIface,.bool false]
def arWs (A:Arr) (d b:Nat) (r:Rec) (D:Nat→Bool):Arr:=if D 11=true then (A.setBlk d b r.blk).setBad d b false else A
def BWs (w0:World) (p:Nat) (A:Arr) (F:Foot) (d b:Nat) (r:Rec) (Dn:Nat→Bool) (w:World):Prop:=ArrAt w p (arWs A d b r Dn) F∧Outside (F.has p A.n) w0 w
theorem BWs_upd {w0:World} {d:Nat} {r:Rec} {Dn:Nat→Bool} (h:BWs w0 p A F d b r Dn w) (i:Nat) (hi:i≠11):BWs w0 p A F d b r (upd Dn i) w:=by
 refine ⟨?_,h.2⟩
 have e:arWs A d b r (upd Dn i)=arWs A d b r Dn:=by unfold arWs upd;rw [if_neg (fun e:11=i=>hi e.symm)]
 rw [e];exact h.1
theorem writeShards_region {l n:Nat} (ha:RWs=ops) (hV:Vol w v p D L G ps ho A F) (hF:Free F p A.n v) (hf:A.fit) (x b:Nat) (hx:x < A.n) (hb:b < A.nb) (hw:A.wait < 0) (hl:A.lost x=false)
 {q4 q5 q6 g m c:Nat} (h4:Boxed w q4 91 (.pointer (some ⟨v,0,none⟩))) (h5:Boxed w q5 3 (.int .i64 b)) (h6:Boxed w q6 57 (.slice (some ⟨g,0,none⟩) m c)) {base:Nat} {R:List (List Nat)} (hR:Rws w base g R) (hh:x < R.length) (hm:R.length≤m)
 (hn:∀ k,F.has p A.n k→k < base∧k≠q4∧k≠q5∧k≠q6) (kk:a.tmps.size=30)
 (e4:a.eval (.tmp 4)=.pointer (some ⟨q4,0,none⟩)) (e5:a.eval (.tmp 5)=.pointer (some ⟨q5,0,none⟩)) (e6:a.eval (.tmp 6)=.pointer (some ⟨q6,0,none⟩)) (e9:a.eval (.tmp 9)=.int .i64 x)
 (hQ:∀ (w':World) (vs:List Value),vs.length=12→ArrAt w' p ((A.setBlk x b (Rec.shard (R.getD x [])).blk).setBad x b false) F→Outside (F.has p A.n) w w'→Q .normal (Act.putFrom a 13 (vs ++ [.bool false])) w') :
 (Code.region 3 ops true).wpIn (Fence.wide.inRound l) n Tryz.prog Q a w:=by
 subst ha
 obtain ⟨k7,k8,h8⟩:=hR
 obtain ⟨bl,off,rc,k9,ka,kb,hj,h9,hp⟩:=h8 x hh
 have kc:R.getD x []=R[x]:=by simp [hh]
 rw [kc] at hQ
 obtain ⟨s,hs⟩:∃ s,R[x]=s:=⟨_,rfl⟩
 rw [hs] at hj h9 hp hQ
 have hq:(Rec.shard s).ok:=⟨h9,hp⟩
 have hy:∀ w',Outside (F.has p A.n) w w'→∀ k,k < w.heap.size→¬ F.has p A.n k→w'.heap[k]?=w.heap[k]?:=fun w' hO k hk kd=>hO.block k hk kd
 have k0:∀ k,base≤k→¬ F.has p A.n k:=fun k hk q=>by have:=(hn k q).1;omega
 have k5:(bts s).toArray.size=44:=by rw [List.size_toArray,bts_len,h9]
 refine region_factsI (by kernel_rfl) RWs_shape a w (by omega) (fun i u _=>u=(vsWs v g m c bl off rc x b s).getD i undef) (BWs w p A F x b (.shard s)) ⟨hV.arr.keep fun _ _=>rfl,Outside.drew w⟩ ?_ ?_
 · intro i hi
   match i,hi with
   | 0,_=>
    intro o a' w' Dn hg ho h0 hk h3 h7 h1 hB h2
    have u0:a'.eval (.tmp 4)=.pointer (some ⟨q4,0,none⟩):=(hk.slot 4 (by omega)).trans e4
    have cc:=(show Boxed w' q4 91 (.pointer (some ⟨v,0,none⟩)) from (hB.2.block _ h4.lt (fun q=>(hn _ q).2.1 rfl)).trans h4).cell
    exact opI_val (v:=.pointer (some ⟨v,0,none⟩)) (by simp only [execOp,show o.op=Op.load 91 (.tmp 4) from ho,u0];go_simp) (by rw [ho];intro c h;cases h) h0 ⟨BWs_upd hB _ (by decide),rfl,kq⟩
   | 1,_=>exact fun o a' w' Dn hg ho h0 hk h3 h7 h1 hB h2=>opI_val (run_op_move ho ((hk.slot 9 (by omega)).trans e9) w') (by rw [ho];intro c h;cases h) h0 ⟨BWs_upd hB _ (by decide),rfl,kq⟩
   | 2,_=>
    intro o a' w' Dn hg ho h0 hk h3 h7 h1 hB h2
    have u0:a'.eval (.tmp 5)=.pointer (some ⟨q5,0,none⟩):=(hk.slot 5 (by omega)).trans e5
    have cc:=(show Boxed w' q5 3 (.int .i64 b) from (hB.2.block _ h5.lt (fun q=>(hn _ q).2.2.1 rfl)).trans h5).cell
    exact opI_val (v:=.int .i64 b) (by simp only [execOp,show o.op=Op.load 3 (.tmp 5) from ho,u0];go_simp) (by rw [ho];intro c h;cases h) h0 ⟨BWs_upd hB _ (by decide),rfl,kq⟩
   | 3,_=>
    intro o a' w' Dn hg ho h0 hk h3 h7 h1 hB h2
    have u0:a'.eval (.tmp 6)=.pointer (some ⟨q6,0,none⟩):=(hk.slot 6 (by omega)).trans e6
    have cc:=(show Boxed w' q6 57 (.slice (some ⟨g,0,none⟩) m c) from (hB.2.block _ h6.lt (fun q=>(hn _ q).2.2.2 rfl)).trans h6).cell
    exact opI_val (v:=.slice (some ⟨g,0,none⟩) m c) (by simp only [execOp,show o.op=Op.load 57 (.tmp 6) from ho,u0];go_simp) (by rw [ho];intro c h;cases h) h0 ⟨BWs_upd hB _ (by decide),rfl,kq⟩
   | 4,_=>exact fun o a' w' Dn hg ho h0 hk h3 h7 h1 hB h2=>opI_val (run_op_move ho ((hk.slot 9 (by omega)).trans e9) w') (by rw [ho];intro c h;cases h) h0 ⟨BWs_upd hB _ (by decide),rfl,kq⟩
   | 5,_=>
    intro o a' w' Dn hg ho h0 hk h3 h7 h1 hB h2
    have u0:a'.eval (.tmp 16)=.slice (some ⟨g,0,none⟩) m c:=h2 3 (h1 3 (by decide))
    have u1:a'.eval (.tmp 17)=.int .i64 x:=h2 4 (h1 4 (by decide))
    have km:x < m:=by omega
    exact opI_val (v:=.pointer (some ⟨g,x,none⟩)) (by simp only [execOp,show o.op=Op.indexAddr 57 (.tmp 16) (.tmp 17) from ho,u0,u1];go_simp) (by rw [ho];intro c h;cases h) h0 ⟨BWs_upd hB _ (by decide),rfl,kq⟩
   | 6,_=>
    intro o a' w' Dn hg ho h0 hk h3 h7 h1 hB h2
    have u0:a'.eval (.tmp 18)=.pointer (some ⟨g,x,none⟩):=h2 5 (h1 5 (by decide))
    have cc:w'.cell? ⟨g,x,none⟩=some (.slice (some ⟨bl,off,none⟩) 44 rc):=(World.cell?_of_block (hB.2.block g k8 (k0 g k7))).trans k9
    exact opI_val (v:=.slice (some ⟨bl,off,none⟩) 44 rc) (by simp only [execOp,show o.op=Op.load 33 (.tmp 18) from ho,u0];go_simp) (by rw [ho];intro c h;cases h) h0 ⟨BWs_upd hB _ (by decide),rfl,kq⟩
   | 7,_=>
    intro o a' w' Dn hg ho h0 hk h3 h7 h1 hB h2
    have u0:a'.eval (.tmp 19)=.slice (some ⟨bl,off,none⟩) 44 rc:=h2 6 (h1 6 (by decide))
    have ke:(Instr.arrayAt 160 (.slice (some ⟨bl,off,none⟩) 44 rc)).run Tryz.prog w'=.ok (.pointer (some ⟨bl,off,none⟩)) w':=by simp [Instr.arrayAt,run_underlying Tryz.underlying160]
    exact opI_val (v:=.pointer (some ⟨bl,off,none⟩)) (by simp [execOp,show o.op=Op.sliceToArrayPointer 160 (.tmp 19) from ho,u0,ke]) (by rw [ho];intro c h;cases h) h0 ⟨BWs_upd hB _ (by decide),rfl,kq⟩
   | 8,_=>
    intro o a' w' Dn hg ho h0 hk h3 h7 h1 hB h2
    have u0:a'.eval (.tmp 20)=.pointer (some ⟨bl,off,none⟩):=h2 7 (h1 7 (by decide))
    have hr:w'.rangeAt bl off (bts s):=fun j u hu=>(World.cell?_of_block (hB.2.block bl kb (k0 bl ka))).trans (hj j u hu)
    have kf:=run_loadAt_mid (P:=Tryz.prog) w' bl off 160 (bts s) _ hr Tryz.underlying160 rfl (by rw [bts_len,h9];kernel_rfl)
    exact opI_val (v:=.agg (bts s).toArray) (by simp [execOp,show o.op=Op.load 160 (.tmp 20) from ho,u0,kf]) (by rw [ho];intro c h;cases h) h0 ⟨BWs_upd hB _ (by decide),rfl,kq⟩
   | 9,_=>
    intro o a' w' Dn hg ho h0 hk h3 h7 h1 hB h2
    have u0:a'.eval (.tmp 21)=.agg (bts s).toArray:=h2 8 (h1 8 (by decide))
    have kg:∀ z:Array Value,z.size=44→Array.foldl (fun cs x=>cs.setIfInBounds x.snd x.fst) z (bts s).toArray.zipIdx 0 44=(bts s).toArray:=fun z hz=>build_one z _ 44 hz k5
    obtain ⟨sa,hc⟩:∃ sa,(bts s).toArray=sa:=⟨_,rfl⟩
    refine opI_val (v:=.agg (bts s).toArray) ?_ (by rw [ho];intro c h;cases h) h0 ⟨BWs_upd hB _ (by decide),rfl,kq⟩
    rw [hc] at u0 kg k5 ⊢
    simp only [execOp,show o.op=Op.build 162 #[(0,.tmp 21)] from ho,List.map_toArray,List.map_cons,List.map_nil,u0]
    go_simp
   | 10,_=>
    intro o a' w' Dn hg ho h0 hk h3 h7 h1 hB h2
    have u0:a'.eval (.tmp 22)=.agg (bts s).toArray:=h2 9 (h1 9 (by decide))
    exact opI_val (v:=recV (.shard s)) (by simp only [execOp,show o.op=Op.makeInterface 162 (.tmp 22) from ho,u0,recV];go_simp) (by rw [ho];intro c h;cases h) h0 ⟨BWs_upd hB _ (by decide),rfl,kq⟩
   | 11,_=>
    intro o a' w' Dn kn ho h0 hk h3 h7 h1 hB h2
    have u0:a'.eval (.tmp 13)=.pointer (some ⟨v,0,none⟩):=h2 0 (h1 0 (by decide))
    have u1:a'.eval (.tmp 14)=.int .i64 x:=h2 1 (h1 1 (by decide))
    have u2:a'.eval (.tmp 15)=.int .i64 b:=h2 2 (h1 2 (by decide))
    have u3:a'.eval (.tmp 23)=recV (.shard s):=h2 10 (h1 10 (by decide))
    have hA:ArrAt w' p A F:=by have:=hB.1;unfold arWs at this;rw [if_neg (by rw [h3];decide)] at this;exact this
    have k6:=hV.turn hF hB.2 hA
    refine opI_call (f:=67) (args:=#[.pointer (some ⟨v,0,none⟩),.int .i64 x,.int .i64 b,recV (.shard s)]) (w1:=w') (by simp only [execOp,show o.op=Op.call { callee:=Callee.value (Operand.func 67),args:=#[.tmp 13,.tmp 14,.tmp 15,.tmp 23],argTypes:=#[91,3,3,164] } from ho];go_simp;exact ⟨by simpa [Act.eval] using u0,by simpa [Act.eval] using u1,by simpa [Act.eval] using u2,by simpa [Act.eval] using u3⟩) (by rw [ho];intro c h;cases h) h0 (volWrite_ok k6.vol hA hf x b hx hb hw hl (.shard s) hq (makes_shard hq) k6.laid hF.g hF.v) ?_
    rintro e w'' ⟨rfl,kh,ki⟩
    refine ⟨_,rfl,⟨?_,hB.2.trans ki⟩,rfl,kq⟩
    have e:arWs A x b (.shard s) (upd Dn 11)=(A.setBlk x b (Rec.shard s).blk).setBad x b false:=by unfold arWs upd;rw [if_pos (by rw [if_pos rfl])]
    rw [e];exact kh
   | 12,_=>
    intro o a' w' Dn hg ho h0 hk h3 h7 h1 hB h2
    have u0:a'.eval (.tmp 24)=.nilIface:=h2 11 (h1 11 (by decide))
    exact opI_val (v:=.bool false) (by simp only [execOp,show o.op=Op.binOp BinOp.neq 29 (.tmp 24) (Operand.const Value.nilIface) 29 from ho,u0];go_simp) (by rw [ho];intro c h;cases h) h0 ⟨BWs_upd hB _ (by decide),rfl,kq⟩
   | n+13,hn=>exact absurd hn (by show ¬ n+13 < 13;omega)
 · rintro a' w' kj _ ⟨Dn,hD,hB⟩ h2
   have e:arWs A x b (.shard s) Dn=(A.setBlk x b (Rec.shard s).blk).setBad x b false:=by unfold arWs;rw [if_pos (hD 11 (by decide))]
   have hA:=hB.1
   rw [e] at hA
   have e:a'=Act.putFrom a 13 (((List.range 12).map fun i=>a'.eval (.tmp (13+i))) ++ [.bool false]):=kj.out _ (by simp) (by omega) (fun i hi=>by
    simp at hi
    by_cases he:i=12
    · subst he
      have:=h2 12 (by decide)
      simpa [slotD,shAt,shWs,vsWs] using this
    · rw [List.getD_eq_getElem?_getD,List.getElem?_append_left (by simp;omega),List.getElem?_map,List.getElem?_range (by omega)];rfl)
   rw [e]
   exact hQ w' _ (by rw [List.length_map,List.length_range]) hA hB.2
theorem list12 {vs:List Value} (h:vs.length=12):∃ x0 x1 x2 x3 x4 x5 x6 x7 x8 x9 xa xb,vs=[x0,x1,x2,x3,x4,x5,x6,x7,x8,x9,xa,xb]:=by
 match vs,h with
 | [x0,x1,x2,x3,x4,x5,x6,x7,x8,x9,xa,xb],_=>exact ⟨x0,x1,x2,x3,x4,x5,x6,x7,x8,x9,xa,xb,rfl⟩
structure WsI (w:World) (v p b g m c:Nat) (R:List (List Nat)) (A:Arr) (F:Foot) (B S:Nat) (pre:List (Mb S)) (X:World):Prop where
 b0:Boxed X w.heap.size 91 (.pointer (some ⟨v,0,none⟩))
 b1:Boxed X (w.heap.size+1) 3 (.int .i64 b)
 b2:Boxed X (w.heap.size+1+1) 57 (.slice (some ⟨g,0,none⟩) m c)
 b3:Boxed X (w.heap.size+1+1+1) 101 (.int .u64 0)
 arr:ArrAt X p (A.putAt (preM pre) b (fun i=>(Rec.shard (R.getD i [])).blk)) F
 out:Outside (F.has p A.n) w X
 size:B≤X.heap.size
theorem WsI.own {m c:Nat} {B S:Nat} (hB:w.heap.size+4≤B) (hF:∀ k,F.has p A.n k→k < w.heap.size):OwnFrom B (WsI w v p b g m c R A F B S):=by
 rintro pre X Y row ⟨h0,h1,h2,h3,h4,h5,h6⟩ hg hr
 have hk:∀ k,k < w.heap.size+4→Y.heap[k]?=X.heap[k]?:=fun k hk=>hg.block k (by omega) (fun e=>by have:=(hr k e.symm).1;omega)
 have hO:Outside (F.has p A.n) w Y:=h5.later (T:=fun k=>w.heap.size≤k) ⟨hg.os,hg.tape,hg.output,hg.size,fun k h7 h8=>hk k (by omega)⟩ (fun k h7 h8=>by omega)
 exact ⟨(hk _ (by omega)).trans h0,(hk _ (by omega)).trans h1,(hk _ (by omega)).trans h2,(hk _ (by omega)).trans h3,h4.keep fun k h9=>hk k (by have:=hF k h9;omega),hO,Nat.le_trans h6 hg.size⟩
theorem writeShards_ok (hV:Vol w v p D L G ps ho A F) (hF:Free F p A.n v) (hf:A.fit) (b S:Nat) (hb:b < A.nb) (hS:S < 65536) (kb:∀ i,i∈mems S→i < A.n) (hw:A.wait < 0) (hl:∀ i,i∈mems S→A.lost i=false)
 {g m c base:Nat} {R:List (List Nat)} (hR:Rws w base g R) (hy:∀ i,i∈mems S→i < R.length) (hm:R.length≤m) (h5:∀ k,F.has p A.n k→k < base) :
 Calls Tryz.prog 50 #[.pointer (some ⟨v,0,none⟩),.int .i64 b,.slice (some ⟨g,0,none⟩) m c,.int .u64 S] w fun e w'=>e=.returned (.int .u64 0)∧ArrAt w' p (A.putAt (mems S) b (fun i=>(Rec.shard (R.getD i [])).blk)) F∧Outside (F.has p A.n) w w':=by
 obtain ⟨n,HN⟩:∃ n:Nat,Hid (9≤n):=⟨9,Nat.le_refl _⟩
 have hg:∀ k,F.has p A.n k→k < w.heap.size:=fun k hk=>hV.arr.has_lt hk
 have h9:∀ i,i∈mems S→(Rec.shard (R.getD i [])).ok:=fun i hi=>by
  have hz:=hy i hi
  obtain ⟨_,_,_,_,_,_,_,q1,q2⟩:=hR.2.2 i hz
  have e:R.getD i []=R[i]:=by simp [hz]
  rw [e];exact ⟨q1,q2⟩
 refine (callsIn_wide (n:=n)).1 ?_
 refine callsIn_of_wp_marks Tryz.func50 rfl trivial ?_ rfl
 simp only [Tryz.ntmps50,List.size_toArray,List.length_cons,List.length_nil,Nat.reduceAdd,Nat.reduceSub,Array.replicate_succ,Array.replicate_zero,List.push_toArray,List.append_toArray,List.nil_append,List.cons_append]
 gi_wp2
 obtain ⟨w4,h6⟩:∃ w4,(((w.alloc (.cells #[.pointer (some ⟨v,0,none⟩)] 91)).alloc (.cells #[.int .i64 (b:Int)] 3)).alloc (.cells #[.slice (some ⟨g,0,none⟩) m c] 57)).alloc (.cells #[.int .u64 0] 101)=w4:=⟨_,rfl⟩
 have h0:Boxed w4 w.heap.size 91 (.pointer (some ⟨v,0,none⟩)):=by rw [← h6];exact (((Boxed.new w _ _).alloc _).alloc _).alloc _
 have h1:Boxed w4 (w.heap.size+1) 3 (.int .i64 b):=by
  rw [← h6]
  have:=Boxed.new (w.alloc (.cells #[.pointer (some ⟨v,0,none⟩)] 91)) 3 (.int .i64 b)
  rw [World.size_alloc] at this
  exact (this.alloc _).alloc _
 have h2:Boxed w4 (w.heap.size+1+1) 57 (.slice (some ⟨g,0,none⟩) m c):=by
  rw [← h6]
  have:=Boxed.new ((w.alloc (.cells #[.pointer (some ⟨v,0,none⟩)] 91)).alloc (.cells #[.int .i64 (b:Int)] 3)) 57 (.slice (some ⟨g,0,none⟩) m c)
  rw [World.size_alloc,World.size_alloc] at this
  exact this.alloc _
 have h3:Boxed w4 (w.heap.size+1+1+1) 101 (.int .u64 0):=by
  rw [← h6]
  have:=Boxed.new (((w.alloc (.cells #[.pointer (some ⟨v,0,none⟩)] 91)).alloc (.cells #[.int .i64 (b:Int)] 3)).alloc (.cells #[.slice (some ⟨g,0,none⟩) m c] 57)) 101 (.int .u64 0)
  rw [World.size_alloc,World.size_alloc,World.size_alloc] at this
  exact this
 have hn:w4.heap.size=w.heap.size+4:=by rw [← h6];simp
 have k0:Below w.heap.size w w4:=by rw [← h6];exact ((((Below.refl _ w).alloc (Nat.le_refl _) _).alloc (by simp) _).alloc (by simp;omega) _).alloc (by simp;omega) _
 rw [h6]
 clear h6
 refine at_wide (members_any S w4) ?_
 rintro e w' ⟨rfl,rfl⟩
 have k5:(w4.alloc (.cells #[.int .u64 (S:Int)] 101)).heap.size=w4.heap.size+1:=by simp
 have k6:(w4.alloc (.cells #[.int .u64 (S:Int)] 101)).cell? ⟨w4.heap.size,0,none⟩=some (.int .u64 (S:Int)):=(Boxed.new w4 101 (.int .u64 (S:Int))).cell
 have hh:Below w.heap.size w (w4.alloc (.cells #[.int .u64 (S:Int)] 101)):=k0.alloc (by omega) _
 have k7:WsI w v p b g m c R A F (w4.heap.size+1) S [] (w4.alloc (.cells #[.int .u64 (S:Int)] 101)):=
  ⟨h0.alloc _,h1.alloc _,h2.alloc _,h3.alloc _,by rw [show preM ([]:List (Mb S))=[] from rfl,putAt_nil];exact hV.arr.below hh (Nat.le_refl _),Outside.of_all hh _,by omega⟩
 obtain ⟨w6,k8⟩:∃ w6,w4.alloc (.cells #[.int .u64 (S:Int)] 101)=w6:=⟨_,rfl⟩
 have k9:=hide k6
 have hj:=hide2 k7 hh
 have kc:=hide hn
 clear k6 k7 h0 h1 h2 h3 k0 hh hn
 gi_wp2
 obtain ⟨hn,kd⟩:w.heap.size+4≤w4.heap.size∧w4.heap.size≤w.heap.size+4:=by have:=kc.out;omega
 rw [k8] at k5 k9 hj
 clear k8
 rw [← k5] at hj
 refine wpIn_rangeFunc_ownG rfl (by have:=HN.out;omega) (gf:=83) (lb:=#[.pointer (some ⟨w4.heap.size,0,none⟩)]) rfl trivial (enters_of Tryz.func83 (by kernel_rfl) rfl)
  (members_mb (n - 1) w4.heap.size S hS w6 (by omega) k9.out (by have:=hV.room;omega) (hV.tab.mono (by exact hV.tab.lt) hj.out.2)) (fun h k=>kpT_t h k) (kpT_b (by have:=hV.room;omega)) (Below.refl _ _) (fun _=>rfl)
  (WsI w v p b g m c R A F w6.heap.size S) (fun _ _ _=>False) (WsI.own (by omega) hg) (fun _ _ _ _ _ h _ _=>h.elim) hj.out.1
  (fun x=>{ tmps:=#[.pointer (some ⟨v,0,none⟩),.int .i64 (b:Int),.slice (some ⟨g,0,none⟩) m c,.int .u64 (S:Int),.pointer (some ⟨w.heap.size,0,none⟩),.pointer (some ⟨w.heap.size+1,0,none⟩),.pointer (some ⟨w.heap.size+1+1,0,none⟩),undef,.pointer (some ⟨w.heap.size+1+1+1,0,none⟩),.int .i64 (x.1:Int),.int .u64 (S:Int),.func (.func 83) #[] #[.pointer (some ⟨w4.heap.size,0,none⟩)],.int .i64 (x.1:Int),undef,undef,undef,undef,undef,undef,undef,undef,undef,undef,undef,undef,undef,undef,undef,undef,undef],defers:=[] }) ?assign ?body ?done ?stop
 case assign=>
  intro l2 x X Kk hK
  unfold encMb
  gi_wp2
  exact hK
 case body=>
  rintro l2 pre x X hi hp
  have hq:x.1∈mems S:=mem_mems.2 x.2
  have ha:=hV.turn hF hi.out hi.arr
  have hc:Rws X base g R:=hR.keep hi.out.size (fun k hk ke=>hi.out.block k ke (fun q=>by have:=h5 k q;omega))
  have h4:=hi.b3.lt
  have HI:=hide3 hi ha hc
  clear hp hi ha hc
  gi_wp2
  obtain ⟨hi,ha,hc⟩:=HI.out
  refine writeShards_region (by kernel_rfl) ha hF (hf.putAt _ _ _ fun i hr=>?_) x.1 b (kb _ hq) hb hw (hl _ hq) hi.b0 hi.b1 hi.b2 hc (hy _ hq) hm (fun k q=>?_) rfl rfl rfl rfl rfl ?_
  · refine ⟨blk_len (h9 i ?_),blk_lt (h9 i ?_)⟩
    all_goals
     unfold preM at hr
     rw [List.mem_map] at hr
     obtain ⟨y,_,rfl⟩:=hr
     exact mem_mems.2 y.2
  · have h1:k < w.heap.size:=hg k q
    exact ⟨h5 k q,by omega,by omega,by omega⟩
  intro w2 vs ka he h8
  rw [putAt_snoc A (preM pre) x.1 b (fun i=>(Rec.shard (R.getD i [])).blk)] at he
  obtain ⟨x0,x1,x2,x3,x4,x5,x6,x7,x8,x9,xa,xb,rfl⟩:=list12 ka
  have h7:∀ k,w.heap.size≤k→k < X.heap.size→w2.heap[k]?=X.heap[k]?:=fun k hk kf=>h8.block k kf (fun q=>by have:=hg k q;omega)
  have H2:=hide3 he h8 h7
  clear he h8 h7 hi ha hc ka
  rename_i hK
  refine hK _ _ ?_
  clear hK
  simp only [Act.putFrom,Act.put,List.setIfInBounds_toArray,List.set_cons_succ,List.set_cons_zero,List.cons_append,List.nil_append]
  gi_wp2
  obtain ⟨he,h8,h7⟩:=H2.out
  have hi:=HI.out.1
  have hO:Outside (F.has p A.n) w w2:=hi.out.trans h8
  refine ⟨⟨h8.size,fun k o hk ho _=>(h7 k (by omega) (Array.getElem?_eq_some_iff.1 ho).1).trans ho⟩,fun _=>hV.tab.keep (hO.block _ hV.tab.lt hF.t),?_⟩
  exact ⟨(h7 _ (by omega) (by omega)).trans hi.b0,(h7 _ (by omega) (by omega)).trans hi.b1,(h7 _ (by omega) (by omega)).trans hi.b2,(h7 _ (by omega) (by omega)).trans hi.b3,by rw [preM_snoc];exact he,hO,Nat.le_trans hi.size h8.size⟩
 case done=>
  rintro D' xs X kg kh hi hK
  have c3:=hi.b3.cell
  have f3:=hi.b3.frozen
  have HI:=hide2 hi hK
  clear hi hK
  gi_wp2
  obtain ⟨hi,hK⟩:=HI.out
  have hs:preM xs=mems S:=kh
  have ki:=hi.b3.set (.int .u64 0)
  have kj:=KeepsOthers.setCell X ⟨w.heap.size+1+1+1,0,none⟩ (.int .u64 0)
  have kk:=kj.same D' _ hK rfl
  have ko:=(Array.getElem?_eq_some_iff.1 hK).1
  refine end_cell (b:=w.heap.size+1+1+1) (t8:=8) Tryz.results50 rfl rfl (load_set (s:=0) ki) kk (by omega) ⟨rfl,?_,?_⟩
  · have h4:=hi.arr
    rw [hs] at h4
    exact h4.keep fun k hk=>by have:=hg k hk;exact (World.putObj_heap_other (by omega)).trans (blk_setCell_other _ _ _ _ (by show k≠w.heap.size+1+1+1;omega))
  · exact hi.out.later (T:=fun k=>w.heap.size≤k) ⟨rfl,rfl,rfl,by simp [World.setCell,World.putObj],fun k _ km=>(World.putObj_heap_other (by omega)).trans (blk_setCell_other _ _ _ _ (by show k≠w.heap.size+1+1+1;omega))⟩ (fun k kp km=>by omega)
 case stop=>
  rintro D' cc pre X kg kn hx hK
  exact hx.elim
end
section
open Go.Shelf Gf
attribute [local go_sem] Oper.semAt_some
abbrev Ch (D:Nat):={ i:Nat // i < D }
def chV (g i:Nat):Value:=.slice (some ⟨g,i*44,none⟩) 44 44
def encCh (g:Nat) {D:Nat} (x:Ch D):Array Value:=#[chV g x.1]
noncomputable def RCh:Array Oper:=((Tryz.f167.body.bind (rgf · 3))).getD #[]
def shCh:List (Op×Option Nat×List Nat):=[(Op.load 3 (.tmp 2),some 13,[]),
 (Op.load 33 (.tmp 1),some 14,[]),
 (Op.move (.tmp 4),some 15,[]),
 (Op.slice 33 (.tmp 14) (some (.tmp 15)) none none,some 16,[1,2]),
 (Op.call { callee:=Callee.builtin Builtin.len,args:=#[.tmp 16],argTypes:=#[33] },some 17,[3]),
 (Op.call { callee:=Callee.builtin Builtin.min,args:=#[.tmp 13,.tmp 17],argTypes:=#[3,3] },some 18,[0,4]),
 (Op.assign (.tmp 18),some 5,[5,0,1,2,3,4,5])]
theorem RCh_shape:RegShape RCh 5 19 shCh:=regShape (by kernel_rfl) (by kernel_rfl)
def vsCh (g D k:Nat):List Value:=[.int .i64 44,.slice (some ⟨g,0,none⟩) (D*44) (D*44),.int .i64 (k*44:Nat),.slice (some ⟨g,k*44,none⟩) (D*44 - k*44) (D*44 - k*44),.int .i64 (D*44 - k*44:Nat),.int .i64 44,.int .i64 44]
theorem chunk_region {b1 b2 k:Nat} (h9:RCh=ops) (hk:k < D) (h1:w.cell? ⟨b1,0,none⟩=some (.slice (some ⟨g,0,none⟩) (D*44) (D*44))) (h2:w.cell? ⟨b2,0,none⟩=some (.int .i64 44)) (ha:a.tmps.size=31)
 (e1:a.eval (.tmp 1)=.pointer (some ⟨b1,0,none⟩)) (e2:a.eval (.tmp 2)=.pointer (some ⟨b2,0,none⟩)) (e4:a.eval (.tmp 4)=.int .i64 (k*44:Nat))
 (hQ:Q .normal (Act.putFrom a 5 [.int .i64 44,a.eval (.tmp 6),a.eval (.tmp 7),a.eval (.tmp 8),a.eval (.tmp 9),a.eval (.tmp 10),a.eval (.tmp 11),a.eval (.tmp 12),.int .i64 44,.slice (some ⟨g,0,none⟩) (D*44) (D*44),.int .i64 (k*44:Nat),.slice (some ⟨g,k*44,none⟩) (D*44 - k*44) (D*44 - k*44),.int .i64 (D*44 - k*44:Nat),.int .i64 44]) w.drew) :
 (Code.region 3 ops true).wp Tryz.prog Q a w:=by
 subst h9
 refine region_factsS (by kernel_rfl) RCh_shape a w (by omega) (fun i u _=>u=(vsCh g D k).getD i undef) (fun _ w'=>w'=w.drew) rfl ?_ ?_
 · intro i hi
   have c1:w.drew.cell? ⟨b1,0,none⟩=some (.slice (some ⟨g,0,none⟩) (D*44) (D*44)):=h1
   have c2:w.drew.cell? ⟨b2,0,none⟩=some (.int .i64 44):=h2
   match i,hi with
   | 0,_=>
    intro o a' w' Dn hg ho h0 hk h6 h7 h3 hB h5
    subst hB
    have u0:a'.eval (.tmp 2)=.pointer (some ⟨b2,0,none⟩):=(hk.slot 2 (by omega)).trans e2
    exact op_val (v:=.int .i64 44) (by simp only [execOp,show o.op=Op.load 3 (.tmp 2) from ho,u0];go_simp) h0 ⟨rfl,rfl,kq⟩
   | 1,_=>
    intro o a' w' Dn hg ho h0 hk h6 h7 h3 hB h5
    subst hB
    have u0:a'.eval (.tmp 1)=.pointer (some ⟨b1,0,none⟩):=(hk.slot 1 (by omega)).trans e1
    exact op_val (v:=.slice (some ⟨g,0,none⟩) (D*44) (D*44)) (by simp only [execOp,show o.op=Op.load 33 (.tmp 1) from ho,u0];go_simp) h0 ⟨rfl,rfl,kq⟩
   | 2,_=>exact fun o a' w' Dn hg ho h0 hk h6 h7 h3 hB h5=>op_val (run_op_move ho ((hk.slot 4 (by omega)).trans e4) w') h0 ⟨hB,rfl,kq⟩
   | 3,_=>
    intro o a' w' Dn hg ho h0 h8 h6 h7 h3 hB h5
    have u0:a'.eval (.tmp 14)=.slice (some ⟨g,0,none⟩) (D*44) (D*44):=h5 1 (h3 1 (by decide))
    have u1:a'.eval (.tmp 15)=.int .i64 (k*44:Nat):=h5 2 (h3 2 (by decide))
    have hc:k*44 < D*44:=by omega
    have u1':a'.tmps[15]?.getD undef=.int .i64 (k*44:Nat):=by simpa [Act.eval] using u1
    have he:¬ D*44=k*44:=by omega
    refine op_val (v:=.slice (some ⟨g,k*44,none⟩) (D*44 - k*44) (D*44 - k*44)) ?_ h0 ⟨hB,rfl,kq⟩
    simp only [execOp,show o.op=Op.slice 33 (.tmp 14) (some (.tmp 15)) none none from ho,u0]
    generalize k*44=kk at *
    generalize D*44=dd at *
    go_simp
    intro h
    omega
   | 4,_=>
    intro o a' w' Dn hg ho h0 h8 h6 h7 h3 hB h5
    have u0:a'.eval (.tmp 16)=.slice (some ⟨g,k*44,none⟩) (D*44 - k*44) (D*44 - k*44):=h5 3 (h3 3 (by decide))
    refine op_val (v:=.int .i64 (D*44 - k*44:Nat)) ?_ h0 ⟨hB,rfl,kq⟩
    simp only [execOp,show o.op=Op.call { callee:=Callee.builtin Builtin.len,args:=#[.tmp 16],argTypes:=#[33] } from ho,resolve,invoke,builtin,Sem.run_bind,Sem.run_pure,Result.andThen_ok,List.map_toArray,List.map_cons,List.map_nil,u0]
    generalize D*44 - k*44=dd at *
    go_simp
   | 5,_=>
    intro o a' w' Dn hg ho h0 h8 h6 h7 h3 hB h5
    have u0:a'.eval (.tmp 13)=.int .i64 44:=h5 0 (h3 0 (by decide))
    have u1:a'.eval (.tmp 17)=.int .i64 (D*44 - k*44:Nat):=h5 4 (h3 4 (by decide))
    refine op_val (v:=.int .i64 44) ?_ h0 ⟨hB,rfl,kq⟩
    simp only [execOp,show o.op=Op.call { callee:=Callee.builtin Builtin.min,args:=#[.tmp 13,.tmp 17],argTypes:=#[3,3] } from ho,resolve,invoke,builtin,Sem.run_bind,Sem.run_pure,Result.andThen_ok,List.map_toArray,List.map_cons,List.map_nil,u0,u1,run_min_int]
    rw [if_neg (by omega)]
   | 6,_=>
    intro o a' w' Dn hg ho h0 h8 h6 h7 h3 hB h5
    have u0:a'.eval (.tmp 18)=.int .i64 44:=h5 5 (h3 5 (by decide))
    exact op_val (v:=.int .i64 44) (by simp [execOp,show o.op=Op.assign (.tmp 18) from ho,u0]) h0 ⟨hB,rfl,kq⟩
   | n+7,hn=>exact absurd hn (by show ¬ n+7 < 7;omega)
 · rintro a' w' h8 h4 ⟨Dn,hD,hB⟩ h5
   subst hB
   have e:a'=Act.putFrom a 5 [.int .i64 44,a.eval (.tmp 6),a.eval (.tmp 7),a.eval (.tmp 8),a.eval (.tmp 9),a.eval (.tmp 10),a.eval (.tmp 11),a.eval (.tmp 12),.int .i64 44,.slice (some ⟨g,0,none⟩) (D*44) (D*44),.int .i64 (k*44:Nat),.slice (some ⟨g,k*44,none⟩) (D*44 - k*44) (D*44 - k*44),.int .i64 (D*44 - k*44:Nat),.int .i64 44]:=h8.out _ rfl (by omega) (fun i hi=>?_)
   · rw [e];exact hQ
   · match i,hi with
     | 0,_=>exact h5 6 (by decide)
     | 1,_=>exact h4 6 (by decide)
     | 2,_=>exact h4 7 (by decide)
     | 3,_=>exact h4 8 (by decide)
     | 4,_=>exact h4 9 (by decide)
     | 5,_=>exact h4 10 (by decide)
     | 6,_=>exact h4 11 (by decide)
     | 7,_=>exact h4 12 (by decide)
     | 8,_=>exact h5 0 (by decide)
     | 9,_=>exact h5 1 (by decide)
     | 10,_=>exact h5 2 (by decide)
     | 11,_=>exact h5 3 (by decide)
     | 12,_=>exact h5 4 (by decide)
     | 13,_=>exact h5 5 (by decide)
     | n+14,hn=>exact absurd hn (by simp)
def Kp2 (b1 b2:Nat) (W W':World):Prop:=W'.heap[b1]?=W.heap[b1]?∧W'.heap[b2]?=W.heap[b2]?
theorem chunks1_in (n l b1 b2 g D:Nat) (hD:D≤1000) (J Jx:List (Ch D)→World→Prop) (h9:∀ pre W,J pre W→J pre W.drew)
 (hY:∀ pre x W,J pre W→pre.length < D→YieldAt Fence.wide (n - 1) Tryz.prog l (encCh g x) W fun e W'=>
  (e=.returned (.bool true)∧J (pre ++ [x]) W'∧Kp2 b1 b2 W W')∨(e=.returned (.bool false)∧Jx (pre ++ [x]) W'))
 (W:World) (h1:W.cell? ⟨b1,0,none⟩=some (.slice (some ⟨g,0,none⟩) (D*44) (D*44))) (h2:W.cell? ⟨b2,0,none⟩=some (.int .i64 44)) (h0:J [] W) :
 CallsIn Fence.wide n Tryz.prog 167 #[.func (.yield l) #[] #[],.pointer (some ⟨b1,0,none⟩),.pointer (some ⟨b2,0,none⟩)] W fun e W'=>(∃ v,e=.returned v) ∧
  ((∃ ys,ys.map (·.1)=List.range D∧J ys W')∨(∃ pre,pre.map (·.1) <+: List.range D∧Jx pre W')):=by
 refine callsIn_of_wp Tryz.func167 rfl trivial ?_ rfl
 simp only [Tryz.ntmps167,List.size_toArray,List.length_cons,List.length_nil,Nat.reduceAdd,Nat.reduceSub,Array.replicate_succ,Array.replicate_zero,List.push_toArray,List.append_toArray,List.nil_append,List.cons_append]
 gi_wp2
 gi_loopw [4] (fun p wr=>∃ (pre:List (Ch D)) (k:Nat),p=.int .i64 (k*44:Nat)∧k≤D∧pre.map (·.1)=List.range k∧J pre wr∧wr.cell? ⟨b1,0,none⟩=some (.slice (some ⟨g,0,none⟩) (D*44) (D*44))∧wr.cell? ⟨b2,0,none⟩=some (.int .i64 44))
  (fun p _=>D*44 - (intOf p).toNat)
 case atStart=>
  exact ⟨[],0,rfl,Nat.zero_le _,rfl,h0,h1,h2⟩
 case round=>
  obtain ⟨pre,k,rfl,hf,h3,hJ,c1,c2⟩:=hrel
  have h4:pre.length=k:=by have:=congrArg List.length h3;simpa using this
  by_cases hk:k < D
  · have hg:((k*44:Nat):Int) < ((D*44:Nat):Int):=by omega
    have c1':wr.drew.cell? ⟨b1,0,none⟩=some (.slice (some ⟨g,0,none⟩) (D*44) (D*44)):=c1
    have c2':wr.drew.cell? ⟨b2,0,none⟩=some (.int .i64 44):=c2
    obtain ⟨fn,tmps,assign,body,hy,hR⟩:=hY pre ⟨k,hk⟩ wr.drew (h9 _ _ hJ) (by omega)
    unfold encCh chV at hy
    simp only at hy
    have H:=hide4 hR hJ h3 h4
    clear hR hJ h3 h4
    gi_wp2
    refine wpIn_wide.2 (chunk_region (by kernel_rfl) hk c1 c2 rfl rfl rfl rfl ?_)
    rename_i hK
    refine hK _ _ ?_
    clear hK
    simp only [Act.putFrom,Act.put,List.setIfInBounds_toArray,List.set_cons_succ,List.set_cons_zero]
    have ha:wrap64 (((k*44:Nat):Int)+44)=((k*44+44:Nat):Int):=by unfold wrap64;omega
    have hc:k*44+44 - k*44=44:=by omega
    have hh:k*44+44≤D*44:=by omega
    have hi:¬ ((D*44:Nat):Int) < ((k*44+44:Nat):Int):=by omega
    have hj:¬ ((k*44+44:Nat):Int) < ((k*44:Nat):Int):=by omega
    have hm:¬ k*44+44=k*44:=by omega
    generalize h6:k*44=kk at *
    generalize he:D*44=dd at *
    generalize hn:kk+44=ee at *
    gi_wp2
    refine ⟨fun h=>(by cases h),H.out.1.mono ?_⟩
    rintro e W3 (⟨rfl,h7,h8⟩ | ⟨rfl,h5⟩)
    · have d1:W3.cell? ⟨b1,0,none⟩=some (.slice (some ⟨g,0,none⟩) dd dd):=(World.cell?_of_block h8.1).trans c1'
      have d2:W3.cell? ⟨b2,0,none⟩=some (.int .i64 44):=(World.cell?_of_block h8.2).trans c2'
      have HJ:=hide h7
      clear h7
      gi_wp2
      go_roundw
      case rel=>exact ⟨pre ++ [⟨k,hk⟩],k+1,by rw [show (k+1)*44=ee by omega];congr 1;omega,by omega,by rw [List.map_append,H.out.2.2.1,List.range_succ];rfl,HJ.out,by rw [he];exact d1,d2⟩
      case measure=>simp only [intOf];omega
    · have HJ:=hide h5
      clear h5
      gi_wp2
      refine bodyPost_ret (results_none rfl _ _ _) rfl ?_
      refine ⟨⟨_,rfl⟩,.inr ⟨pre ++ [⟨k,hk⟩],?_,HJ.out⟩⟩
      rw [List.map_append,H.out.2.2.1]
      refine ⟨(List.range D).drop (k+1),?_⟩
      show List.range k ++ [k] ++ _=_
      rw [← List.range_succ]
      have:List.range (k+1)=(List.range D).take (k+1):=by rw [List.take_range,Nat.min_eq_left (by omega)]
      rw [this,List.take_append_drop]
  · have h6:k=D:=by omega
    subst h6
    gi_wp2
    go_end0
    exact ⟨⟨_,rfl⟩,.inl ⟨pre,h3,hJ⟩⟩
theorem chunks_stops (n b1 b2 g D:Nat) (hD:D≤1000) (w:World) (h3:b1 < w.heap.size) (h4:b2 < w.heap.size) (h1:w.cell? ⟨b1,0,none⟩=some (.slice (some ⟨g,0,none⟩) (D*44) (D*44))) (h2:w.cell? ⟨b2,0,none⟩=some (.int .i64 44)) :
 SeqStopsK Fence.wide n Tryz.prog 167 #[.pointer (some ⟨b1,0,none⟩),.pointer (some ⟨b2,0,none⟩)] (encCh g (D:=D)) (Kp2 b1 b2) (fun ys=>ys.map (·.1)=List.range D) (fun pre=>pre.map (·.1) <+: List.range D) D w:=fun l J Jx W hW hJ _ hY h0=>
 chunks1_in n l b1 b2 g D hD J Jx (fun pre X h=>hJ pre X X.drew none h ⟨rfl,rfl,rfl,Nat.le_refl _,fun _ _ _=>rfl⟩ (fun r e=>by cases e)) hY W ((hW.cell (p:=⟨b1,0,none⟩) h3).trans h1) ((hW.cell (p:=⟨b2,0,none⟩) h4).trans h2) h0
theorem chunk_any (g D:Nat) (w:World) :
 Calls Tryz.prog 157 #[.slice (some ⟨g,0,none⟩) (D*44) (D*44),.int .i64 44] w fun e w'=>e=.returned (.func (.func 167) #[] #[.pointer (some ⟨w.heap.size,0,none⟩),.pointer (some ⟨w.heap.size+1,0,none⟩)])∧w'=(w.alloc (.cells #[.slice (some ⟨g,0,none⟩) (D*44) (D*44)] 33)).alloc (.cells #[.int .i64 44] 3):=by
 generalize D*44=dd
 have h0:∀ (fn:Fn) (first cap:Array Value) (w:World),(Instr.makeFunc fn first cap).run Tryz.prog w=.ok (.func fn first cap) w:=fun _ _ _ _=>rfl
 go_enter Tryz.func157,Tryz.ntmps157
 go_wp2
 go_ret
 exact ⟨rfl,rfl⟩
end
theorem catch_idle (p:Addr) (w:World):CallsD Tryz.prog 45 #[.pointer (some p)] .returning w fun e u' w'=>e=.returned (.tuple #[])∧u'=.returning∧w'=w:=by
 refine callsD_of_wpS Tryz.func45 rfl fun c₀ cs hu=>?_
 have hn:∀ w,(binOp .eql 20 .nilIface .nilIface).run Tryz.prog w=.ok (.bool true) w:=fun w=>by
  have h0:∀ d,(Op.equalIn (d+1) 20 .nilIface .nilIface).run Tryz.prog w=.ok true w:=fun d=>by
   simp only [Op.equalIn,Sem.run_bind,run_underlying Tryz.underlying20,Result.andThen_ok]
   rfl
  have he:=h0 9999
  simp only [binOp]
  simp [Op.equal,Op.maxDepth,he]
 apply wpS_seq
 apply wpS_region
 generalize hN:Code.wpS Tryz.prog _ _=N
 simp [wpOpsS,go_sem,recoverD,hu,Tryz.ntmps45,Exit.thenS]
 rw [← hN]
 clear hN
 refine wpS_of_wp ?_
 simp only [Array.replicate_succ,Array.replicate_zero,List.push_toArray,List.nil_append,List.cons_append,List.setIfInBounds_toArray,List.set_cons_succ,List.set_cons_zero,List.append_toArray]
 go_wp2
 cases c₀
 simp_all [bodyPostS,results,Tryz.results45]
def isErr (v:Value):Prop:=v=.nilIface∨∃ t u,v=.iface t u
theorem powered_ok (k:FuncId) (first cap:Array Value) (h3:∀ (args:Array Value) (w:World),(callFunc k args).run Tryz.prog w=.ok (.enter k args) w) (w:World) (R:World→Value→World→Prop)
 (h2:∀ w1,Below w.heap.size w w1→w1.heap.size=w.heap.size+1→Calls Tryz.prog k (first ++ cap) w1 fun e w2=>∃ v,e=.returned v∧isErr v∧R w1 v w2∧w2.heap[w.heap.size]?=w1.heap[w.heap.size]?) :
 Calls Tryz.prog 31 #[.func (.func k) first cap] w fun e w'=>∃ v w1 w2,e=.returned v∧isErr v∧Below w.heap.size w w1∧w1.heap.size=w.heap.size+1∧R w1 v w2∧w'=w2.setCell ⟨w.heap.size,0,none⟩ v:=by
 have h4:∀ (fn:Fn) (first cap:Array Value) (w:World),(Instr.makeFunc fn first cap).run Tryz.prog w=.ok (.func fn first cap) w:=fun _ _ _ _=>rfl
 have hc:=h2 (w.alloc (.cells #[.nilIface] 29)) ((Below.refl _ w).alloc (Nat.le_refl _) _) (by simp)
 have h0:(w.alloc (.cells #[.nilIface] 29)).heap[w.heap.size]?=some (.cells #[.nilIface] 29 (0,0)):=blk_alloc_new _ _
 go_enter_defers Tryz.func31,Tryz.ntmps31
 go_wp2_with fail
 refine hc.mono ?_
 clear hc
 rintro e w2 ⟨v,rfl,hv,hR,h1⟩
 have ht:w2.heap[w.heap.size]?=some (.cells #[.nilIface] 29 (0,0)):=h1.trans h0
 have c2:w2.cell? ⟨w.heap.size,0,none⟩=some .nilIface:=by simp [World.cell?,ht]
 have f2:w2.frozen? ⟨w.heap.size,0,none⟩=false:=by simp [World.frozen?,ht]
 have c3:(w2.setCell ⟨w.heap.size,0,none⟩ v).cell? ⟨w.heap.size,0,none⟩=some v:=by simp [World.cell?,World.setCell,Array.getElem?_modify,ht]
 have H:=hide2 hR hv
 clear hR h1 ht h0 h2
 rcases hv with rfl | ⟨t,u,rfl⟩
 · go_wp2
   refine leaves_cons (f:=45) (args:=#[.pointer (some ⟨w.heap.size,0,none⟩)]) (by simp) (by simp [go_sem]) ?_
   refine (catch_idle ⟨w.heap.size,0,none⟩ _).mono ?_
   rintro e u' w'' ⟨rfl,rfl,rfl⟩
   refine ⟨.nilIface,by simp [results,Tryz.results31,go_sem,c3],_,_,w2,rfl,.inl rfl,(Below.refl _ w).alloc (Nat.le_refl _) (.cells #[.nilIface] 29),by simp,H.out.1,rfl⟩
 · go_wp2
   refine leaves_cons (f:=45) (args:=#[.pointer (some ⟨w.heap.size,0,none⟩)]) (by simp) (by simp [go_sem]) ?_
   refine (catch_idle ⟨w.heap.size,0,none⟩ _).mono ?_
   rintro e u' w'' ⟨rfl,rfl,rfl⟩
   refine ⟨.iface t u,by simp [results,Tryz.results31,go_sem,c3],_,_,w2,rfl,.inr ⟨t,u,rfl⟩,(Below.refl _ w).alloc (Nat.le_refl _) (.cells #[.nilIface] 29),by simp,H.out.1,rfl⟩
end Go.Proofs.YthcgahldacpolaaGreatDoor
