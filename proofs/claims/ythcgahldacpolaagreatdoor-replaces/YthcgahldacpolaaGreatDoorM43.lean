import Derived.Test.YthcgahldacpolaaGreatDoorM39
set_option maxRecDepth 100000
set_option maxHeartbeats 8000000
namespace Go.Proofs.YthcgahldacpolaaGreatDoor
open Go.RowKit Go.Shelf Go.Deep Gf
variable {a:Act} {A:Arr} {ops:Array Oper} {Q:Exit→Act→World→Prop} {F:Foot} {vs:List Value} {i p n v D L G ps ho q4 lo:Nat} {Dn:Nat→Bool} {T:Nat→Prop} {u:Value} {X:Value→Prop} {w w0:World} {K:World→Prop}
section
attribute [local go_sem] Oper.semAt_some
def vsWl (v g m c bl off rc x b:Nat) (l:List Nat) (bv:Bool):List Value:=[.pointer (some ⟨v,0,none⟩),.int .i64 x,.int .i64 b,.slice (some ⟨g,0,none⟩) m c,.int .i64 x,.pointer (some ⟨g,x,none⟩),.slice (some ⟨bl,off,none⟩) 44 rc,.pointer (some ⟨bl,off,none⟩),.agg (bts l).toArray,.agg (bts l).toArray,recV (.shard l),.nilIface,.bool bv]
def arWl (A A2:Arr) (D:Nat→Bool):Arr:=if D 11=true then A2 else A
def VWl (X:Value→Prop) (vs:List Value) (i:Nat) (u:Value) (_:World):Prop:=if i=11 then X u else u=vs.getD i undef
theorem VWl_at (h:i≠11) (q:VWl X vs i u w):u=vs.getD i undef:=by unfold VWl at q;rwa [if_neg h] at q
theorem VWl_mk (h:i≠11) (q:u=vs.getD i undef):VWl X vs i u w:=by unfold VWl;rwa [if_neg h]
def BWl (w0:World) (p:Nat) (A A2:Arr) (F:Foot) (Dn:Nat→Bool) (w:World):Prop:=ArrAt w p (arWl A A2 Dn) F∧Outside (F.has p A.n) w0 w
theorem BWl_upd {A2:Arr} (h:BWl w0 p A A2 F Dn w) (i:Nat) (hi:i≠11):BWl w0 p A A2 F (upd Dn i) w:=by
 refine ⟨?_,h.2⟩
 have e:arWl A A2 (upd Dn i)=arWl A A2 Dn:=by unfold arWl upd;rw [if_neg (fun e:11=i=>hi e.symm)]
 rw [e];exact h.1
theorem writeShards_regionL {l:Nat} (h9:RWs=ops) (hV:Vol w v p D L G ps ho A F) (hF:Free F p A.n v) (_:A.fit) (x b:Nat) {A2:Arr} (X:Value→Prop) (bv:Bool) (hX:∀ (o:Oper) (a':Act) (w':World),o.op=Op.binOp BinOp.neq 29 (.tmp 24) (Operand.const Value.nilIface) 29→X (a'.eval (.tmp 24))→(execOp a'.eval o).run Tryz.prog w'=.ok (.value (.bool bv)) w')
 {q4 q5 q6 g m c:Nat} (h4:Boxed w q4 91 (.pointer (some ⟨v,0,none⟩))) (h5:Boxed w q5 3 (.int .i64 b)) (h6:Boxed w q6 57 (.slice (some ⟨g,0,none⟩) m c)) {base:Nat} {R:List (List Nat)} (hR:Rws w base g R) (hh:x < R.length) (hm:R.length≤m)
 (hn:∀ k,F.has p A.n k→k < base∧k≠q4∧k≠q5∧k≠q6) (ki:a.tmps.size=30) (ha:∀ w',ArrAt w' p A F→Vol w' v p D L G ps ho A F→Calls Tryz.prog 67 #[.pointer (some ⟨v,0,none⟩),.int .i64 x,.int .i64 b,recV (.shard (R.getD x []))] w' fun e w''=>∃ u,e=.returned u∧X u∧ArrAt w'' p A2 F∧Outside (F.has p A.n) w' w'')
 (e4:a.eval (.tmp 4)=.pointer (some ⟨q4,0,none⟩)) (e5:a.eval (.tmp 5)=.pointer (some ⟨q5,0,none⟩)) (e6:a.eval (.tmp 6)=.pointer (some ⟨q6,0,none⟩)) (e9:a.eval (.tmp 9)=.int .i64 x)
 (hQ:∀ (w':World) (vs:List Value),vs.length=12→ArrAt w' p A2 F→Outside (F.has p A.n) w w'→Q .normal (Act.putFrom a 13 (vs ++ [.bool bv])) w') :
 (Code.region 3 ops true).wpIn (Fence.wide.inRound l) n Tryz.prog Q a w:=by
 subst h9
 obtain ⟨hy,k0,h8⟩:=hR
 obtain ⟨bl,off,rc,k5,k6,k7,hj,hc,k8⟩:=h8 x hh
 have k9:R.getD x []=R[x]:=by simp [hh]
 rw [k9] at ha
 obtain ⟨s,hs⟩:∃ s,R[x]=s:=⟨_,rfl⟩
 rw [hs] at hj hc k8 ha
 have hp:∀ w',Outside (F.has p A.n) w w'→∀ k,k < w.heap.size→¬ F.has p A.n k→w'.heap[k]?=w.heap[k]?:=fun w' hO k hk ka=>hO.block k hk ka
 have hq:∀ k,base≤k→¬ F.has p A.n k:=fun k hk q=>by have:=(hn k q).1;omega
 have hx:(bts s).toArray.size=44:=by rw [List.size_toArray,bts_len,hc]
 refine region_factsI (by kernel_rfl) RWs_shape a w (by omega) (VWl X (vsWl v g m c bl off rc x b s bv)) (BWl w p A A2 F) ⟨hV.arr.keep fun _ _=>rfl,Outside.drew w⟩ ?_ ?_
 · intro i hi
   match i,hi with
   | 0,_=>
    intro o a' w' Dn hg ho h0 hk h3 h7 h1 hB h2
    have u0:a'.eval (.tmp 4)=.pointer (some ⟨q4,0,none⟩):=(hk.slot 4 (by omega)).trans e4
    have cc:=(show Boxed w' q4 91 (.pointer (some ⟨v,0,none⟩)) from (hB.2.block _ h4.lt (fun q=>(hn _ q).2.1 rfl)).trans h4).cell
    exact opI_val (v:=.pointer (some ⟨v,0,none⟩)) (by simp only [execOp,show o.op=Op.load 91 (.tmp 4) from ho,u0];go_simp) (by rw [ho];intro c h;cases h) h0 ⟨BWl_upd hB _ (by decide),VWl_mk (by decide) rfl,kq⟩
   | 1,_=>exact fun o a' w' Dn hg ho h0 hk h3 h7 h1 hB h2=>opI_val (run_op_move ho ((hk.slot 9 (by omega)).trans e9) w') (by rw [ho];intro c h;cases h) h0 ⟨BWl_upd hB _ (by decide),VWl_mk (by decide) rfl,kq⟩
   | 2,_=>
    intro o a' w' Dn hg ho h0 hk h3 h7 h1 hB h2
    have u0:a'.eval (.tmp 5)=.pointer (some ⟨q5,0,none⟩):=(hk.slot 5 (by omega)).trans e5
    have cc:=(show Boxed w' q5 3 (.int .i64 b) from (hB.2.block _ h5.lt (fun q=>(hn _ q).2.2.1 rfl)).trans h5).cell
    exact opI_val (v:=.int .i64 b) (by simp only [execOp,show o.op=Op.load 3 (.tmp 5) from ho,u0];go_simp) (by rw [ho];intro c h;cases h) h0 ⟨BWl_upd hB _ (by decide),VWl_mk (by decide) rfl,kq⟩
   | 3,_=>
    intro o a' w' Dn hg ho h0 hk h3 h7 h1 hB h2
    have u0:a'.eval (.tmp 6)=.pointer (some ⟨q6,0,none⟩):=(hk.slot 6 (by omega)).trans e6
    have cc:=(show Boxed w' q6 57 (.slice (some ⟨g,0,none⟩) m c) from (hB.2.block _ h6.lt (fun q=>(hn _ q).2.2.2 rfl)).trans h6).cell
    exact opI_val (v:=.slice (some ⟨g,0,none⟩) m c) (by simp only [execOp,show o.op=Op.load 57 (.tmp 6) from ho,u0];go_simp) (by rw [ho];intro c h;cases h) h0 ⟨BWl_upd hB _ (by decide),VWl_mk (by decide) rfl,kq⟩
   | 4,_=>exact fun o a' w' Dn hg ho h0 hk h3 h7 h1 hB h2=>opI_val (run_op_move ho ((hk.slot 9 (by omega)).trans e9) w') (by rw [ho];intro c h;cases h) h0 ⟨BWl_upd hB _ (by decide),VWl_mk (by decide) rfl,kq⟩
   | 5,_=>
    intro o a' w' Dn hg ho h0 hk h3 h7 h1 hB h2
    have u0:a'.eval (.tmp 16)=.slice (some ⟨g,0,none⟩) m c:=VWl_at (by decide) (h2 3 (h1 3 (by decide)))
    have u1:a'.eval (.tmp 17)=.int .i64 x:=VWl_at (by decide) (h2 4 (h1 4 (by decide)))
    have kj:x < m:=by omega
    exact opI_val (v:=.pointer (some ⟨g,x,none⟩)) (by simp only [execOp,show o.op=Op.indexAddr 57 (.tmp 16) (.tmp 17) from ho,u0,u1];go_simp) (by rw [ho];intro c h;cases h) h0 ⟨BWl_upd hB _ (by decide),VWl_mk (by decide) rfl,kq⟩
   | 6,_=>
    intro o a' w' Dn hg ho h0 hk h3 h7 h1 hB h2
    have u0:a'.eval (.tmp 18)=.pointer (some ⟨g,x,none⟩):=VWl_at (by decide) (h2 5 (h1 5 (by decide)))
    have cc:w'.cell? ⟨g,x,none⟩=some (.slice (some ⟨bl,off,none⟩) 44 rc):=(World.cell?_of_block (hB.2.block g k0 (hq g hy))).trans k5
    exact opI_val (v:=.slice (some ⟨bl,off,none⟩) 44 rc) (by simp only [execOp,show o.op=Op.load 33 (.tmp 18) from ho,u0];go_simp) (by rw [ho];intro c h;cases h) h0 ⟨BWl_upd hB _ (by decide),VWl_mk (by decide) rfl,kq⟩
   | 7,_=>
    intro o a' w' Dn hg ho h0 hk h3 h7 h1 hB h2
    have u0:a'.eval (.tmp 19)=.slice (some ⟨bl,off,none⟩) 44 rc:=VWl_at (by decide) (h2 6 (h1 6 (by decide)))
    have kb:(Instr.arrayAt 160 (.slice (some ⟨bl,off,none⟩) 44 rc)).run Tryz.prog w'=.ok (.pointer (some ⟨bl,off,none⟩)) w':=by simp [Instr.arrayAt,run_underlying Tryz.underlying160]
    exact opI_val (v:=.pointer (some ⟨bl,off,none⟩)) (by simp [execOp,show o.op=Op.sliceToArrayPointer 160 (.tmp 19) from ho,u0,kb]) (by rw [ho];intro c h;cases h) h0 ⟨BWl_upd hB _ (by decide),VWl_mk (by decide) rfl,kq⟩
   | 8,_=>
    intro o a' w' Dn hg ho h0 hk h3 h7 h1 hB h2
    have u0:a'.eval (.tmp 20)=.pointer (some ⟨bl,off,none⟩):=VWl_at (by decide) (h2 7 (h1 7 (by decide)))
    have hr:w'.rangeAt bl off (bts s):=fun j u hu=>(World.cell?_of_block (hB.2.block bl k7 (hq bl k6))).trans (hj j u hu)
    have kc:=run_loadAt_mid (P:=Tryz.prog) w' bl off 160 (bts s) _ hr Tryz.underlying160 rfl (by rw [bts_len,hc];kernel_rfl)
    exact opI_val (v:=.agg (bts s).toArray) (by simp [execOp,show o.op=Op.load 160 (.tmp 20) from ho,u0,kc]) (by rw [ho];intro c h;cases h) h0 ⟨BWl_upd hB _ (by decide),VWl_mk (by decide) rfl,kq⟩
   | 9,_=>
    intro o a' w' Dn hg ho h0 hk h3 h7 h1 hB h2
    have u0:a'.eval (.tmp 21)=.agg (bts s).toArray:=VWl_at (by decide) (h2 8 (h1 8 (by decide)))
    have kd:∀ z:Array Value,z.size=44→Array.foldl (fun cs x=>cs.setIfInBounds x.snd x.fst) z (bts s).toArray.zipIdx 0 44=(bts s).toArray:=fun z hz=>build_one z _ 44 hz hx
    obtain ⟨sa,he⟩:∃ sa,(bts s).toArray=sa:=⟨_,rfl⟩
    refine opI_val (v:=.agg (bts s).toArray) ?_ (by rw [ho];intro c h;cases h) h0 ⟨BWl_upd hB _ (by decide),VWl_mk (by decide) rfl,kq⟩
    rw [he] at u0 kd hx ⊢
    simp only [execOp,show o.op=Op.build 162 #[(0,.tmp 21)] from ho,List.map_toArray,List.map_cons,List.map_nil,u0]
    go_simp
   | 10,_=>
    intro o a' w' Dn hg ho h0 hk h3 h7 h1 hB h2
    have u0:a'.eval (.tmp 22)=.agg (bts s).toArray:=VWl_at (by decide) (h2 9 (h1 9 (by decide)))
    exact opI_val (v:=recV (.shard s)) (by simp only [execOp,show o.op=Op.makeInterface 162 (.tmp 22) from ho,u0,recV];go_simp) (by rw [ho];intro c h;cases h) h0 ⟨BWl_upd hB _ (by decide),VWl_mk (by decide) rfl,kq⟩
   | 11,_=>
    intro o a' w' Dn kk ho h0 hk h3 h7 h1 hB h2
    have u0:a'.eval (.tmp 13)=.pointer (some ⟨v,0,none⟩):=VWl_at (by decide) (h2 0 (h1 0 (by decide)))
    have u1:a'.eval (.tmp 14)=.int .i64 x:=VWl_at (by decide) (h2 1 (h1 1 (by decide)))
    have u2:a'.eval (.tmp 15)=.int .i64 b:=VWl_at (by decide) (h2 2 (h1 2 (by decide)))
    have u3:a'.eval (.tmp 23)=recV (.shard s):=VWl_at (by decide) (h2 10 (h1 10 (by decide)))
    have hA:ArrAt w' p A F:=by have:=hB.1;unfold arWl at this;rw [if_neg (by rw [h3];decide)] at this;exact this
    have ke:=hV.turn hF hB.2 hA
    refine opI_call (f:=67) (args:=#[.pointer (some ⟨v,0,none⟩),.int .i64 x,.int .i64 b,recV (.shard s)]) (w1:=w') (by simp only [execOp,show o.op=Op.call { callee:=Callee.value (Operand.func 67),args:=#[.tmp 13,.tmp 14,.tmp 15,.tmp 23],argTypes:=#[91,3,3,164] } from ho];go_simp;exact ⟨by simpa [Act.eval] using u0,by simpa [Act.eval] using u1,by simpa [Act.eval] using u2,by simpa [Act.eval] using u3⟩) (by rw [ho];intro c h;cases h) h0 (ha w' hA ke) ?_
    rintro e w'' ⟨u,rfl,hu,kf,kg⟩
    refine ⟨_,rfl,⟨?_,hB.2.trans kg⟩,by unfold VWl;rw [if_pos rfl];exact hu,kq⟩
    have e:arWl A A2 (upd Dn 11)=A2:=by unfold arWl upd;rw [if_pos (by rw [if_pos rfl])]
    rw [e];exact kf
   | 12,_=>
    intro o a' w' Dn hg ho h0 hk h3 h7 h1 hB h2
    have u0:X (a'.eval (.tmp 24)):=by have:=h2 11 (h1 11 (by decide));unfold VWl at this;rwa [if_pos rfl] at this
    exact opI_val (hX o a' w' ho u0) (by rw [ho];intro c h;cases h) h0 ⟨BWl_upd hB _ (by decide),VWl_mk (by decide) rfl,kq⟩
   | n+13,hn=>exact absurd hn (by show ¬ n+13 < 13;omega)
 · rintro a' w' kh _ ⟨Dn,hD,hB⟩ h2
   have e:arWl A A2 Dn=A2:=by unfold arWl;rw [if_pos (hD 11 (by decide))]
   have hA:=hB.1
   rw [e] at hA
   have e:a'=Act.putFrom a 13 (((List.range 12).map fun i=>a'.eval (.tmp (13+i))) ++ [.bool bv]):=kh.out _ (by simp) (by omega) (fun i hi=>by
    simp at hi
    by_cases hf:i=12
    · subst hf
      have:=VWl_at (by decide) (h2 12 (by decide))
      simpa [slotD,shAt,shWs,vsWl] using this
    · rw [List.getD_eq_getElem?_getD,List.getElem?_append_left (by simp;omega),List.getElem?_map,List.getElem?_range (by omega)];rfl)
   rw [e]
   exact hQ w' _ (by rw [List.length_map,List.length_range]) hA hB.2
structure WsL (w:World) (v p b g m c:Nat) (R:List (List Nat)) (A:Arr) (F:Foot) (B S:Nat) (pre:List (Mb S)) (X:World):Prop where
 b0:Boxed X w.heap.size 91 (.pointer (some ⟨v,0,none⟩))
 b1:Boxed X (w.heap.size+1) 3 (.int .i64 b)
 b2:Boxed X (w.heap.size+1+1) 57 (.slice (some ⟨g,0,none⟩) m c)
 b3:Boxed X (w.heap.size+1+1+1) 101 (.int .u64 (lsOf A (preM pre):Nat))
 arr:ArrAt X p (A.putL (preM pre) b (fun i=>(Rec.shard (R.getD i [])).blk)) F
 out:Outside (F.has p A.n) w X
 size:B≤X.heap.size
theorem WsL.own {b g m c:Nat} {R:List (List Nat)} {B S:Nat} (hB:w.heap.size+4≤B) (hF:∀ k,F.has p A.n k→k < w.heap.size):OwnFrom B (WsL w v p b g m c R A F B S):=by
 rintro pre X Y row ⟨h0,h1,h2,h3,h4,h5,h6⟩ hg hr
 have hk:∀ k,k < w.heap.size+4→Y.heap[k]?=X.heap[k]?:=fun k hk=>hg.block k (by omega) (fun e=>by have:=(hr k e.symm).1;omega)
 have hO:Outside (F.has p A.n) w Y:=h5.later (T:=fun k=>w.heap.size≤k) ⟨hg.os,hg.tape,hg.output,hg.size,fun k h7 h8=>hk k (by omega)⟩ (fun k h7 h8=>by omega)
 exact ⟨(hk _ (by omega)).trans h0,(hk _ (by omega)).trans h1,(hk _ (by omega)).trans h2,(hk _ (by omega)).trans h3,h4.keep fun k h9=>hk k (by have:=hF k h9;omega),hO,Nat.le_trans h6 hg.size⟩
theorem writeShards_any (hV:Vol w v p D L G ps ho A F) (hF:Free F p A.n v) (hf:A.fit) (b S:Nat) (hb:b < A.nb) (hS:S < 65536) (kd:∀ i,i∈mems S→i < A.n) (hw:A.wait < 0)
 {g m c base:Nat} {R:List (List Nat)} (hR:Rws w base g R) (k8:∀ i,i∈mems S→i < R.length) (hm:R.length≤m) (ha:∀ k,F.has p A.n k→k < base) :
 Calls Tryz.prog 50 #[.pointer (some ⟨v,0,none⟩),.int .i64 b,.slice (some ⟨g,0,none⟩) m c,.int .u64 S] w fun e w'=>e=.returned (.int .u64 (lsOf A (mems S):Nat))∧ArrAt w' p (A.putL (mems S) b (fun i=>(Rec.shard (R.getD i [])).blk)) F∧Outside (F.has p A.n) w w':=by
 obtain ⟨n,HN⟩:∃ n:Nat,Hid (9≤n):=⟨9,Nat.le_refl _⟩
 have hj:∀ k,F.has p A.n k→k < w.heap.size:=fun k hk=>hV.arr.has_lt hk
 have h7:∀ i,i∈mems S→(Rec.shard (R.getD i [])).ok:=fun i hi=>by
  have ke:=k8 i hi
  obtain ⟨_,_,_,_,_,_,_,q1,q2⟩:=hR.2.2 i ke
  have e:R.getD i []=R[i]:=by simp [ke]
  rw [e];exact ⟨q1,q2⟩
 refine (callsIn_wide (n:=n)).1 ?_
 refine callsIn_of_wp_marks Tryz.func50 rfl trivial ?_ rfl
 simp only [Tryz.ntmps50,List.size_toArray,List.length_cons,List.length_nil,Nat.reduceAdd,Nat.reduceSub,Array.replicate_succ,Array.replicate_zero,List.push_toArray,List.append_toArray,List.nil_append,List.cons_append]
 gi_wp2
 obtain ⟨w4,hc⟩:∃ w4,(((w.alloc (.cells #[.pointer (some ⟨v,0,none⟩)] 91)).alloc (.cells #[.int .i64 (b:Int)] 3)).alloc (.cells #[.slice (some ⟨g,0,none⟩) m c] 57)).alloc (.cells #[.int .u64 0] 101)=w4:=⟨_,rfl⟩
 have h0:Boxed w4 w.heap.size 91 (.pointer (some ⟨v,0,none⟩)):=by rw [← hc];exact (((Boxed.new w _ _).alloc _).alloc _).alloc _
 have h1:Boxed w4 (w.heap.size+1) 3 (.int .i64 b):=by
  rw [← hc]
  have:=Boxed.new (w.alloc (.cells #[.pointer (some ⟨v,0,none⟩)] 91)) 3 (.int .i64 b)
  rw [World.size_alloc] at this
  exact (this.alloc _).alloc _
 have h2:Boxed w4 (w.heap.size+1+1) 57 (.slice (some ⟨g,0,none⟩) m c):=by
  rw [← hc]
  have:=Boxed.new ((w.alloc (.cells #[.pointer (some ⟨v,0,none⟩)] 91)).alloc (.cells #[.int .i64 (b:Int)] 3)) 57 (.slice (some ⟨g,0,none⟩) m c)
  rw [World.size_alloc,World.size_alloc] at this
  exact this.alloc _
 have h3:Boxed w4 (w.heap.size+1+1+1) 101 (.int .u64 0):=by
  rw [← hc]
  have:=Boxed.new (((w.alloc (.cells #[.pointer (some ⟨v,0,none⟩)] 91)).alloc (.cells #[.int .i64 (b:Int)] 3)).alloc (.cells #[.slice (some ⟨g,0,none⟩) m c] 57)) 101 (.int .u64 0)
  rw [World.size_alloc,World.size_alloc,World.size_alloc] at this
  exact this
 have k9:w4.heap.size=w.heap.size+4:=by rw [← hc];simp
 have kf:Below w.heap.size w w4:=by rw [← hc];exact ((((Below.refl _ w).alloc (Nat.le_refl _) _).alloc (by simp) _).alloc (by simp;omega) _).alloc (by simp;omega) _
 rw [hc]
 clear hc
 refine at_wide (members_any S w4) ?_
 rintro e w' ⟨rfl,rfl⟩
 have kg:(w4.alloc (.cells #[.int .u64 (S:Int)] 101)).heap.size=w4.heap.size+1:=by simp
 have kh:(w4.alloc (.cells #[.int .u64 (S:Int)] 101)).cell? ⟨w4.heap.size,0,none⟩=some (.int .u64 (S:Int)):=(Boxed.new w4 101 (.int .u64 (S:Int))).cell
 have k0:Below w.heap.size w (w4.alloc (.cells #[.int .u64 (S:Int)] 101)):=kf.alloc (by omega) _
 have ki:WsL w v p b g m c R A F (w4.heap.size+1) S [] (w4.alloc (.cells #[.int .u64 (S:Int)] 101)):=
  ⟨h0.alloc _,h1.alloc _,h2.alloc _,h3.alloc _,by rw [show preM ([]:List (Mb S))=[] from rfl,putL_nil];exact hV.arr.below k0 (Nat.le_refl _),Outside.of_all k0 _,by omega⟩
 obtain ⟨w6,kj⟩:∃ w6,w4.alloc (.cells #[.int .u64 (S:Int)] 101)=w6:=⟨_,rfl⟩
 have kk:=hide kh
 have k5:=hide2 ki k0
 have kr:=hide k9
 clear kh ki h0 h1 h2 h3 kf k0 k9
 gi_wp2
 obtain ⟨k9,ks⟩:w.heap.size+4≤w4.heap.size∧w4.heap.size≤w.heap.size+4:=by have:=kr.out;omega
 rw [kj] at kg kk k5
 clear kj
 rw [← kg] at k5
 refine wpIn_rangeFunc_ownG rfl (by have:=HN.out;omega) (gf:=83) (lb:=#[.pointer (some ⟨w4.heap.size,0,none⟩)]) rfl trivial (enters_of Tryz.func83 (by kernel_rfl) rfl)
  (members_mb (n - 1) w4.heap.size S hS w6 (by omega) kk.out (by have:=hV.room;omega) (hV.tab.mono (by exact hV.tab.lt) k5.out.2)) (fun h k=>kpT_t h k) (kpT_b (by have:=hV.room;omega)) (Below.refl _ _) (fun _=>rfl)
  (WsL w v p b g m c R A F w6.heap.size S) (fun _ _ _=>False) (WsL.own (by omega) hj) (fun _ _ _ _ _ h _ _=>h.elim) k5.out.1
  (fun x=>{ tmps:=#[.pointer (some ⟨v,0,none⟩),.int .i64 (b:Int),.slice (some ⟨g,0,none⟩) m c,.int .u64 (S:Int),.pointer (some ⟨w.heap.size,0,none⟩),.pointer (some ⟨w.heap.size+1,0,none⟩),.pointer (some ⟨w.heap.size+1+1,0,none⟩),undef,.pointer (some ⟨w.heap.size+1+1+1,0,none⟩),.int .i64 (x.1:Int),.int .u64 (S:Int),.func (.func 83) #[] #[.pointer (some ⟨w4.heap.size,0,none⟩)],.int .i64 (x.1:Int),undef,undef,undef,undef,undef,undef,undef,undef,undef,undef,undef,undef,undef,undef,undef,undef,undef],defers:=[] }) ?assign ?body ?done ?stop
 case assign=>
  intro l2 x X Kk hK
  unfold encMb
  gi_wp2
  exact hK
 case body=>
  rintro l2 pre x X hi ka
  have he:x.1∈mems S:=mem_mems.2 x.2
  have hg:=hV.turn hF hi.out hi.arr
  have hh:Rws X base g R:=hR.keep hi.out.size (fun k hk kv=>hi.out.block k kv (fun q=>by have:=ha k q;omega))
  have h4:=hi.b3.lt
  have HI:=hide3 hi hg hh
  clear ka hi hg hh
  gi_wp2
  obtain ⟨hi,hg,hh⟩:=HI.out
  have kx:=lsOf_lt A (preM pre) (fun d hd=>by obtain ⟨y,_,rfl⟩:=List.mem_map.1 hd;exact y.2.1)
  have ky:=x.2.1
  have hn:(A.putL (preM pre) b (fun i=>(Rec.shard (R.getD i [])).blk)).fit:=hf.putAt _ _ _ fun i kz=>by
   have km:=(List.mem_filter.1 kz).1
   unfold preM at km
   obtain ⟨y,_,rfl⟩:=List.mem_map.1 km
   exact ⟨blk_len (h7 _ (mem_mems.2 y.2)),blk_lt (h7 _ (mem_mems.2 y.2))⟩
  have k6:∀ k,F.has p A.n k→k < base∧k≠w.heap.size∧k≠w.heap.size+1∧k≠w.heap.size+1+1:=fun k q=>by
   have h1:k < w.heap.size:=hj k q
   exact ⟨ha k q,by omega,by omega,by omega⟩
  cases h8:A.lost x.1 with
  | false=>
   refine writeShards_regionL (by kernel_rfl) hg hF hn x.1 b (A2:=A.putL (preM pre ++ [x.1]) b (fun i=>(Rec.shard (R.getD i [])).blk)) (fun u=>u=.nilIface) false (fun o a' w' ho (hu:a'.eval (.tmp 24)=.nilIface)=>by simp only [execOp,ho,hu];go_simp) hi.b0 hi.b1 hi.b2 hh (k8 _ he) hm k6 rfl
    (fun w' k7 hs=>(volWrite_ok hs.vol k7 hn x.1 b (kd _ he) hb hw h8 _ (h7 _ he) (makes_shard (h7 _ he)) hs.laid hF.g hF.v).mono (by
     rintro e w'' ⟨rfl,h9,h6⟩
     rw [putL_snoc A (preM pre) x.1 b (fun i=>(Rec.shard (R.getD i [])).blk) h8] at h9
     exact ⟨_,rfl,rfl,h9,h6⟩)) rfl rfl rfl rfl ?_
   intro w2 vs hy h9 h6
   obtain ⟨x0,x1,x2,x3,x4,x5,x6,x7,x8,x9,xa,xb,rfl⟩:=list12 hy
   have h5:∀ k,w.heap.size≤k→k < X.heap.size→w2.heap[k]?=X.heap[k]?:=fun k hk kb=>h6.block k kb (fun q=>by have:=hj k q;omega)
   have H2:=hide4 h9 h6 h5 h8
   clear h9 h6 h5 hi hg hh hy kx hn k6 h8
   rename_i hK
   refine hK _ _ ?_
   clear hK
   simp only [Act.putFrom,Act.put,List.setIfInBounds_toArray,List.set_cons_succ,List.set_cons_zero,List.cons_append,List.nil_append]
   gi_wp2
   obtain ⟨h9,h6,h5,h8⟩:=H2.out
   have hi:=HI.out.1
   have hO:Outside (F.has p A.n) w w2:=hi.out.trans h6
   refine ⟨⟨h6.size,fun k o hk ho _=>(h5 k (by omega) (Array.getElem?_eq_some_iff.1 ho).1).trans ho⟩,fun _=>hV.tab.keep (hO.block _ hV.tab.lt hF.t),?_⟩
   exact ⟨(h5 _ (by omega) (by omega)).trans hi.b0,(h5 _ (by omega) (by omega)).trans hi.b1,(h5 _ (by omega) (by omega)).trans hi.b2,by rw [preM_snoc,lsOf_ok _ _ _ h8];exact (h5 _ (by omega) (by omega)).trans hi.b3,by rw [preM_snoc];exact h9,hO,Nat.le_trans hi.size h6.size⟩
  | true=>
   refine writeShards_regionL (by kernel_rfl) hg hF hn x.1 b (A2:=A.putL (preM pre) b (fun i=>(Rec.shard (R.getD i [])).blk)) (fun u=>∃ q,u=beV q) true (fun o a' w' ho hu=>by obtain ⟨q,hq⟩:=hu;unfold beV at hq;simp only [execOp,ho,hq];go_simp) hi.b0 hi.b1 hi.b2 hh (k8 _ he) hm k6 rfl
    (fun w' k7 hs=>(volWrite_lost hs.vol k7 hn x.1 b (kd _ he) (by show A.wait≠0;omega) h8 _ (h7 _ he) (makes_shard (h7 _ he)) hs.laid).mono (by
     rintro e w'' ⟨q,rfl,_,_,kn⟩
     exact ⟨_,rfl,⟨q,rfl⟩,k7.below kn (Nat.le_refl _),Outside.of_all kn _⟩)) rfl rfl rfl rfl ?_
   intro w2 vs hy h9 h6
   obtain ⟨x0,x1,x2,x3,x4,x5,x6,x7,x8,x9,xa,xb,rfl⟩:=list12 hy
   have h5:∀ k,w.heap.size≤k→k < X.heap.size→w2.heap[k]?=X.heap[k]?:=fun k hk kb=>h6.block k kb (fun q=>by have:=hj k q;omega)
   have hp:Boxed w2 (w.heap.size+1+1+1) 101 (.int .u64 (lsOf A (preM pre):Nat)):=(h5 _ (by omega) hi.b3.lt).trans hi.b3
   have d0:=hp.cell
   have d1:=hp.frozen
   have kc:=with_any (lsOf A (preM pre)) x.1 (by omega) (by omega) w2
   rw [← lsOf_lost _ _ _ h8] at kc
   have H2:=hide5 h9 h6 h5 h8 hp
   clear h9 h6 h5 hi hg hh hy hn k6 h8 hp
   generalize lsOf A (preM pre)=ls at *
   generalize ko:lsOf A (preM pre ++ [x.1])=ls2 at *
   have q0:=hide ko
   clear ko
   rename_i hK
   refine hK _ _ ?_
   clear hK
   simp only [Act.putFrom,Act.put,List.setIfInBounds_toArray,List.set_cons_succ,List.set_cons_zero,List.cons_append,List.nil_append]
   gi_wp2
   refine at_round kc ?_
   rintro e w3 ⟨rfl,rfl⟩
   clear kc
   gi_wp2
   obtain ⟨h9,h6,h5,h8,hp⟩:=H2.out
   have hi:=HI.out.1
   have qb:=h6.size
   have kp:X.heap.size≤(w3.setCell ⟨w.heap.size+1+1+1,0,none⟩ (.int .u64 (ls2:Nat))).heap.size:=by simp [World.setCell];omega
   have hr:∀ k,k≠w.heap.size+1+1+1→(w3.setCell ⟨w.heap.size+1+1+1,0,none⟩ (.int .u64 (ls2:Nat))).heap[k]?=w3.heap[k]?:=fun k hk=>blk_setCell_other _ _ _ _ hk
   have hO:Outside (F.has p A.n) w (w3.setCell ⟨w.heap.size+1+1+1,0,none⟩ (.int .u64 (ls2:Nat))):=(hi.out.trans h6).later (T:=fun k=>k=w.heap.size+1+1+1) ⟨rfl,rfl,rfl,by simp [World.setCell],fun k _ q3=>hr k q3⟩ (fun k h1 h2=>by omega)
   have qc:=hi.size
   refine ⟨⟨kp,fun k o hk ho _=>(hr k (by omega)).trans ((h5 k (by omega) (Array.getElem?_eq_some_iff.1 ho).1).trans ho)⟩,fun _=>hV.tab.keep (hO.block _ hV.tab.lt hF.t),?_⟩
   exact ⟨(hr _ (by omega)).trans ((h5 _ (by omega) (by omega)).trans hi.b0),(hr _ (by omega)).trans ((h5 _ (by omega) (by omega)).trans hi.b1),(hr _ (by omega)).trans ((h5 _ (by omega) (by omega)).trans hi.b2),by rw [preM_snoc,q0.out];exact hp.set _,by rw [preM_snoc,putL_lost _ _ _ _ _ h8];exact h9.keep fun k hk=>hr k (by have:=hj k hk;omega),hO,Nat.le_trans hi.size kp⟩
 case done=>
  rintro D' xs X q4 q5 hi hK
  have c3:=hi.b3.cell
  have f3:=hi.b3.frozen
  have HI:=hide2 hi hK
  clear hi hK
  gi_wp2
  obtain ⟨hi,hK⟩:=HI.out
  have hz:preM xs=mems S:=q5
  have q6:=hi.b3.set (.int .u64 (lsOf A (preM xs):Nat))
  have q7:=KeepsOthers.setCell X ⟨w.heap.size+1+1+1,0,none⟩ (.int .u64 (lsOf A (preM xs):Nat))
  have q8:=q7.same D' _ hK rfl
  have qd:=(Array.getElem?_eq_some_iff.1 hK).1
  refine end_cell (b:=w.heap.size+1+1+1) (t8:=8) Tryz.results50 rfl rfl (load_set (s:=lsOf A (preM xs)) q6) q8 (by omega) ⟨by rw [hz],?_,?_⟩
  · have h4:=hi.arr
    rw [hz] at h4
    exact h4.keep fun k hk=>by have:=hj k hk;exact (World.putObj_heap_other (by omega)).trans (blk_setCell_other _ _ _ _ (by show k≠w.heap.size+1+1+1;omega))
  · exact hi.out.later (T:=fun k=>w.heap.size≤k) ⟨rfl,rfl,rfl,by simp [World.setCell,World.putObj],fun k _ q9=>(World.putObj_heap_other (by omega)).trans (blk_setCell_other _ _ _ _ (by show k≠w.heap.size+1+1+1;omega))⟩ (fun k qe q9=>by omega)
 case stop=>
  rintro D' cc pre X q4 qa hx hK
  exact hx.elim
end
noncomputable def RMd:Array Oper:=((Tryz.f35.body.bind (rgf · 7))).getD #[]
def shMd:List (Op×Option Nat×List Nat):=[(Op.load 101 (.tmp 4),some 29,[]),
 (Op.load 52 (.tmp 2),some 30,[]),
 (Op.nilCheck (.tmp 30),some 31,[1]),
 (Op.fieldAddr 98 (.tmp 31) 0,some 32,[2]),
 (Op.load 91 (.tmp 32),some 33,[3]),
 (Op.move (.tmp 7),some 34,[]),
 (Op.move (.tmp 8),some 35,[]),
 (Op.load 126 (.tmp 3),some 36,[]),
 (Op.move (.tmp 9),some 37,[]),
 (Op.call { callee:=Callee.value (.tmp 36),args:=#[.tmp 37],argTypes:=#[101] },some 38,[7,8]),
 (Op.call { callee:=Callee.value (Operand.func 50),args:=#[.tmp 33,.tmp 34,.tmp 35,.tmp 38],argTypes:=#[91,3,57,101] },some 39,[4,5,6,9,9]),
 (Op.binOp BinOp.or 101 (.tmp 29) (.tmp 39) 101,some 40,[0,10]),
 (Op.store 101 (.tmp 4) (.tmp 40),none,[11,10,0,1,2,3,4,5,6,7,8,9,10,11])]
theorem RMd_shape:RegShape RMd 29 41 shMd:=regShape (by kernel_rfl) (by kernel_rfl)
def vsMd (l ar v x g N q bd S ls lo:Nat):List Value:=[.int .u64 l,.pointer (some ⟨ar,0,none⟩),.pointer (some ⟨ar,0,none⟩),.pointer (some ⟨ar,0,none⟩),.pointer (some ⟨v,0,none⟩),.int .i64 x,.slice (some ⟨g,0,none⟩) N N,.func (.func 36) #[] #[.pointer (some ⟨q,0,none⟩)],.int .u64 bd,.int .u64 S,.int .u64 ls,.int .u64 lo,undef]
def BMd (w0:World) (T:Nat→Prop) (K:World→Prop) (q4 lo:Nat) (Dn:Nat→Bool) (w:World):Prop:=if Dn 12=true then ∃ Z,K Z∧Outside T w0 Z∧w=Z.setCell ⟨q4,0,none⟩ (.int .u64 (lo:Nat)) else Outside T w0 w∧(if Dn 10=true then K w else w=w0)
theorem BMd_upd (h:BMd w0 T K q4 lo Dn w) (i:Nat) (hi:i≠10) (hj:i≠12):BMd w0 T K q4 lo (upd Dn i) w:=by
 have e1:upd Dn i 12=Dn 12:=by unfold upd;rw [if_neg (fun e:12=i=>hj e.symm)]
 have e2:upd Dn i 10=Dn 10:=by unfold upd;rw [if_neg (fun e:10=i=>hi e.symm)]
 unfold BMd
 rw [e1,e2]
 exact h
theorem BMd_out (h:BMd w0 T K q4 lo Dn w) (hn:Dn 12=false):Outside T w0 w:=by
 unfold BMd at h
 rw [if_neg (by rw [hn];decide)] at h
 exact h.1
theorem mend_region {lr:Nat} (ha:RMd=ops) (hx:a.tmps.size=62) {T:Nat→Prop} {K:World→Prop} {l ar v x g N q bd S ls lo q2 q3 q4:Nat}
 (h2:Boxed w q2 52 (.pointer (some ⟨ar,0,none⟩))) (h3:Boxed w q3 126 (chsV q)) (h4:Boxed w q4 101 (.int .u64 l)) (hh:ar < w.heap.size) (hv:w.cell? ⟨ar,0,none⟩=some (.pointer (some ⟨v,0,none⟩)))
 (t2:¬ T q2) (t3:¬ T q3) (t4:¬ T q4) (ta:¬ T ar) (hj:∀ w':World,(binOp .or 101 (.int .u64 l) (.int .u64 ls)).run Tryz.prog w'=.ok (.int .u64 lo) w')
 (hm:Calls Tryz.prog 36 #[.int .u64 bd,.pointer (some ⟨q,0,none⟩)] w.drew fun e w'=>e=.returned (.int .u64 S)∧w'=w.drew)
 (hp:Calls Tryz.prog 50 #[.pointer (some ⟨v,0,none⟩),.int .i64 x,.slice (some ⟨g,0,none⟩) N N,.int .u64 S] w.drew fun e w'=>e=.returned (.int .u64 ls)∧K w'∧Outside T w.drew w')
 (e2:a.eval (.tmp 2)=.pointer (some ⟨q2,0,none⟩)) (e3:a.eval (.tmp 3)=.pointer (some ⟨q3,0,none⟩)) (e4:a.eval (.tmp 4)=.pointer (some ⟨q4,0,none⟩)) (e7:a.eval (.tmp 7)=.int .i64 x) (e8:a.eval (.tmp 8)=.slice (some ⟨g,0,none⟩) N N) (e9:a.eval (.tmp 9)=.int .u64 bd)
 (hQ:∀ (Z:World) (vs:List Value),vs.length=12→K Z→Outside T w.drew Z→Q .normal (Act.putFrom a 29 vs) (Z.setCell ⟨q4,0,none⟩ (.int .u64 (lo:Nat)))) :
 (Code.region 7 ops true).wpIn (Fence.wide.inRound lr) n Tryz.prog Q a w:=by
 subst ha
 unfold chsV at h3
 have hy:∀ (args:Array Value) (w:World),(callFunc 36 args).run Tryz.prog w=.ok (.enter 36 args) w:=enters_of Tryz.func36 (by kernel_rfl) rfl
 refine region_factsI (by kernel_rfl) RMd_shape a w (by omega) (fun i u _=>u=(vsMd l ar v x g N q bd S ls lo).getD i undef) (BMd w.drew T K q4 lo) ⟨Outside.refl _ _,rfl⟩ ?_ ?_
 · intro i hi
   match i,hi with
   | 0,_=>
    intro o a' w' Dn hg ho h1 hk h7 h8 h0 hB h6
    have h5:Dn 12=false:=by
     cases e:Dn 12 with
     | false=>rfl
     | true=>exact absurd ((h8 12 e).2 0 (by decide)) (by rw [h7];decide)
    have hO:=BMd_out hB h5
    have u0:a'.eval (.tmp 4)=.pointer (some ⟨q4,0,none⟩):=(hk.slot 4 (by omega)).trans e4
    have cc:=(show Boxed w' q4 101 (.int .u64 l) from (hO.block _ h4.lt t4).trans h4).cell
    exact opI_val (v:=.int .u64 l) (by simp only [execOp,show o.op=Op.load 101 (.tmp 4) from ho,u0];go_simp) (by rw [ho];intro c h;cases h) h1 ⟨BMd_upd hB _ (by decide) (by decide),rfl,kq⟩
   | 1,_=>
    intro o a' w' Dn hg ho h1 hk h7 h8 h0 hB h6
    have h5:Dn 12=false:=by
     cases e:Dn 12 with
     | false=>rfl
     | true=>exact absurd ((h8 12 e).2 1 (by decide)) (by rw [h7];decide)
    have hO:=BMd_out hB h5
    have u0:a'.eval (.tmp 2)=.pointer (some ⟨q2,0,none⟩):=(hk.slot 2 (by omega)).trans e2
    have cc:=(show Boxed w' q2 52 (.pointer (some ⟨ar,0,none⟩)) from (hO.block _ h2.lt t2).trans h2).cell
    exact opI_val (v:=.pointer (some ⟨ar,0,none⟩)) (by simp only [execOp,show o.op=Op.load 52 (.tmp 2) from ho,u0];go_simp) (by rw [ho];intro c h;cases h) h1 ⟨BMd_upd hB _ (by decide) (by decide),rfl,kq⟩
   | 2,_=>
    intro o a' w' Dn hg ho h1 hk h7 h8 h0 hB h6
    exact opI_val (v:=.pointer (some ⟨ar,0,none⟩)) (run_op_nil ho (h6 1 (h0 1 (by decide))) w') (by rw [ho];intro c h;cases h) h1 ⟨BMd_upd hB _ (by decide) (by decide),rfl,kq⟩
   | 3,_=>
    intro o a' w' Dn hg ho h1 hk h7 h8 h0 hB h6
    have u0:a'.eval (.tmp 31)=.pointer (some ⟨ar,0,none⟩):=h6 2 (h0 2 (by decide))
    exact opI_val (v:=.pointer (some ⟨ar,0,none⟩)) (by simp only [execOp,show o.op=Op.fieldAddr 98 (.tmp 31) 0 from ho,u0];go_simp) (by rw [ho];intro c h;cases h) h1 ⟨BMd_upd hB _ (by decide) (by decide),rfl,kq⟩
   | 4,_=>
    intro o a' w' Dn hg ho h1 hk h7 h8 h0 hB h6
    have h5:Dn 12=false:=by
     cases e:Dn 12 with
     | false=>rfl
     | true=>exact absurd ((h8 12 e).2 4 (by decide)) (by rw [h7];decide)
    have hO:=BMd_out hB h5
    have u0:a'.eval (.tmp 32)=.pointer (some ⟨ar,0,none⟩):=h6 3 (h0 3 (by decide))
    have cc:w'.cell? ⟨ar,0,none⟩=some (.pointer (some ⟨v,0,none⟩)):=(World.cell?_of_block (hO.block _ hh ta)).trans hv
    exact opI_val (v:=.pointer (some ⟨v,0,none⟩)) (by simp only [execOp,show o.op=Op.load 91 (.tmp 32) from ho,u0];go_simp) (by rw [ho];intro c h;cases h) h1 ⟨BMd_upd hB _ (by decide) (by decide),rfl,kq⟩
   | 5,_=>
    intro o a' w' Dn hg ho h1 hk h7 h8 h0 hB h6
    exact opI_val (run_op_move ho ((hk.slot 7 (by omega)).trans e7) w') (by rw [ho];intro c h;cases h) h1 ⟨BMd_upd hB _ (by decide) (by decide),rfl,kq⟩
   | 6,_=>
    intro o a' w' Dn hg ho h1 hk h7 h8 h0 hB h6
    exact opI_val (run_op_move ho ((hk.slot 8 (by omega)).trans e8) w') (by rw [ho];intro c h;cases h) h1 ⟨BMd_upd hB _ (by decide) (by decide),rfl,kq⟩
   | 7,_=>
    intro o a' w' Dn hg ho h1 hk h7 h8 h0 hB h6
    have h5:Dn 12=false:=by
     cases e:Dn 12 with
     | false=>rfl
     | true=>exact absurd ((h8 12 e).2 7 (by decide)) (by rw [h7];decide)
    have hO:=BMd_out hB h5
    have u0:a'.eval (.tmp 3)=.pointer (some ⟨q3,0,none⟩):=(hk.slot 3 (by omega)).trans e3
    have cc:=(show Boxed w' q3 126 (.func (.func 36) #[] #[.pointer (some ⟨q,0,none⟩)]) from (hO.block _ h3.lt t3).trans h3).cell
    exact opI_val (v:=.func (.func 36) #[] #[.pointer (some ⟨q,0,none⟩)]) (by simp only [execOp,show o.op=Op.load 126 (.tmp 3) from ho,u0];go_simp) (by rw [ho];intro c h;cases h) h1 ⟨BMd_upd hB _ (by decide) (by decide),rfl,kq⟩
   | 8,_=>
    intro o a' w' Dn hg ho h1 hk h7 h8 h0 hB h6
    exact opI_val (run_op_move ho ((hk.slot 9 (by omega)).trans e9) w') (by rw [ho];intro c h;cases h) h1 ⟨BMd_upd hB _ (by decide) (by decide),rfl,kq⟩
   | 9,_=>
    intro o a' w' Dn hg ho h1 hk h7 h8 h0 hB h6
    have h5:Dn 12=false:=by
     cases e:Dn 12 with
     | false=>rfl
     | true=>exact absurd ((h8 12 e).2 9 (by decide)) (by rw [h7];decide)
    have hO:=BMd_out hB h5
    have hc:Dn 10=false:=by
     cases e:Dn 10 with
     | false=>rfl
     | true=>exact absurd ((h8 10 e).2 9 (by decide)) (by rw [h7];decide)
    have h9:w'=w.drew:=by
     unfold BMd at hB
     rw [if_neg (by rw [h5];decide)] at hB
     have:=hB.2
     rwa [if_neg (by rw [hc];decide)] at this
    have u0:a'.eval (.tmp 36)=.func (.func 36) #[] #[.pointer (some ⟨q,0,none⟩)]:=h6 7 (h0 7 (by decide))
    have u1:a'.eval (.tmp 37)=.int .u64 bd:=h6 8 (h0 8 (by decide))
    have u0':a'.tmps[36]?.getD undef=.func (.func 36) #[] #[.pointer (some ⟨q,0,none⟩)]:=by simpa [Act.eval] using u0
    have u1':a'.tmps[37]?.getD undef=.int .u64 bd:=by simpa [Act.eval] using u1
    refine opI_call (f:=36) (args:=#[.int .u64 bd,.pointer (some ⟨q,0,none⟩)]) (w1:=w') (by simp only [execOp,show o.op=Op.call { callee:=Callee.value (.tmp 36),args:=#[.tmp 37],argTypes:=#[101] } from ho];go_simp) (by rw [ho];intro c h;cases h) h1 (by rw [h9];exact hm) ?_
    rintro e w'' ⟨rfl,rfl⟩
    have hf:=BMd_upd hB 9 (by decide) (by decide)
    rw [h9] at hf
    exact ⟨_,rfl,hf,rfl,kq⟩
   | 10,_=>
    intro o a' w' Dn hg ho h1 hk h7 h8 h0 hB h6
    have h5:Dn 12=false:=by
     cases e:Dn 12 with
     | false=>rfl
     | true=>exact absurd ((h8 12 e).2 10 (by decide)) (by rw [h7];decide)
    have hO:=BMd_out hB h5
    have h9:w'=w.drew:=by
     unfold BMd at hB
     rw [if_neg (by rw [h5];decide)] at hB
     have:=hB.2
     rwa [if_neg (by rw [h7];decide)] at this
    have u0:a'.eval (.tmp 33)=.pointer (some ⟨v,0,none⟩):=h6 4 (h0 4 (by decide))
    have u1:a'.eval (.tmp 34)=.int .i64 x:=h6 5 (h0 5 (by decide))
    have u2:a'.eval (.tmp 35)=.slice (some ⟨g,0,none⟩) N N:=h6 6 (h0 6 (by decide))
    have u3:a'.eval (.tmp 38)=.int .u64 S:=h6 9 (h0 9 (by decide))
    refine opI_call (f:=50) (args:=#[.pointer (some ⟨v,0,none⟩),.int .i64 x,.slice (some ⟨g,0,none⟩) N N,.int .u64 S]) (w1:=w') (by simp only [execOp,show o.op=Op.call { callee:=Callee.value (Operand.func 50),args:=#[.tmp 33,.tmp 34,.tmp 35,.tmp 38],argTypes:=#[91,3,57,101] } from ho];go_simp;exact ⟨by simpa [Act.eval] using u0,by simpa [Act.eval] using u1,by simpa [Act.eval] using u2,by simpa [Act.eval] using u3⟩) (by rw [ho];intro c h;cases h) h1 (by rw [h9];exact hp) ?_
    rintro e w'' ⟨rfl,hK,hq⟩
    refine ⟨_,rfl,?_,rfl,kq⟩
    unfold BMd
    rw [if_neg (by show ¬ upd Dn 10 12=true;unfold upd;rw [if_neg (by decide),h5];decide),if_pos (by unfold upd;rw [if_pos rfl])]
    exact ⟨hq,hK⟩
   | 11,_=>
    intro o a' w' Dn hg ho h1 hk h7 h8 h0 hB h6
    have u0:a'.eval (.tmp 29)=.int .u64 l:=h6 0 (h0 0 (by decide))
    have u1:a'.eval (.tmp 39)=.int .u64 ls:=h6 10 (h0 10 (by decide))
    have he:=hj w'
    exact opI_val (v:=.int .u64 lo) (by simp [execOp,show o.op=Op.binOp BinOp.or 101 (.tmp 29) (.tmp 39) 101 from ho,u0,u1,eqGuard,he]) (by rw [ho];intro c h;cases h) h1 ⟨BMd_upd hB _ (by decide) (by decide),rfl,kq⟩
   | 12,_=>
    intro o a' w' Dn hg ho h1 hk h7 h8 h0 hB h6
    have hO:=BMd_out hB h7
    have u0:a'.eval (.tmp 4)=.pointer (some ⟨q4,0,none⟩):=(hk.slot 4 (by omega)).trans e4
    have u1:a'.eval (.tmp 40)=.int .u64 lo:=h6 11 (h0 11 (by decide))
    have hb:=show Boxed w' q4 101 (.int .u64 l) from (hO.block _ h4.lt t4).trans h4
    have c4:=hb.cell
    have f4:=hb.frozen
    refine opI_skip (w':=w'.setCell ⟨q4,0,none⟩ (.int .u64 lo)) (by simp only [execOp,show o.op=Op.store 101 (.tmp 4) (.tmp 40) from ho,u0,u1];go_simp) (by rw [ho];intro c h;cases h) ⟨?_,rfl,kq⟩
    have hr:K w':=by
     unfold BMd at hB
     rw [if_neg (by rw [h7];decide)] at hB
     have:=hB.2
     rwa [if_pos (h0 10 (by decide))] at this
    unfold BMd
    rw [if_pos (by unfold upd;rw [if_pos rfl])]
    exact ⟨w',hr,hO,rfl⟩
   | n+13,hn=>exact absurd hn (by show ¬ n+13 < 13;omega)
 · rintro a' w' hs _ ⟨Dn,hD,hB⟩ h6
   unfold BMd at hB
   rw [if_pos (hD 12 (by decide))] at hB
   obtain ⟨Z,hK,hO,rfl⟩:=hB
   have e:a'=Act.putFrom a 29 ((List.range 12).map fun i=>a'.eval (.tmp (29+i))):=hs.out _ (by simp) (by omega) (fun i hi=>by
    simp at hi
    rw [List.getD_eq_getElem?_getD,List.getElem?_map,List.getElem?_range (by omega)];rfl)
   rw [e]
   exact hQ Z _ (by rw [List.length_map,List.length_range]) hK hO
end Go.Proofs.YthcgahldacpolaaGreatDoor
