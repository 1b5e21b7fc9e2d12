import Derived.Test.YthcgahldacpolaaGreatDoorM25
set_option maxRecDepth 100000
set_option maxHeartbeats 8000000
namespace Go.Proofs.YthcgahldacpolaaGreatDoor
open Go.RowKit Go.Deep Gf
variable {A:Arr} {F:Foot} {cache:Int} {D L G p:Nat} {R:Nat→Option Rec} {w:World}
theorem svLast_blank:∀ k,(∀ i,i < k→R i=some .blank)→svLast R k=⟨0,0,0,0,0,0⟩
 | 0,_=>rfl
 | k+1,h=>by
  show svStep (svLast R k) (R k)=_
  rw [h k (by omega),svLast_blank k fun i hi=>h i (by omega)];rfl
theorem or_pow (k:Nat):(2^k - 1)|||2^k=2^(k+1) - 1:=by
 refine Nat.eq_of_testBit_eq fun i=>?_
 rw [Nat.testBit_or,Nat.testBit_two_pow_sub_one,Nat.testBit_two_pow_sub_one,Nat.testBit_two_pow]
 by_cases h:k=i
 · subst h;simp
 · by_cases h2:i < k
   · simp [h2];omega
   · simp [h,h2];omega
theorem svBlank_blank:∀ k,(∀ i,i < k→R i=some .blank)→svBlank R k=2^k - 1
 | 0,_=>rfl
 | k+1,h=>by
  show svOr (svBlank R k) k (R k)=_
  rw [h k (by omega),svBlank_blank k fun i hi=>h i (by omega)]
  exact or_pow k
theorem told_none {lost:Nat} (hD:D≤12) (hG:G≤4) (h:∀ i,i < D+L+G→lost / 2^i % 2=0):Told D L G lost:=by
 have hc:∀ k,k≤D+L+G→cnt lost k=0:=by
  intro k hk
  induction k with
  | zero=>rfl
  | succ k ih=>rw [cnt_succ,ih (by omega),h k (by omega)];rfl
 exact any_full D L G lost hD hG (rem_byte (fun l hl=>mat_byte D L G hD hG l (keep_mem _ _ _ (by rw [mat_len];omega) l hl)) 0) (by rw [hc _ (Nat.le_refl _)];omega)
theorem high_bits {n i:Nat} (hn:n≤60) (hi:i < n):(18446744073709551615 - (2^n - 1)) / 2^i % 2=0:=by
 have h1:18446744073709551615 - (2^n - 1)=2^(i+1)*(2^(63 - i) - 2^(n - i - 1)):=by
  rw [Nat.mul_sub,← Nat.pow_add,← Nat.pow_add,show i+1+(63 - i)=64 by omega,show i+1+(n - i - 1)=n by omega]
  have:0 < 2^n:=Nat.two_pow_pos n
  omega
 rw [h1,Nat.pow_succ,Nat.mul_assoc,Nat.mul_div_cancel_left _ (Nat.two_pow_pos i),Nat.mul_mod_right]
theorem xor_all (x:Nat) (h:x < 2^64):(2^64 - 1)^^^x=2^64 - 1 - x:=by
 refine Nat.eq_of_testBit_eq fun i=>?_
 rw [Nat.testBit_xor,Nat.testBit_two_pow_sub_one,show 2^64 - 1 - x=2^64 - (x+1) by omega,Nat.testBit_two_pow_sub_succ h]
 by_cases hi:i < 64
 · simp [hi]
 · have:x.testBit i=false:=Nat.testBit_lt_two_pow (Nat.lt_of_lt_of_le h (Nat.pow_le_pow_right (by decide) (by omega)))
   simp [hi,this]
theorem not_u64 (x:Nat) (h:x < 18446744073709551616):bits .xor .u64 IntKind.u64.max (x:Int)=((18446744073709551615 - x:Nat):Int):=by
 have:=bits_xor_u64_nat 18446744073709551615 x (by decide) h
 rw [show (18446744073709551615:Nat)=2^64 - 1 by decide,xor_all x (by omega)] at this
 exact this
theorem load_new {ar v ps ho:Nat} (ha:ArcAt w ar v 0 0 0 0 0 0 (.slice none 0 0) (.slice none 0 0) false) (hV:Vol w v p D L G ps ho A F) (hF:Free F p A.n v) (kb:¬ F.has p A.n ar) (hf:A.fit) (hn:A.n=D+L+G) (hr:rightB D L G=true) (ks:1≤D) (hD:D≤12) (hL:1≤L) (hy:L≤4) (hG:G≤4) (hm:D % L=0) (kv:D+L+G≤16)
 (kx:3≤A.nb) (hw:A.wait < 0) (h3:∀ i,A.lost i=false) (k0:∀ d,A.bad d 0=false) (hz:∀ i,i < A.n→A.blk i 0=zb) :
 Calls Tryz.prog 44 #[.pointer (some ⟨ar,0,none⟩)] w fun e w'=>e=.returned .nilIface∧ArrAt w' p (newArc (A.readTo A.n) D L G) F∧(∃ u,ArcAt w' ar v D L G 1 2 0 u (.slice none 0 0) false∧Ints (fun k=>w.heap.size≤k) w' u [2])∧Outside (fun k=>k=ar∨F.has p A.n k) w w':=by
 obtain ⟨c0,_⟩:=ha.cells
 have kc:=readCopies_ok hV hF hf 0 hn hD hy hG (by omega) (by omega) h3 k0 (fun _=>.blank) (fun _=>trivial) (fun _=>makes_blank) hz
 go_enter Tryz.func44,Tryz.ntmps44
 go_wp2_with fail
 refine kc.mono ?_
 rintro e w1 ⟨g,rfl,hg,h0,kd,h7⟩
 have he:=ha.keep (h7.block _ ha.lt kb)
 have hp:=hV.turn hF h7 kd
 have k5:A.n≤16:=by omega
 obtain ⟨N,hN⟩:∃ N,A.n=N:=⟨_,rfl⟩
 have k6:=lastRoot_any (N:=A.n) (fun _=>some .blank) (by omega) (w:=w1) h0
 rw [svLast_blank _ (fun _ _=>rfl),show rtA ⟨0,0,0,0,0,0⟩=rootA 0 0 0 0 0 0 from rfl,hN] at k6
 have H1:=hide7 he hp h7 h0 k6 hN hn
 rw [hN] at k5
 clear he hp h7 h0 k6 kd kc hn
 rw [hN]
 clear hN
 go_wp2_with fail
 refine H1.out.2.2.2.2.1.mono ?_
 rintro e w2 ⟨rfl,k7⟩
 have q1:=root_zero
 obtain ⟨he,hp,h7,h0,_,hN,hn⟩:=H1.out
 have hh:Below w1.heap.size w1 (rootVar w2 0 0 0 0 0 0):=k7.trans ((rootVar_below w2 0 0 0 0 0 0).mono k7.size)
 have h4:=he.keep (hh.block _ he.lt)
 have hj:=hp.below hh (Nat.le_refl _)
 have h8:=h0.of_block (hh.block g h0.lt)
 have k8:=rootVar_at w2 0 0 0 0 0 0
 obtain ⟨w3,k9⟩:∃ w3,rootVar w2 0 0 0 0 0 0=w3:=⟨_,rfl⟩
 rw [k9] at hh h4 hj h8 k8
 have c5:w3.cell? ⟨w2.heap.size,3,none⟩=some (.int .u64 0):=by simp [World.cell?,k8,rootA]
 obtain ⟨d0,_⟩:=h4.cells
 have hq:Outside (F.has p A.n) w w3:=h7.trans (Outside.of_all hh _)
 have H3:=hide5 h4 hj h8 hq k9
 clear he hp h7 h0 k7 hh h4 hj h8 k8 hq k9 c0
 go_wp2_with (show wpList _ _ _ ({ dst:=none,op:=Op.store 93 (.tmp 4) (.tmp 11),type:=_,pos:=_,after:=_,guard:=_ } :: _) _ _;refine rt_new (w:=w2) (D:=0) (L:=0) (G:=0) (t:=0) (f:=0) (n:=0) rfl (.tmp 4) (.tmp 11) rfl (by rfl) (by rfl) ?_;rw [H3.out.2.2.2.2])
 go_quiet (fail)
 have h1:Below w3.heap.size w3 (w3.drewN nq):=⟨rfl,rfl,rfl,Nat.le_refl _,fun _ _=>rfl⟩
 have c5':(w3.drewN nq).cell? ⟨w2.heap.size,3,none⟩=some (.int .u64 0):=c5
 have d0':(w3.drewN nq).cell? ⟨ar,0,none⟩=some (.pointer (some ⟨v,0,none⟩)):=d0
 obtain ⟨w4,ke⟩:∃ w4,w3.drewN nq=w4:=⟨_,rfl⟩
 rw [ke] at h1 c5' d0' ⊢
 obtain ⟨h4,hj,h8,hq,_⟩:=H3.out
 have h5:=h4.keep (h1.block _ h4.lt)
 have h9:=hj.below h1 (Nat.le_refl _)
 have h6:=h8.of_block (h1.block g h8.lt)
 have hc:Outside (F.has p A.n) w w4:=hq.trans (Outside.of_all h1 _)
 have H4:=hide4 h5 h9 h6 hc
 clear h4 hj h8 hq h5 h9 h6 hc h1 c5 d0 ke
 go_wp2_with fail
 refine (volParams_any H4.out.2.1.vol).mono ?_
 rintro e w5 ⟨rfl,ka⟩
 obtain ⟨h5,h9,h6,hc⟩:=H4.out
 have kf:=h6.of_block (ka.block g h6.lt)
 have hx:=blanks_any (N:=A.n) (fun _=>some .blank) (by omega) (w:=w5) kf
 rw [svBlank_blank _ (fun _ _=>rfl),hN] at hx
 obtain ⟨X,hX⟩:∃ X,2^N - 1=X:=⟨_,rfl⟩
 have ky:X < 18446744073709551616:=by rw [← hX];have:=pow64 (k:=N) (by omega);omega
 have key:=not_u64 X ky
 rw [hX] at hx
 have hT:Told D L G (18446744073709551615 - X):=told_none hD hG fun i hi=>by rw [← hX];exact high_bits (by omega) (by omega)
 have H5:=hide4 ka hx hT hn
 clear h5 h9 h6 hc ka kf hx hX hT hn hN
 go_wp2_with fail
 refine H5.out.2.1.mono ?_
 rintro e w6 ⟨rfl,kg⟩
 have hs:Below w4.heap.size w4 w6:=H5.out.1.trans (kg.mono H5.out.1.size)
 have H6:=hide hs
 clear hs kg
 go_wp2_with fail
 refine (decodable_right D L G (18446744073709551615 - X) hr hD hL hy hG hm (by omega) w6).mono ?_
 rintro e w7 ⟨bb,rfl,kh,ki⟩
 rw [kh.2 H5.out.2.2.1]
 obtain ⟨h5,h9,h6,hc⟩:=H4.out
 have h2:Below w4.heap.size w4 w7:=H6.out.trans (ki.mono H6.out.size)
 have kj:=h5.keep (h2.block _ h5.lt)
 have kk:=h9.below h2 (Nat.le_refl _)
 have km:=begin_new kj kk hF kb (hf.readTo _) H5.out.2.2.2 hr ks hD hL hy hG hm kv kx hw h3
 have kn:Outside (F.has p A.n) w w7:=hc.trans (Outside.of_all h2 _)
 have H7:=hide2 km kn
 clear h5 h9 h6 hc h2 kj kk km kn kh ki c5' d0' key
 go_wp2_with fail
 refine H7.out.1.mono ?_
 rintro e w8 ⟨rfl,ko,kp,kr⟩
 have H8:=hide3 ko kp kr
 clear ko kp kr
 go_wp2
 go_ret
 obtain ⟨u,kz,q0⟩:=H8.out.2.1
 exact ⟨rfl,H8.out.1,⟨u,kz,q0.weaken fun k hk=>Nat.le_trans H7.out.2.size hk⟩,(H7.out.2.mono fun _ _ q=>.inr q).trans H8.out.2.2⟩
noncomputable def ROn:Array Oper:=((Tryz.f30.body.bind (rgf · 6))).getD #[]
def shOn:List (Op×Option Nat×List Nat):=[(Op.move (.tmp 0),some 24,[]),
 (Op.call { callee:=Callee.value (Operand.func 41),args:=#[.tmp 24],argTypes:=#[30] },some 25,[0]),
 (Op.load 23 (.tmp 4),some 26,[]),
 (Op.call { callee:=Callee.value (Operand.func 8),args:=#[.tmp 26],argTypes:=#[23] },some 27,[2,1]),
 (Op.binOp BinOp.neq 3 (.tmp 25) (.tmp 27) 3,some 28,[1,3]),
 (Op.assign (.tmp 28),some 21,[4,3])]
theorem ROn_shape:RegShape ROn 21 29 shOn:=regShape (by kernel_rfl) (by kernel_rfl)
def vsOn (p n:Nat) (D L G:Nat):List Value:=[.pointer (some ⟨p,0,none⟩),.int .i64 n,.agg #[.int .i64 D,.int .i64 L,.int .i64 G],.int .i64 ((D+L+G:Nat):Int),.bool (!decide (n=D+L+G)),.bool (!decide (n=D+L+G))]
theorem open_region {ops:Array Oper} {Q:Exit→Act→World→Prop} {a:Act} {q:Nat} (h5:ROn=ops) (h:ArrAt w p A F) (hf:A.fit) (hq:w.heap[q]?=some (.cells #[.int .i64 (D:Int),.int .i64 (L:Int),.int .i64 (G:Int)] 23 (0,0))) (hD:D≤12) (hL:L≤4) (hG:G≤4) (ha:a.tmps.size=48)
 (e0:a.eval (.tmp 0)=.pointer (some ⟨p,0,none⟩)) (e4:a.eval (.tmp 4)=.pointer (some ⟨q,0,none⟩))
 (hQ:∀ (w':World),Below w.heap.size w w'→Q .normal (Act.putFrom a 21 [.bool (!decide (A.n=D+L+G)),a.eval (.tmp 22),a.eval (.tmp 23),.pointer (some ⟨p,0,none⟩),.int .i64 A.n,.agg #[.int .i64 D,.int .i64 L,.int .i64 G],.int .i64 ((D+L+G:Nat):Int),.bool (!decide (A.n=D+L+G))]) w'):(Code.region 6 ops true).wp Tryz.prog Q a w:=by
 subst h5
 have h6:q < w.heap.size:=(Array.getElem?_eq_some_iff.1 hq).1
 have hc:=hf.n
 refine region_factsS (by kernel_rfl) ROn_shape a w (by omega) (fun i u _=>u=(vsOn p A.n D L G).getD i undef) (fun _ w'=>Below w.heap.size w w') ((Below.refl _ w).drew) ?_ ?_
 · intro i hi
   match i,hi with
   | 0,_=>exact fun o a' w' Dn hg ho h0 hk h3 h4 h1 hB hV=>op_val (run_op_move ho ((hk.slot 0 (by omega)).trans e0) w') h0 ⟨hB,rfl,kq⟩
   | 1,_=>
    intro o a' w' Dn hg ho h0 hk h3 h4 h1 hB hV
    have u0:a'.eval (.tmp 24)=.pointer (some ⟨p,0,none⟩):=hV 0 (h1 0 (by decide))
    refine op_call (f:=41) (args:=#[.pointer (some ⟨p,0,none⟩)]) (w1:=w') (by simp only [execOp,show o.op=Op.call { callee:=Callee.value (Operand.func 41),args:=#[.tmp 24],argTypes:=#[30] } from ho];go_simp;simpa [Act.eval] using u0) h0 (drives_any (h.below hB (Nat.le_refl _))) ?_
    rintro e w'' ⟨rfl,rfl⟩
    exact ⟨_,rfl,hB,rfl,kq⟩
   | 2,_=>
    intro o a' w' Dn hg ho h0 hk h3 h4 h1 hB hV
    have u0:a'.eval (.tmp 4)=.pointer (some ⟨q,0,none⟩):=(hk.slot 4 (by omega)).trans e4
    have h7:w'.heap[q]?=_:=(hB.block q h6).trans hq
    have h8:(Instr.loadAt 23 (.pointer (some ⟨q,0,none⟩))).run Tryz.prog w'=.ok (.agg #[.int .i64 (D:Int),.int .i64 (L:Int),.int .i64 (G:Int)]) w':=by
     simp only [Instr.loadAt,Instr.sureAddr,Sem.run_bind,Sem.run_pure,Result.andThen_ok,run_loadVar_row w' q 23 23 #[.int .i64 (D:Int),.int .i64 (L:Int),.int .i64 (G:Int)] (0,0) _ h7 Tryz.underlying23 rfl (by kernel_rfl)]
    exact op_val (v:=.agg #[.int .i64 D,.int .i64 L,.int .i64 G]) (by simp [execOp,show o.op=Op.load 23 (.tmp 4) from ho,u0,h8]) h0 ⟨hB,rfl,kq⟩
   | 3,_=>
    intro o a' w' Dn hg ho h0 hk h3 h4 h1 hB hV
    have u0:a'.eval (.tmp 26)=.agg #[.int .i64 D,.int .i64 L,.int .i64 G]:=hV 2 (h1 2 (by decide))
    refine op_call (f:=8) (args:=#[.agg #[.int .i64 D,.int .i64 L,.int .i64 G]]) (w1:=w') (by simp only [execOp,show o.op=Op.call { callee:=Callee.value (Operand.func 8),args:=#[.tmp 26],argTypes:=#[23] } from ho];go_simp;simpa [Act.eval] using u0) h0 (shards_any (D:Int) (L:Int) (G:Int) w' ⟨by omega,by omega⟩ ⟨by omega,by omega⟩ ⟨by omega,by omega⟩) ?_
    rintro e w'' ⟨rfl,hb⟩
    exact ⟨_,rfl,hB.trans (hb.mono hB.size),by show Value.int .i64 ((D:Int)+L+G)=.int .i64 ((D+L+G:Nat):Int);congr 1,kq⟩
   | 4,_=>
    intro o a' w' Dn hg ho h0 hk h3 h4 h1 hB hV
    have u0:a'.eval (.tmp 25)=.int .i64 (A.n:Nat):=hV 1 (h1 1 (by decide))
    have u1:a'.eval (.tmp 27)=.int .i64 ((D+L+G:Nat):Int):=hV 3 (h1 3 (by decide))
    refine op_val (v:=.bool (!decide (A.n=D+L+G))) ?_ h0 ⟨hB,rfl,kq⟩
    simp only [execOp,show o.op=Op.binOp BinOp.neq 3 (.tmp 25) (.tmp 27) 3 from ho,u0,u1]
    by_cases e:A.n=D+L+G
    · rw [e];go_simp
    · have e':¬ ((A.n:Nat):Int)=((D+L+G:Nat):Int):=by omega
      rw [decide_eq_false e]
      generalize ((D+L+G:Nat):Int)=q at *
      go_simp
   | 5,_=>
    intro o a' w' Dn hg ho h0 hk h3 h4 h1 hB hV
    have u0:a'.eval (.tmp 28)=.bool (!decide (A.n=D+L+G)):=hV 4 (h1 4 (by decide))
    exact op_val (v:=.bool (!decide (A.n=D+L+G))) (by simp [execOp,show o.op=Op.assign (.tmp 28) from ho,u0]) h0 ⟨hB,rfl,kq⟩
   | n+6,hn=>exact absurd hn (by show ¬ n+6 < 6;omega)
 · rintro a' w' h9 h2 ⟨Dn,he,hB⟩ hV
   have e:a'=Act.putFrom a 21 [.bool (!decide (A.n=D+L+G)),a.eval (.tmp 22),a.eval (.tmp 23),.pointer (some ⟨p,0,none⟩),.int .i64 A.n,.agg #[.int .i64 D,.int .i64 L,.int .i64 G],.int .i64 ((D+L+G:Nat):Int),.bool (!decide (A.n=D+L+G))]:=h9.out _ rfl (by omega) (fun i hi=>?_)
   · rw [e];exact hQ w' hB
   · match i,hi with
     | 0,_=>exact hV 5 (by decide)
     | 1,_=>exact h2 22 (by decide)
     | 2,_=>exact h2 23 (by decide)
     | 3,_=>exact hV 0 (by decide)
     | 4,_=>exact hV 1 (by decide)
     | 5,_=>exact hV 2 (by decide)
     | 6,_=>exact hV 3 (by decide)
     | 7,_=>exact hV 4 (by decide)
     | n+8,hn=>exact absurd hn (by simp)
structure NewArc (w w':World) (p D L G ar v ps:Nat) (u:Value) (A:Arr) (F:Foot) (cache:Int):Prop where
 arGe:w.heap.size≤ar
 vGe:w.heap.size≤v
 arc:ArcAt w' ar v D L G 1 2 0 u (.slice none 0 0) false
 pg:Ints (fun k=>w.heap.size≤k∧ar < k) w' u [2]
 vol:Vol w' v p D L G ps 0 (newArc (A.readTo A.n) D L G) F
 out:Outside (F.has p A.n) w w'
 sh:∃ sb,ps=sb+1+1+1∧w.heap.size≤sb∧ps < v∧v < ar∧ShAt w' sb cache
theorem open_new (h:ArrAt w p A F) (hf:A.fit) (hn:A.n=D+L+G) (hr:rightB D L G=true) (q8:1≤D) (hD:D≤12) (hL:1≤L) (ks:L≤4) (hG:G≤4) (kf:D % L=0) (q9:D+L+G≤16) (qi:0≤cache) (qj:cache≤64)
 (qk:8≤A.nb) (hw:A.wait < 0) (hy:∀ i,A.lost i=false) (kg:∀ d,A.bad d 0=false) (hz:∀ i,i < A.n→A.blk i 0=zb) (hv:hvLaid w) (ht:tabLaid w) (hK:3≤w.heap.size) (kv:¬ F.has p A.n 2) (kx:¬ F.has p A.n 1) :
 Calls Tryz.prog 30 #[.pointer (some ⟨p,0,none⟩),.agg #[.int .i64 D,.int .i64 L,.int .i64 G],.agg #[.int .i64 cache]] w fun e w'=>∃ ar v ps u,e=.returned (.tuple #[.pointer (some ⟨ar,0,none⟩),.nilIface])∧NewArc w w' p D L G ar v ps u A F cache:=by
 have qm:∀ (fn:Fn) (first cap:Array Value) (w:World),(Instr.makeFunc fn first cap).run Tryz.prog w=.ok (.func fn first cap) w:=fun _ _ _ _=>rfl
 have qa:∀ (args:Array Value) (w:World),(callFunc 44 args).run Tryz.prog w=.ok (.enter 44 args) w:=enters_of Tryz.func44 (by kernel_rfl) rfl
 have hq:((w.alloc (.cells #[.int .i64 (D:Int),.int .i64 (L:Int),.int .i64 (G:Int)] 23)).alloc (.cells #[.int .i64 cache] 72)).heap[w.heap.size]?=some (.cells #[.int .i64 (D:Int),.int .i64 (L:Int),.int .i64 (G:Int)] 23 (0,0)):=(blk_alloc_lt _ _ _ (by simp)).trans (blk_alloc_new _ _)
 have ho:((w.alloc (.cells #[.int .i64 (D:Int),.int .i64 (L:Int),.int .i64 (G:Int)] 23)).alloc (.cells #[.int .i64 cache] 72)).heap[w.heap.size+1]?=some (.cells #[.int .i64 cache] 72 (0,0)):=by
  have:=blk_alloc_new (w.alloc (.cells #[.int .i64 (D:Int),.int .i64 (L:Int),.int .i64 (G:Int)] 23)) (.cells #[.int .i64 cache] 72)
  rwa [World.size_alloc] at this
 have he:Below w.heap.size w ((w.alloc (.cells #[.int .i64 (D:Int),.int .i64 (L:Int),.int .i64 (G:Int)] 23)).alloc (.cells #[.int .i64 cache] 72)):=((Below.refl _ w).alloc (Nat.le_refl _) _).alloc (by simp) _
 have k0:((w.alloc (.cells #[.int .i64 (D:Int),.int .i64 (L:Int),.int .i64 (G:Int)] 23)).alloc (.cells #[.int .i64 cache] 72)).heap.size=w.heap.size+2:=by simp
 obtain ⟨w2,qb⟩:∃ w2,(w.alloc (.cells #[.int .i64 (D:Int),.int .i64 (L:Int),.int .i64 (G:Int)] 23)).alloc (.cells #[.int .i64 cache] 72)=w2:=⟨_,rfl⟩
 rw [qb] at hq ho he k0
 have p0:w2.cell? ⟨w.heap.size,0,none⟩=some (.int .i64 D):=by simp [World.cell?,hq]
 have p1:w2.cell? ⟨w.heap.size,1,none⟩=some (.int .i64 L):=by simp [World.cell?,hq]
 have p2:w2.cell? ⟨w.heap.size,2,none⟩=some (.int .i64 G):=by simp [World.cell?,hq]
 have H2:=hide4 hq ho he k0
 clear hq ho he k0
 go_enter Tryz.func30,Tryz.ntmps30
 go_wp2_with fail
 refine (right_any D L G _).mono ?_
 rw [hr]
 rintro e w3 ⟨rfl,k5⟩
 obtain ⟨hq,ho,he,k0⟩:=H2.out
 have k6:=(k5.block _ (by omega)).trans hq
 have hm:=(k5.block _ (by omega)).trans ho
 have h6:Below w.heap.size w w3:=he.trans (k5.mono he.size)
 have kh:=k5.size
 have o0:w3.cell? ⟨w.heap.size+1,0,none⟩=some (.int .i64 cache):=by simp [World.cell?,hm]
 have H3:=hide4 k6 hm h6 (show w.heap.size+2≤w3.heap.size by omega)
 clear hq ho he k0 k6 hm h6 k5 kh p0 p1 p2
 go_wp2_with fail
 refine open_region (by kernel_rfl) (h.below H3.out.2.2.1 (Nat.le_refl _)) hf H3.out.1 hD ks hG rfl rfl rfl ?_
 intro w4 k7
 rw [decide_eq_true hn]
 obtain ⟨k6,hm,h6,kh⟩:=H3.out
 have kd:=(k7.block _ (by omega)).trans k6
 have ky:=(k7.block _ (by omega)).trans hm
 have hg:Below w.heap.size w w4:=h6.trans (k7.mono h6.size)
 have qc:=k7.size
 have kz:=blocks_any (h.below hg (Nat.le_refl _)) (by omega)
 have ki:¬ ((A.nb:Nat):Int) < 8:=by omega
 have q0:w4.cell? ⟨w.heap.size,0,none⟩=some (.int .i64 D):=by simp [World.cell?,kd]
 have q1:w4.cell? ⟨w.heap.size,1,none⟩=some (.int .i64 L):=by simp [World.cell?,kd]
 have q2:w4.cell? ⟨w.heap.size,2,none⟩=some (.int .i64 G):=by simp [World.cell?,kd]
 have o4:w4.cell? ⟨w.heap.size+1,0,none⟩=some (.int .i64 cache):=by simp [World.cell?,ky]
 have H4:=hide3 hg kz (show w.heap.size+2≤w4.heap.size by omega)
 clear k6 hm h6 kh kd ky hg qc kz k7 o0
 rename_i q4
 refine q4 _ _ ?_
 clear q4
 simp only [Act.putFrom,Act.put,List.setIfInBounds_toArray,List.set_cons_succ,List.set_cons_zero]
 obtain ⟨NB,kj⟩:∃ NB,A.nb=NB:=⟨_,rfl⟩
 rw [kj] at H4 ki
 have qn:=hide kj
 clear kj
 go_wp2_with fail
 refine H4.out.2.1.mono ?_
 rintro e w5 ⟨rfl,qd⟩
 subst qd
 go_wp2_with fail
 refine (volNew_any p D L G cache w5).mono ?_
 rintro e w6 ⟨v,sb,rfl,qe,k8,h7,kk⟩
 obtain ⟨ps,q5⟩:∃ ps,sb+1+1+1=ps:=⟨_,rfl⟩
 rw [q5] at k8 h7
 obtain ⟨h8,_,qo⟩:=H4.out
 have hh:Below w.heap.size w w6:=h8.trans (kk.mono h8.size)
 have qp:=kk.size
 have k9:Below w6.heap.size w6 (w6.alloc (.cells (arcA v 0 0 0 0 0 0 (.slice none 0 0) (.slice none 0 0) false) 98)):=(Below.refl _ w6).alloc (Nat.le_refl _) _
 have hp:ArcAt (w6.alloc (.cells (arcA v 0 0 0 0 0 0 (.slice none 0 0) (.slice none 0 0) false) 98)) w6.heap.size v 0 0 0 0 0 0 (.slice none 0 0) (.slice none 0 0) false:=blk_alloc_new _ _
 obtain ⟨w7,km⟩:∃ w7,w6.alloc (.cells (arcA v 0 0 0 0 0 0 (.slice none 0 0) (.slice none 0 0) false) 98)=w7:=⟨_,rfl⟩
 rw [km] at k9 hp
 have h0:Below w.heap.size w w7:=hh.trans (k9.mono hh.size)
 have ha:Vol w7 v p D L G ps 0 A F:=⟨k8.keep (k9.block _ k8.lt),h.below h0 (Nat.le_refl _),hv.below h0 hv.lt,ht.keep (h0.block _ ht.lt),Nat.le_trans hK h0.size⟩
 have hc:∀ k,F.has p A.n k→k < w.heap.size:=fun k hk=>h.has_lt hk
 have ka:Free F p A.n v:=⟨fun q=>by have:=hc v q;omega,kv,kx⟩
 have kb:¬ F.has p A.n w6.heap.size:=fun q=>by have:=hc _ q;omega
 have q6:w6.heap.size < w7.heap.size:=hp.lt
 have qf:v < w6.heap.size:=k8.lt
 have q7:=arcPowered_ok 44 #[.pointer (some ⟨w6.heap.size,0,none⟩)] #[] qa w7 w6.heap.size _ hp rfl
  (fun w1 x w2=>x=.nilIface∧ArrAt w2 p (newArc (A.readTo A.n) D L G) F∧(∃ u,ArcAt w2 w6.heap.size v D L G 1 2 0 u (.slice none 0 0) false∧Ints (fun k=>w1.heap.size≤k) w2 u [2])∧Outside (fun k=>k=w6.heap.size∨F.has p A.n k) w1 w2)
  (fun w1 h9 ke=>(load_new (hp.keep (h9.block _ hp.lt)) (ha.below h9 (Nat.le_refl _)) ka kb hf hn hr q8 hD hL ks hG kf q9 (by omega) hw hy kg hz).mono (by
   rintro e w2 ⟨rfl,hs,⟨u,hj,hx⟩,h5⟩
   exact ⟨_,rfl,.inl rfl,⟨rfl,hs,⟨u,hj,hx⟩,h5⟩,h5.block _ (by omega) (fun q=>q.elim (fun e=>by omega) (fun q=>by have:=hc _ q;omega)),_,hj,rfl⟩))
 have kn:=h8.size
 have kc:w.heap.size≤sb∧ps < v∧v < w6.heap.size∧ShAt w7 sb cache:=⟨by omega,h7.2.1,qf,h7.2.2.below k9⟩
 have H7:=hide6 h0 ha hc q7 ka q6
 have HS:=hide kc
 clear h7 kc kn h8 hh k9 hp h0 ha q7 k8 kk ka kb q0 q1 q2 o4
 have ko:w6.alloc (.cells #[.pointer (some ⟨v,0,none⟩),.int .i64 0,.int .i64 0,.int .i64 0,.int .u64 0,.int .i64 0,.int .i64 0,.slice none 0 0,.slice none 0 0,.bool false] 98)=w7:=km
 clear km
 go_wp2_with fail
 clear ko
 refine H7.out.2.2.2.1.mono ?_
 rintro e w8 ⟨x,w1,wl,rfl,_,h9,ke,⟨rfl,hs,⟨u,hj,hx⟩,h5⟩,rfl⟩
 have H8:=hide6 h9 ke hs hj hx h5
 clear h9 ke hs hj hx h5
 go_wp2
 go_ret2
 obtain ⟨h0,ha,hc,_,ka,q6⟩:=H7.out
 obtain ⟨h9,ke,hs,hj,hx,h5⟩:=H8.out
 have h4:Below w.heap.size w w1:=h0.trans (h9.mono h0.size)
 have qg:=h0.size
 have h3:∀ k,k≠w7.heap.size→k≠w6.heap.size→((wl.setCell ⟨w7.heap.size,0,none⟩ .nilIface).setCell ⟨w6.heap.size,9,none⟩ (.bool false)).heap[k]?=wl.heap[k]?:=fun k h1 h2=>(blk_setCell_other _ _ _ _ h2).trans (blk_setCell_other _ _ _ _ h1)
 have kp:((wl.setCell ⟨w7.heap.size,0,none⟩ .nilIface).setCell ⟨w6.heap.size,9,none⟩ (.bool false)).heap.size=wl.heap.size:=by simp [World.setCell]
 have hO:Outside (F.has p A.n) w ((wl.setCell ⟨w7.heap.size,0,none⟩ .nilIface).setCell ⟨w6.heap.size,9,none⟩ (.bool false)):=
  ⟨h5.os.trans h4.os,h5.tape.trans h4.tape,h5.output.trans h4.output,by rw [kp];exact Nat.le_trans h4.size h5.size,fun k hk qh=>(h3 k (by omega) (by omega)).trans ((h5.block k (by have:=h4.size;omega) (fun q=>q.elim (fun e=>by omega) qh)).trans (h4.block k hk))⟩
 obtain ⟨s1,s2,s3,s4⟩:=HS.out
 have s5:=s4.lt
 refine ⟨w6.heap.size,v,ps,u,rfl,by omega,by omega,?_,?_,?_,hO,sb,q5.symm,s1,s2,s3,s4.keep fun k h1 h2=>(h3 k (by omega) (by omega)).trans ((h5.block k (by omega) (fun q=>q.elim (fun e=>by omega) (fun q=>by have:=hc _ q;omega))).trans (h9.block k (by omega)))⟩
 · have kr:wl.heap[w6.heap.size]?=some (.cells (arcA v D L G 1 2 0 u (.slice none 0 0) false) 98 (0,0)):=hj
   have h1:(wl.setCell ⟨w7.heap.size,0,none⟩ .nilIface).heap[w6.heap.size]?=some (.cells (arcA v D L G 1 2 0 u (.slice none 0 0) false) 98 (0,0)):=(blk_setCell_other _ _ _ _ (by show w6.heap.size≠w7.heap.size;omega)).trans kr
   exact heap_setCell_at (j:=9) h1 (.bool false)
 · obtain ⟨ao,cc,q1,q2,q3⟩:=hx
   refine ⟨ao,cc,q1,q2,fun hl=>?_⟩
   obtain ⟨b,bo,r1,r2,r3,r4⟩:=q3 hl
   exact ⟨b,bo,r1,⟨by omega,by omega⟩,by rw [kp];exact r3,fun i hi=>(World.cell?_of_block (h3 b (by omega) (by omega))).trans (r4 i hi)⟩
 · refine ⟨?_,hs.keep fun k hk=>h3 k (by have:=hc k hk;omega) (by have:=hc k hk;omega),?_,?_,?_⟩
   · exact ha.vol.keep ((h3 v (by have:=ha.vol.lt;omega) (by omega)).trans ((h5.block v (by have:=ha.vol.lt;omega) (fun q=>q.elim (fun e=>by omega) ka.v)).trans (h9.block v ha.vol.lt)))
   · exact hv.keep (hO.block _ hv.lt kv)
   · exact ht.keep (hO.block _ ht.lt kx)
   · rw [kp];exact Nat.le_trans (Nat.le_trans hK h4.size) h5.size
structure Laid2B (w w2:World) (D L G cache:Int):Prop where
 par:w2.heap[w.heap.size]?=some (.cells #[.int .i64 D,.int .i64 L,.int .i64 G] 23 (0,0))
 opt:w2.heap[w.heap.size+1]?=some (.cells #[.int .i64 cache] 72 (0,0))
 below:Below w.heap.size w w2
 size:w2.heap.size=w.heap.size+2
theorem laid2B (w:World) (D L G cache:Int):Laid2B w ((w.alloc (.cells #[.int .i64 D,.int .i64 L,.int .i64 G] 23)).alloc (.cells #[.int .i64 cache] 72)) D L G cache:=by
 refine ⟨(blk_alloc_lt _ _ _ (by simp)).trans (blk_alloc_new _ _),?_,((Below.refl _ w).alloc (Nat.le_refl _) _).alloc (by simp) _,by simp⟩
 have:=blk_alloc_new (w.alloc (.cells #[.int .i64 D,.int .i64 L,.int .i64 G] 23)) (.cells #[.int .i64 cache] 72)
 rwa [World.size_alloc] at this
theorem sopen_new (h:ArrAt w p A F) (hf:A.fit) (hn:A.n=D+L+G) (hr:rightB D L G=true) (h6:1≤D) (hD:D≤12) (hL:1≤L) (h7:L≤4) (hG:G≤4) (h3:D % L=0) (h8:D+L+G≤16) (h9:0≤cache) (ha:cache≤64)
 (he:8≤A.nb) (hw:A.wait < 0) (h1:∀ i,A.lost i=false) (h4:∀ d,A.bad d 0=false) (hz:∀ i,i < A.n→A.blk i 0=zb) (hv:hvLaid w) (ht:tabLaid w) (hK:3≤w.heap.size) (hg:¬ F.has p A.n 2) (hh:¬ F.has p A.n 1) :
 Calls Tryz.prog 19 #[.pointer (some ⟨p,0,none⟩),.agg #[.int .i64 D,.int .i64 L,.int .i64 G],.agg #[.int .i64 cache]] w fun e w'=>∃ sa ar v ps u,e=.returned (.tuple #[.pointer (some ⟨sa,0,none⟩),.nilIface])∧w.heap.size≤sa∧Boxed w' sa 54 (.pointer (some ⟨ar,0,none⟩))∧NewArc w w' p D L G ar v ps u A F cache:=by
 have h0:=laid2B w D L G cache
 obtain ⟨w2,hi⟩:∃ w2,(w.alloc (.cells #[.int .i64 (D:Int),.int .i64 (L:Int),.int .i64 (G:Int)] 23)).alloc (.cells #[.int .i64 cache] 72)=w2:=⟨_,rfl⟩
 rw [hi] at h0
 have p0:w2.cell? ⟨w.heap.size,0,none⟩=some (.int .i64 D):=by simp [World.cell?,h0.par]
 have p1:w2.cell? ⟨w.heap.size,1,none⟩=some (.int .i64 L):=by simp [World.cell?,h0.par]
 have p2:w2.cell? ⟨w.heap.size,2,none⟩=some (.int .i64 G):=by simp [World.cell?,h0.par]
 have o0:w2.cell? ⟨w.heap.size+1,0,none⟩=some (.int .i64 cache):=by simp [World.cell?,h0.opt]
 have hb:=h0.below
 have hc:=open_new (h.below hb (Nat.le_refl _)) hf hn hr h6 hD hL h7 hG h3 h8 h9 ha he hw h1 h4 hz (hv.below hb hv.lt) (ht.keep (hb.block _ ht.lt)) (Nat.le_trans hK hb.size) hg hh
 have H:=hide2 h0 hc
 clear h0 hc hb
 go_enter Tryz.func19,Tryz.ntmps19
 go_wp2_with fail
 refine H.out.2.mono ?_
 rintro e w3 ⟨ar,v,ps,u,rfl,hN⟩
 have H3:=hide hN
 clear hN
 go_wp2
 go_ret2
 have hN:=H3.out
 have hb:=H.out.1.below
 have hj:=H.out.1.size
 have h5:Outside (F.has p A.n) w w3:=(Outside.of_all hb _).trans hN.out
 have h2:Below w3.heap.size w3 (w3.alloc (.cells #[.pointer (some ⟨ar,0,none⟩)] 54)):=(Below.refl _ w3).alloc (Nat.le_refl _) _
 refine ⟨w3.heap.size,ar,v,ps,u,rfl,h5.size,Boxed.new w3 _ _,?_,?_,hN.arc.keep (h2.block _ hN.arc.lt),?_,hN.vol.below h2 (Nat.le_refl _),h5.trans (Outside.of_all h2 _),?_⟩
 · have:=hN.arGe;omega
 · have:=hN.vGe;omega
 · exact (hN.pg.weaken (fun k hk=>⟨by have:=hk.1;omega,hk.2⟩)).keep (KpS.of_below h2)
 · obtain ⟨sb,s1,s2,s3,s4,s5⟩:=hN.sh
   exact ⟨sb,s1,by omega,s3,s4,s5.below h2⟩
structure NewOn (B:Arr) (D L G:Nat):Prop where
 bad:∀ i m,B.bad i m=false
 lost:∀ i,B.lost i=false
 wait:B.wait < 0
 root:∀ i,i < B.n→B.blk i 0=(Rec.root D L G 1 2 0).blk
 fill:∀ i,i < B.n→B.blk i 1=Rec.filled.blk
 page:∀ i,i < B.n→B.blk i 2=(Rec.shard ((stripeL D L G (pageB D [2] [] 0)).getD i [])).blk
theorem newOn (D L G:Nat) (hb:∀ i m,A.bad i m=false) (hl:∀ i,A.lost i=false) (hw:A.wait < 0):NewOn (newArc A D L G) D L G:=by
 refine ⟨fun i m=>?_,hl,hw,fun i hi=>?_,fun i hi=>?_,fun i hi=>?_⟩
 · simp [newArc,Arr.pagesTo,Arr.putAt,hb]
 · have h0:i < A.n:=hi
   simp [newArc,Arr.pagesTo,Arr.putAt,h0]
 · have h0:i < A.n:=hi
   simp [newArc,Arr.pagesTo,Arr.putAt,h0]
 · have h0:i < A.n:=hi
   simp [newArc,Arr.pagesTo,Arr.putAt,h0]
end Go.Proofs.YthcgahldacpolaaGreatDoor
