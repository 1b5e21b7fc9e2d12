import Derived.Test.YthcgahldacpolaaGreatDoorM17
set_option maxRecDepth 100000
set_option maxHeartbeats 8000000
namespace Go.Proofs.YthcgahldacpolaaGreatDoor
open Go.RowKit Gf
variable {M:List (List Nat)} {T:List (Nat×Nat×List Nat)} {D g base:Nat} {w wc:World}
section
open Go.Deep
def addTo (g F:Nat→Nat) (c off k j:Nat):Nat:=if off≤j∧j < off+k then g j^^^gm c (F (j - off)) else g j
def AdR (w:World) (b t N off k c tb fb foff:Nat) (g F:Nat→Nat) (i:Value) (wr:World):Prop:=
 ∃ j:Nat,j≤k∧i=.int .i64 j∧wr.rowIs b t N (tv (addTo g F c off j))∧TableAt wr tb c∧(∀ i,i < k→wr.cell? ⟨fb,foff+i,none⟩=some (.int .u8 ((F i:Nat):Int)))∧w.grownBy wr (some b)
theorem addTo_step (g F:Nat→Nat) (c off j x:Nat):tv (addTo g F c off (j+1)) x=if x=off+j then .int .u8 ((g (off+j)^^^gm c (F j):Nat):Int) else tv (addTo g F c off j) x:=by
 unfold tv addTo
 by_cases h:x=off+j
 · subst h
   rw [if_pos rfl,if_pos (by omega),Nat.add_sub_cancel_left]
 · rw [if_neg h]
   by_cases h2:off≤x∧x < off+j
   · rw [if_pos h2,if_pos (by omega)]
   · rw [if_neg h2,if_neg (by omega)]
theorem addTo_zero (g F:Nat→Nat) (c off:Nat):addTo g F c off 0=g:=by
 funext j;unfold addTo;rw [if_neg (by omega)]
theorem addTo_none (g F:Nat→Nat) (off k:Nat):addTo g F 0 off k=g:=by
 funext j;unfold addTo;rw [zero_gm,Nat.xor_zero];split <;> rfl
theorem tableAt_set {t c:Nat} (h:TableAt w t c) {a:Addr} (ha:t≠a.block) (v:Value):TableAt (w.setCell a v) t c:=fun j hj=>by
 rw [← h j hj];exact World.cell?_of_block (blk_setCell_other _ _ _ _ ha)
theorem wpList_tab (w:World) {ops:Array Oper} {rest:List Oper} {o:Oper} {a:Act} {Q:Exit→Act→World→Prop} (h2:o.guard=none) (x y:Operand) (ho:o.op=.store 263 x y)
 (g c:Nat) (cs old:Array Value) (hx:a.eval x=.pointer (some ⟨g,0,none⟩)) (hy:a.eval y=.agg cs) (hg:w.heap[g]?=some (.cells old 263 (0,0))) (hold:old.size=32) (h1:cs.size=32) (h0:∀ j,j < 32→cs[j]?=some (tv (tabN c) j))
 (hK:∀ w2,TableAt w2 g c→w.grownBy w2 (some g)→wpList Tryz.prog ops Q rest (a.put o.dst undef) w2):wpList Tryz.prog ops Q (o :: rest) a w:=by
 refine wpList_store_row h2 263 x y ho g cs hx hy 263 old hg (by rw [Tryz.infoTable,h1]) (by omega) (one_cells h1 h0) (hK _ ?_ ?_)
 · intro j hj
   rw [cell_of_row _ g j cs 263 (0,0) (setRow_heap w g old cs _ _ hg)]
   exact h0 j hj
 · refine ⟨rfl,rfl,rfl,by simp,fun k hk h3=>?_⟩
   have:g≠k:=fun e=>h3 (by rw [e])
   simp [World.setRow,Array.getElem?_modify,this]
theorem addTimes_some (b t N off n cap fb foff fcap c:Nat) (g F:Nat→Nat) (w:World) (hc:c < 256) (hr:w.rowIs b t N (tv g)) (hg:∀ j,g j < 256) (hF:∀ j,F j < 256) (hn:off+n≤N) (k5:n≤140737488355328)
 (ha:∀ i,i < n→w.cell? ⟨fb,foff+i,none⟩=some (.int .u8 ((F i:Nat):Int))) (k6:fb≠b∨foff+n≤off∨off+n≤foff) :
 Calls Tryz.prog 111 #[.slice (some ⟨b,off,none⟩) n cap,.slice (some ⟨fb,foff,none⟩) n fcap,.int .u8 c] w fun e w'=>e=.returned (.tuple #[])∧w'.rowIs b t N (tv (addTo g F c off n))∧w.grownBy w' (some b):=by
 by_cases h0:c=0
 · subst h0
   go_enter Tryz.func111,Tryz.ntmps111
   go_wp2
   exact bodyPost_ret (v:=.tuple #[]) (by simp [results,Tryz.results111]) rfl ⟨rfl,by rw [addTo_none];exact hr,World.grownBy.refl _ _⟩
 · have kd:((c:Int) == 0)=false:=by rw [beq_eq_false_iff_ne];omega
   clear h0
   go_enter Tryz.func111,Tryz.ntmps111
   go_wp2_with fail
   refine (tableOf_any c hc _).mono ?_
   rintro e w1 ⟨cs,rfl,k7,h5,h3⟩
   have k8:=h3.size
   go_wp2_with (refine wpList_tab _ rfl (.tmp 6) (.tmp 11) rfl w1.heap.size c cs _ rfl rfl (heap_alloc_last w1 _) rfl k7 h5 ?_;intro w2 he h4)
   have hf:b < w.heap.size:=hr.lt
   have h2:w.grownBy w2 none:=by
    refine ⟨h4.os.trans h3.os,h4.tape.trans h3.tape,h4.output.trans h3.output,?_,fun k hk _=>?_⟩
    · have:=h4.size;rw [nblk_alloc] at this;omega
    · rw [h4.block k (by rw [nblk_alloc];omega) (by intro e;simp at e;omega),blk_alloc_lt _ _ _ (by omega),h3.block k hk]
   have hh:w2.rowIs b t N (tv g):=hr.of_block (h2.block b hf (by simp))
   have hm:∀ i,i < n→w2.cell? ⟨fb,foff+i,none⟩=some (.int .u8 ((F i:Nat):Int)):=fun i hi=>by
    have:=ha i hi
    exact h2.cell this (by simp)
   have hp:w.grownBy w2 (some b):=⟨h2.os,h2.tape,h2.output,h2.size,fun k hk _=>h2.block k hk (by simp)⟩
   have k9:w1.heap.size≠b:=by omega
   clear h4 h2 hr ha h5 h3 k8 hf
   go_loopw [17] (fun i wr=>AdR w b t N off n c w1.heap.size fb foff g F i wr) (fun i _=>n - (intOf i).toNat)
   case atStart=>exact ⟨0,Nat.zero_le _,rfl,by rw [addTo_zero];exact hh,he,hm,hp⟩
   case round=>
    clear he hm hp hh
    obtain ⟨j,hj,rfl,h6,h7,h8,h9⟩:=hrel
    by_cases ka:j < n
    · have c1:=h6.cell (i:=off+j) (by omega)
      have f1:=h6.frozen (off+j)
      have c2:=h8 j ka
      have e1:tv (addTo g F c off j) (off+j)=.int .u8 ((g (off+j):Nat):Int):=by unfold tv addTo;rw [if_neg (by omega)]
      rw [e1] at c1
      have hx:=u8_xor (g (off+j)) (gm c (F j)) (hg _) (gm_lt _ hc)
      have hq:=(h6.set (off+j) (.int .u8 ((g (off+j)^^^gm c (F j):Nat):Int))).congr (fun x _=>(addTo_step g F c off j x).symm)
      have hs:=tableAt_set h7 (a:=⟨b,off+j,none⟩) k9 (.int .u8 ((g (off+j)^^^gm c (F j):Nat):Int))
      have hy:=grown_set h9 (off+j) (.int .u8 ((g (off+j)^^^gm c (F j):Nat):Int))
      have hz:∀ i,i < n→(wr.setCell ⟨b,off+j,none⟩ (.int .u8 ((g (off+j)^^^gm c (F j):Nat):Int))).cell? ⟨fb,foff+i,none⟩=some (.int .u8 ((F i:Nat):Int)):=fun i hi=>by
       rw [← h8 i hi]
       by_cases kb:fb=b
       · exact World.cell?_setCell_other _ _ _ _ (by intro e;have h1:off+j=foff+i:=congrArg Addr.off e;omega)
       · exact World.cell?_of_block (blk_setCell_other _ _ _ _ kb)
      have k0:=hF j
      have HH:=hide4 hq hs hz hy
      have HT:=hide h7
      generalize F j=y at c2 hx k0 HH
      generalize g (off+j)=x at c1 hx HH
      clear e1 hq hs hy hz h6 h7 h8 h9 hg hF
      go_wp2
      go_region_with ((go_at_call 134;refine (times_any w1.heap.size c y hc k0 _ (by exact fun j hj=>HT.out j hj)).mono ?_;rintro e w' ⟨rfl,m,rfl⟩))
      all_goals
       go_wp2
       go_roundw
       case rel=>exact ⟨j+1,by omega,by go_num,HH.out.1,HH.out.2.1,HH.out.2.2.1,⟨HH.out.2.2.2.os,HH.out.2.2.2.tape,HH.out.2.2.2.output,HH.out.2.2.2.size,HH.out.2.2.2.block⟩⟩
       case measure=>simp [intOf];omega
    · have kc:j=n:=by omega
      subst kc
      clear h7 h8
      go_wp2
      go_end0
      exact ⟨rfl,h6,h9⟩
end
section
open Go.Deep
theorem addTimes_none (ad ao:Option Addr) (cap fcap c:Nat) (w:World) (hc:c < 256) :
 Calls Tryz.prog 111 #[.slice ad 0 cap,.slice ao 0 fcap,.int .u8 c] w fun e w'=>e=.returned (.tuple #[])∧Below w.heap.size w w':=by
 by_cases h0:c=0
 · subst h0
   go_enter Tryz.func111,Tryz.ntmps111
   go_wp2
   exact bodyPost_ret (v:=.tuple #[]) (by simp [results,Tryz.results111]) rfl ⟨rfl,Below.refl _ _⟩
 · have h8:((c:Int) == 0)=false:=by rw [beq_eq_false_iff_ne];omega
   clear h0
   go_enter Tryz.func111,Tryz.ntmps111
   go_wp2_with fail
   refine (tableOf_any c hc _).mono ?_
   rintro e w1 ⟨cs,rfl,h4,h1,h2⟩
   have h5:=h2.size
   go_wp2_with (refine wpList_tab _ rfl (.tmp 6) (.tmp 11) rfl w1.heap.size c cs _ rfl rfl (heap_alloc_last w1 _) rfl h4 h1 ?_;intro w2 h6 h3)
   have h7:Below w.heap.size w w2:=by
    refine (h2.trans ((Below.refl _ _).alloc h5 _)).grown h3 (by rw [nblk_alloc];omega) (fun k hk=>by simp at hk;omega)
   clear h3 h6 h1 h2
   refine wp_loop_rounds 1 ?_
   rw [rounds_succ]
   go_wp2
   go_end0
   exact ⟨rfl,h7⟩
theorem addTimes_nil (ad ao:Option Addr) (n m cap fcap c:Nat) (w:World) (hn:n=0) (hm:m=0) (hc:c < 256) :
 Calls Tryz.prog 111 #[.slice ad n cap,.slice ao m fcap,.int .u8 c] w fun e w'=>e=.returned (.tuple #[])∧Below w.heap.size w w':=by
 subst hn hm;exact addTimes_none ad ao cap fcap c w hc
def acc (row:List Nat) (D:List (List Nat)):Nat→Nat→Nat
 | 0,_=>0
 | t+1,k=>acc row D t k^^^gm (row.getD t 0) ((D.getD t []).getD k 0)
def combTo (row:List Nat) (D:List (List Nat)) (n t:Nat):List Nat:=(List.range n).map (acc row D t)
theorem combTo_len (row:List Nat) (D:List (List Nat)) (n t:Nat):(combTo row D n t).length=n:=by simp [combTo]
theorem combTo_zero (row:List Nat) (D:List (List Nat)) (n:Nat):combTo row D n 0=List.replicate n 0:=by
 unfold combTo
 apply List.ext_getElem
 · simp
 · intro j h1 h2;simp [acc]
theorem acc_lt (row:List Nat) (D:List (List Nat)) (hr:∀ x∈row,x < 256) (t k:Nat):acc row D t k < 256:=by
 induction t with
 | zero=>exact (by decide:(0:Nat) < 256)
 | succ t ih=>exact xlt ih (gm_lt _ (getD_lt hr t))
theorem combTo_lt (row:List Nat) (D:List (List Nat)) (hr:∀ x∈row,x < 256) (n t:Nat):∀ x∈combTo row D n t,x < 256:=by
 intro x hx
 obtain ⟨k,_,rfl⟩:=List.mem_map.1 hx
 exact acc_lt row D hr t k
theorem combTo_get (row:List Nat) (D:List (List Nat)) (n t k:Nat) (hk:k < n):(combTo row D n t).getD k 0=acc row D t k:=by simp [combTo,hk]
theorem combTo_step (row:List Nat) (D:List (List Nat)) (n t j:Nat) (hj:j < n) :
 tv (addTo (fun i=>(combTo row D n t).getD i 0) (fun i=>(D.getD t []).getD i 0) (row.getD t 0) 0 n) j=vb (combTo row D n (t+1)) j:=by
 unfold tv vb addTo
 rw [if_pos (by omega),combTo_get _ _ _ _ _ hj]
 show Value.int .u8 (((combTo row D n t).getD j 0^^^gm (row.getD t 0) ((D.getD t []).getD (j - 0) 0):Nat):Int)=_
 rw [combTo_get _ _ _ _ _ hj,Nat.sub_zero]
 rfl
def CbR (w:World) (row:List Nat) (D:List (List Nat)) (n:Nat) (i:Value) (wr:World):Prop:=
 ∃ t:Nat,t≤row.length∧i=.int .i64 t∧Brow wr w.heap.size (combTo row D n t)∧Below w.heap.size w wr
theorem combine_any (vr vd:Value) (row:List Nat) (D:List (List Nat)) (n:Nat) (w:World) (hr:Bs w vr row) (hd:Rd w vd D) (hn:n≤4096) (h7:∀ i (hi:i < D.length),(D[i]).length=n) (h3:row.length=D.length) (hD:0 < D.length) :
 Calls Tryz.prog 155 #[vr,vd] w fun e w'=>∃ b,e=.returned (.slice (some ⟨b,0,none⟩) n n)∧w.heap.size≤b∧Brow w' b (combTo row D n D.length)∧Below w.heap.size w w':=by
 have hs:=hr.lt
 obtain ⟨ao,cr,rfl,h1,h2,_,h4⟩:=hr
 obtain ⟨rb,roff,rfl,hx⟩:=h4 (by intro e;rw [e] at h3;simp at h3;omega)
 rcases hd.cases with ⟨rfl,_⟩ | ⟨b,off,c,rfl,hl,hc⟩
 · simp at hD
 have km:row.length≤140737488355328:=by omega
 obtain ⟨u0,hk,kf⟩:=hc 0 hD
 obtain ⟨ao0,c0,rfl,l1,l2,_,_⟩:=kf
 have h8:=h7 0 hD
 rw [h8] at hk
 have HR:=hide hx
 have HC:=hide hc
 have HA:=hide h7
 have ha:=hide h3
 clear hx hc h7 h3 h1 h2 h4 h8 l1 l2
 rw [Nat.add_zero] at hk
 go_enter Tryz.func155,Tryz.ntmps155
 go_wp2_with (at_make;refine wpList_mk _ rfl (.tmp 11) (.tmp 11) rfl _ n rfl rfl rfl (by omega) ?_;intro w1 hB hb hz;clear hz)
 rw [← combTo_zero row D n] at hB
 clear hk
 go_loopw [15] (fun i wr=>CbR w row D n i wr) (fun i _=>row.length - (intOf i).toNat)
 case atStart=>exact ⟨0,Nat.zero_le _,rfl,hB,hb⟩
 case round=>
  clear hB hb
  rename World=>wo
  obtain ⟨t,ht,rfl,h6,h9⟩:=hrel
  have kn:=h6.lt
  by_cases hy:t < row.length
  · have h5:t < D.length:=by rw [← ha.out];exact hy
    have c1:=HR.out t hy
    have c1':wo.cell? ⟨rb,roff+t,none⟩=some (.int .u8 ((row.getD t 0:Nat):Int)):=by rw [h9.cell (block_lt_of_cell c1)];exact c1
    obtain ⟨u,hu,kg⟩:=HC.out t h5
    obtain ⟨fo,fc,rfl,q1,q2,q3,q4⟩:=kg
    have kh:wo.cell? ⟨b,off+t,none⟩=some (.slice fo (D[t]).length fc):=by rw [h9.cell (block_lt_of_cell hu)];exact hu
    rw [HA.out t h5] at kh
    have k0:=getD_lt hs t
    have k5:D.getD t []=D[t]:=by simp [h5]
    have h0:=combTo_step row D n t
    rw [k5] at h0
    have k6:=HA.out t h5
    have HD:=hide k6
    generalize D[t]=l at *
    generalize ki:row.getD t 0=x at *
    clear c1 hu k5 ki k6
    by_cases h8:n=0
    · have he:Brow wo w.heap.size (combTo row D n (t+1)):=by rw [h8] at h6 ⊢;exact h6
      have HN:=hide h8
      clear h0 q4 h6 h8
      go_wp2_with fail
      refine (addTimes_nil _ _ _ _ _ _ x _ HN.out HN.out k0).mono ?_
      rintro e w2 ⟨rfl,hm⟩
      have hp:=he.below hm
      have hq:=h9.trans (hm.mono (by omega))
      clear he hm
      go_wp2
      go_roundw
      case rel=>exact ⟨t+1,by omega,by go_num,hp,hq⟩
      case measure=>simp [intOf];omega
    · obtain ⟨fb,foff,rfl,hh⟩:=q4 (by intro e;rw [e] at HD;exact h8 HD.out.symm)
      rw [HD.out] at hh
      have kj:0 < l.length:=by rw [HD.out];omega
      have kk:fb < w.heap.size:=block_lt_of_cell (hh 0 (by omega))
      have hf:∀ i,i < n→wo.cell? ⟨fb,foff+i,none⟩=some (.int .u8 ((l.getD i 0:Nat):Int)):=fun i hi=>by
       rw [h9.cell (p:=⟨fb,foff+i,none⟩) kk];exact hh i hi
      have hg:wo.rowIs w.heap.size 5 n (tv (fun i=>(combTo row D n t).getD i 0)):=by
       have:=h6
       unfold Brow at this
       rw [combTo_len] at this
       exact this
      have HS:=hide h0
      have HF:=hide hf
      have k7:=hide hg
      have k8:=fun j=>getD_lt (combTo_lt row D hs n t) j
      have k9:=fun j=>getD_lt q3 j
      have ka:=hide k8
      have kb:=hide k9
      clear h0 hh hf hg h6 q4 k8 k9 kj HD
      go_wp2_with fail
      refine (addTimes_some w.heap.size 5 n 0 n n fb foff fc x (fun i=>(combTo row D n t).getD i 0) (fun i=>l.getD i 0) wo k0 k7.out ka.out kb.out (by omega) (by omega) HF.out (.inl (by omega))).mono ?_
      rintro e w2 ⟨rfl,kc,kd⟩
      have hp:Brow w2 w.heap.size (combTo row D n (t+1)):=by
       unfold Brow
       rw [combTo_len]
       exact kc.congr (fun j hj=>HS.out j hj)
      have hq:=grown_below h9 kd (by omega) (Nat.le_refl _)
      clear kc kd HS HF k7 ka kb
      go_wp2
      go_roundw
      case rel=>exact ⟨t+1,by omega,by go_num,hp,hq⟩
      case measure=>simp [intOf];omega
  · have ke:t=D.length:=by rw [← ha.out];omega
    rw [ke] at h6
    clear ke
    go_wp2
    go_ret
    exact ⟨w.heap.size,rfl,Nat.le_refl _,h6,h9⟩
end
section
open Go.Deep
def okRow (D:List (List Nat)) (l:List Nat):Prop:=l.length=(D.getD 0 []).length∧l.length≤4096
def Fit (D:List (List Nat)):Prop:=∀ i (hi:i < D.length),okRow D D[i]
def EvR (D:List (List Nat)) (i:Value):Prop:=∃ k:Nat,k≤D.length∧i=.int .i64 k∧∀ j (hj:j < D.length),j < k→okRow D D[j]
def EvPost (D:List (List Nat)) (w:World) (e:Ending) (w':World):Prop:=∃ r:Bool,e=.returned (.bool r)∧(r=true↔Fit D)∧w'=w
theorem even_any (vd:Value) (D:List (List Nat)) (w:World) (hd:Rd w vd D) (hD:0 < D.length) :
 Calls Tryz.prog 154 #[vd] w fun e w'=>EvPost D w e w':=by
 rcases hd.cases with ⟨rfl,_⟩ | ⟨b,off,c,rfl,hl,hc⟩
 · simp at hD
 obtain ⟨u0,h4,h7⟩:=hc 0 hD
 obtain ⟨ao0,c0,rfl,l1,l2,_,_⟩:=h7
 have h5:(D.getD 0 []).length=(D[0]).length:=by simp [hD]
 have h3:(D[0]).length≤140737488355328:=by omega
 rw [← h5] at h4 h3
 rw [Nat.add_zero] at h4
 have HC:=hide hc
 clear hc l1 l2 h5
 go_enter Tryz.func154,Tryz.ntmps154
 go_wp2
 go_loop [7] (fun i=>EvR D i) (fun i=>D.length - (intOf i).toNat)
 case atStart=>exact ⟨0,Nat.zero_le _,rfl,fun j hj h=>absurd h (by omega)⟩
 case round=>
  obtain ⟨k,hk,rfl,h0⟩:=hrel
  by_cases h6:k < D.length
  · obtain ⟨u,hu,h8⟩:=HC.out k h6
    obtain ⟨fo,fc,rfl,q1,q2,_,_⟩:=h8
    have ha:(D[k]).length≤140737488355328:=by omega
    by_cases h1:okRow D D[k]
    · have t1:((((D[k]).length:Nat):Int) != (((D.getD 0 []).length:Nat):Int))=false:=by rw [h1.1];simp
      have t2:¬ (4096:Int) < (((D[k]).length:Nat):Int):=by have:=h1.2;omega
      have HO:Hid (∀ j (hj:j < D.length),j < k+1→okRow D D[j]):=by
       intro j hj he
       by_cases e:j=k
       · subst e;exact h1
       · exact h0 j hj (by omega)
      have h9:=h1.1
      generalize (D.getD 0 []).length=n0 at *
      generalize (D[k]).length=nk at *
      clear h0 h1 h9 q1 q2
      go_wp2
      go_round
      case rel=>exact ⟨k+1,by omega,by go_num,HO.out⟩
      case measure=>simp [intOf];omega
    · have HN:Hid (¬ Fit D):=fun h=>h1 (h k h6)
      by_cases h2:(D[k]).length=(D.getD 0 []).length
      · have t1:((((D[k]).length:Nat):Int) != (((D.getD 0 []).length:Nat):Int))=false:=by rw [h2];simp
        have t2:(4096:Int) < (((D[k]).length:Nat):Int):=by
         have:¬ (D[k]).length≤4096:=fun h=>h1 ⟨h2,h⟩
         omega
        generalize (D.getD 0 []).length=n0 at *
        generalize (D[k]).length=nk at *
        clear h0 h1 h2 q1 q2
        go_wp2
        go_ret
        exact ⟨false,rfl,⟨fun h=>by simp at h,fun h=>absurd h HN.out⟩,rfl⟩
      · have t1:((((D[k]).length:Nat):Int) != (((D.getD 0 []).length:Nat):Int))=true:=by rw [bne_iff_ne];omega
        generalize (D.getD 0 []).length=n0 at *
        generalize (D[k]).length=nk at *
        clear h0 h1 h2 q1 q2
        go_wp2
        go_ret
        exact ⟨false,rfl,⟨fun h=>by simp at h,fun h=>absurd h HN.out⟩,rfl⟩
  · have HF:Hid (Fit D):=fun i hi=>h0 i hi (by omega)
    clear h0
    go_wp2
    go_ret
    exact ⟨true,rfl,⟨fun _=>HF.out,fun _=>rfl⟩,rfl⟩
end
theorem bit_test (b k:Nat) (hb:b < 65536):(bits .and .i64 ((b:Int) / 2^k) 1 == 1)=decide (b / 2^k % 2=1):=by
 have h:b / 2^k < 2^62:=Nat.lt_of_le_of_lt (Nat.div_le_self _ _) (Nat.lt_trans hb (by decide))
 have e:=i64_and (b / 2^k) 1 h (by decide)
 rw [and1] at e
 have c:((b / 2^k:Nat):Int)=(b:Int) / 2^k:=by simp
 rw [c,show ((1:Nat):Int)=1 from rfl] at e
 rw [e,Bool.eq_iff_iff]
 simp
 omega
theorem pm_yes (a b k:Nat) (ha:a < 256) (hk:k < 8) (h:b / 2^k % 2=1) :
 bits .xor .i64 (pm a b k:Int) (wrap64 ((a:Int)*2^k))=(pm a b (k+1):Int):=by
 have h2:2^k≤2^7:=Nat.pow_le_pow_right (by decide) (by omega)
 have h3:a*2^k≤256*2^7:=Nat.mul_le_mul (by omega) h2
 have hp:=pm_lt a b ha k (by omega)
 have e:wrap64 ((a:Int)*2^k)=((a*2^k:Nat):Int):=by
  have:((a*2^k:Nat):Int)=(a:Int)*2^k:=by simp
  rw [← this];unfold wrap64;omega
 rw [e,i64_xor _ _ (by omega) (by omega)]
 simp only [pm,h,if_true]
theorem pm_no (a b k:Nat) (h:¬ b / 2^k % 2=1):(pm a b k:Int)=(pm a b (k+1):Int):=by
 simp only [pm,h,if_false]
theorem rd_lt (k p:Nat) (hk:k≤6) (hp:p < 65536):(if p / 2^(k+8) % 2=1 then p^^^(285*2^k) else p) < 65536:=by
 split
 · refine Nat.xor_lt_two_pow (n:=16) hp ?_
   have h2:2^k≤2^6:=Nat.pow_le_pow_right (by decide) hk
   omega
 · exact hp
theorem rd_yes (k p:Nat) (hk:k≤6) (hp:p < 65536) (h:p / 2^(k+8) % 2=1) :
 bits .xor .i64 (p:Int) (wrap64 (285*2^k))=((if p / 2^(k+8) % 2=1 then p^^^(285*2^k) else p:Nat):Int):=by
 have h2:2^k≤2^6:=Nat.pow_le_pow_right (by decide) hk
 have e:wrap64 (285*2^k)=((285*2^k:Nat):Int):=by
  have:((285*2^k:Nat):Int)=285*2^k:=by simp
  rw [← this];unfold wrap64;omega
 rw [if_pos h,e,i64_xor _ _ (by omega) (by omega)]
theorem rmul_any (a b:Nat) (ha:a < 256) (hb:b < 256) (w:World) :
 Calls Tryz.prog 29 #[.int .u8 a,.int .u8 b] w fun e w'=>e=.returned (.int .u8 (gm a b))∧w'=w:=by
 have h3:(a:Int) < 256:=by omega
 have h4:(b:Int) < 256:=by omega
 go_enter Tryz.func29,Tryz.ntmps29
 go_wp2
 go_loop [5,7] (fun s t=>∃ k:Nat,k≤8∧s=.int .i64 (pm a b k)∧t=.int .i64 k) (fun _ t=>8 - (intOf t).toNat)
 case atStart=>exact ⟨0,by decide,rfl,rfl⟩
 case round=>
  obtain ⟨k,hk,rfl,rfl⟩:=hrel
  have hp:=pm_lt a b ha k hk
  by_cases h1:k < 8
  · have ht:=bit_test b k (by omega)
    by_cases hc:b / 2^k % 2=1
    · rw [decide_eq_true hc] at ht
      have hy:=pm_yes a b k ha h1 hc
      clear hc
      go_wp2
      go_round
      case rel=>exact ⟨k+1,by omega,rfl,by go_num⟩
      case measure=>simp [intOf];omega
    · rw [decide_eq_false hc] at ht
      have HC:Hid (¬ b / 2^k % 2=1):=hc
      clear hc
      go_wp2
      go_round
      case rel=>exact ⟨k+1,by omega,by rw [pm_no a b k HC.out],by go_num⟩
      case measure=>simp [intOf];omega
  · have h2:k=8:=by omega
    subst h2
    have hE := @ref_eq a b ha hb
    have HE:Hid (rd 7 (pm a b 8)=gm a b):=hE
    clear hE
    generalize pm a b 8=p at *
    go_wp2
    go_loop [5,8] (fun s t=>∃ j p:Nat,j≤7∧p < 65536∧Hid (rd j p=gm a b)∧s=.int .i64 p∧t=.int .i64 ((j+7:Nat):Int)) (fun _ t=>(intOf t).toNat)
    case atStart=>exact ⟨7,p,by decide,hp,HE,rfl,rfl⟩
    case round=>
     obtain ⟨j,q,hj,hq,hg,rfl,rfl⟩:=hrel
     cases j with
     | zero=>
      have hl := @gm_lt a b ha
      go_wp2
      go_ret
      exact ⟨ret_int (by have:=hg.out;simp only [rd] at this;omega),rfl⟩
     | succ j=>
      have hl:=rd_lt j q (by omega) hq
      have ht:=bit_test q (j+1+7) hq
      have h0:Hid (rd j (if q / 2^(j+8) % 2=1 then q^^^(285*2^j) else q)=gm a b):=hg.out
      by_cases hc:q / 2^(j+8) % 2=1
      · rw [show j+8=j+1+7 from rfl] at hc
        rw [decide_eq_true hc] at ht
        have hy:=rd_yes j q (by omega) hq hc
        have HY:=hide hy
        have HL:=hide hl
        clear hc hy hl
        go_wp2
        go_round
        case rel=>exact ⟨j,_,by omega,HL.out,h0,by rw [HY.out],by go_num⟩
        case measure=>simp [intOf];omega
      · have HL:Hid (rd j q=gm a b):=by have:=h0.out;rw [if_neg hc] at this;exact this
        rw [show j+8=j+1+7 from rfl] at hc
        rw [decide_eq_false hc] at ht
        clear hc hl
        go_wp2
        go_round
        case rel=>exact ⟨j,q,by omega,hq,HL,rfl,by go_num⟩
        case measure=>simp [intOf];omega
theorem rinv_any (a:Nat) (ha:a < 256) (w:World) :
 Calls Tryz.prog 28 #[.int .u8 a] w fun e w'=>e=.returned (.int .u8 (gi a))∧w'=w:=by
 go_enter Tryz.func28,Tryz.ntmps28
 go_wp2
 go_loop [3] (fun s=>∃ k:Nat,1≤k∧k≤256∧Hid (∀ c,1≤c→c < k→gm a c≠1)∧s=.int .i64 k) (fun s=>256 - (intOf s).toNat)
 case atStart=>exact ⟨1,by decide,by decide,(fun c h1 h2=>absurd h1 (by omega)),rfl⟩
 case round=>
  obtain ⟨k,h7,hk,hn,rfl⟩:=hrel
  by_cases h3:k < 256
  · have h5:(k:Int) % 256=(k:Int):=by omega
    by_cases hc:gm a k=1
    · have h4:=gi_unique ha h3 hc
      have HK:=hide h4
      have ht:((gm a k:Int) == 1)=true:=by rw [hc];rfl
      clear h4 hc
      go_wp2_with (go_at_call 29;refine (rmul_any a k ha h3 _).mono ?_;rintro e w' ⟨rfl,rfl⟩)
      go_ret
      exact ⟨ret_int (by rw [← HK.out]),rfl⟩
    · have h6:Hid (∀ c,1≤c→c < k+1→gm a c≠1):=by
       intro c h1 h2
       by_cases e:c=k
       · rw [e];exact hc
       · exact hn.out c h1 (by omega)
      have ht:((gm a k:Int) == 1)=false:=by rw [beq_eq_false_iff_ne];omega
      clear hc hn
      go_wp2_with (go_at_call 29;refine (rmul_any a k ha h3 _).mono ?_;rintro e w' ⟨rfl,rfl⟩)
      go_round
      case rel=>exact ⟨k+1,by omega,by omega,h6,by go_num⟩
      case measure=>simp [intOf];omega
  · have h0:Hid (0=gi a):=by
     by_cases e:a=0
     · rw [e,gi_zero];exact (rfl:(0:Nat)=0)
     · have g:=gm_gi a ha e
       have hl:=gi_lt ha
       refine absurd g (hn.out (gi a) ?_ (by omega))
       rcases Nat.eq_zero_or_pos (gi a) with z | z
       · rw [z,gm_zero] at g;exact absurd g (by decide)
       · exact z
    clear hn
    go_wp2
    go_ret
    exact ⟨ret_int (by rw [← h0.out];rfl),rfl⟩
section
open Go.Deep
def dataL (D i:Nat):List Nat:=(List.replicate D 0).set i 1
theorem dataRow_any (D L G i:Nat) (hD:D≤12) (hi:i < D) (w:World) :
 Calls Tryz.prog 94 #[.agg #[.int .i64 D,.int .i64 L,.int .i64 G],.int .i64 i] w fun e w'=>∃ b,e=.returned (.slice (some ⟨b,0,none⟩) D D)∧w.heap.size≤b∧Brow w' b (dataL D i)∧Below w.heap.size w w':=by
 go_enter Tryz.func94,Tryz.ntmps94
 go_wp2_with (at_make;refine wpList_mk _ rfl (.tmp 7) (.tmp 7) rfl D D rfl rfl rfl (by omega) ?_;intro w1 hB hb hz;rw [nblk_alloc] at hB hb hz;have hc:=hB.cell i (by simpa using hi);have hf:=hB.frozen i)
 go_ret
 refine ⟨w.heap.size+1,rfl,by omega,?_,?_⟩
 · exact hB.set i 1
 · exact (((Below.refl _ _).alloc (Nat.le_refl _) _).trans (hb.mono (by omega))).setCell (by simp) _
def localL (D L g:Nat):List Nat:=(List.range D).map fun j=>if g*(D / L)≤j∧j < (g+1)*(D / L) then 1 else 0
def localTo (D s k:Nat):List Nat:=(List.range D).map fun j=>if s≤j∧j < k then 1 else 0
theorem localTo_start (D s:Nat):localTo D s s=List.replicate D 0:=by
 unfold localTo
 apply List.ext_getElem
 · simp
 · intro i h1 h2
   simp
theorem localTo_step (D s k:Nat) (hs:s≤k):(localTo D s k).set k 1=localTo D s (k+1):=by
 unfold localTo
 apply List.ext_getElem
 · simp
 · intro i h1 h2
   simp [List.getElem_set]
   by_cases e:k=i
   · subst e;simp;omega
   · simp only [if_neg e]
     by_cases e2:s≤i∧i < k
     · rw [if_pos e2,if_pos ⟨e2.1,by omega⟩]
     · rw [if_neg e2,if_neg (by omega)]
theorem group_le {L:Nat} (h0:D % L=0) (hg:g < L):(g+1)*(D / L)≤D:=by
 have h1:(g+1)*(D / L)≤L*(D / L):=Nat.mul_le_mul_right _ hg
 have h2:L*(D / L)=D:=Nat.mul_div_cancel' (Nat.dvd_of_mod_eq_zero h0)
 omega
theorem localRow_any (D L G g:Nat) (hD:D≤12) (hL:1≤L) (ha:L≤4) (h2:D % L=0) (hg:g < L) (w:World) :
 Calls Tryz.prog 95 #[.agg #[.int .i64 D,.int .i64 L,.int .i64 G],.int .i64 g] w fun e w'=>∃ b,e=.returned (.slice (some ⟨b,0,none⟩) D D)∧w.heap.size≤b∧Brow w' b (localL D L g)∧Below w.heap.size w w':=by
 have he:=group_le h2 hg
 have hq:D / L≤D:=Nat.div_le_self _ _
 have h0:localL D L g=localTo D (g*(D / L)) ((g+1)*(D / L)):=rfl
 have e1:wrap64 ((D:Int) / (L:Int))=((D / L:Nat):Int):=by
  rw [← Int.natCast_ediv];exact wrap64_nat (by omega)
 generalize D / L=q at *
 have h5:g*q≤(g+1)*q:=Nat.mul_le_mul_right _ (by omega)
 have e2:wrap64 ((g:Int)*(q:Int))=((g*q:Nat):Int):=by
  rw [← Int.natCast_mul];unfold wrap64;omega
 have e3:wrap64 (((g:Int)+1)*(q:Int))=(((g+1)*q:Nat):Int):=by
  have:((g:Int)+1)*(q:Int)=(((g+1)*q:Nat):Int):=by push_cast;rfl
  rw [this];unfold wrap64;omega
 generalize g*q=s at *
 generalize (g+1)*q=t at *
 have HF:=hide h0
 clear h0
 go_enter Tryz.func95,Tryz.ntmps95
 go_wp2_with (at_make;refine wpList_mk _ rfl (.tmp 9) (.tmp 9) rfl D D rfl rfl rfl (by omega) ?_;intro w1 hB hb hz;rw [nblk_alloc] at hB hb hz;have hp:=hb.cell (p:=⟨w.heap.size,0,none⟩) (by simp);have h6:=hb.cell (p:=⟨w.heap.size,1,none⟩) (by simp))
 rw [← localTo_start D s] at hB
 go_loopw [7] (fun i wr=>∃ k:Nat,s≤k∧k≤t∧i=.int .i64 k∧Brow wr (w.heap.size+1) (localTo D s k)∧Below w.heap.size w wr) (fun i _=>t - (intOf i).toNat)
 case atStart=>exact ⟨s,Nat.le_refl _,h5,by rw [e2],hB,((Below.refl _ _).alloc (Nat.le_refl _) _).trans (hb.mono (by omega))⟩
 case round=>
  obtain ⟨k,h7,hh,rfl,h1,h3⟩:=hrel
  clear hB hb hp h6
  by_cases hi:k < t
  · have hc:=h1.cell k (by simp [localTo];omega)
    have hf:=h1.frozen k
    have h4:=h1.set k 1
    rw [localTo_step _ _ _ h7] at h4
    have h8:=h3.setCell (p:=⟨w.heap.size+1,k,none⟩) (by simp) (.int .u8 1)
    go_wp2
    go_roundw
    case rel=>exact ⟨k+1,by omega,by omega,by go_num,h4,h8⟩
    case measure=>simp [intOf];omega
  · have h9:k=t:=by omega
    subst h9
    go_wp2
    go_ret
    exact ⟨w.heap.size+1,rfl,by omega,by rw [HF.out];exact h1,h3⟩
def globalL (D i:Nat):List Nat:=(List.range D).map fun j=>gi ((D+i)^^^j)
def globalTo (D i k:Nat):List Nat:=(List.range D).map fun j=>if j < k then gi ((D+i)^^^j) else 0
theorem globalTo_start (D i:Nat):globalTo D i 0=List.replicate D 0:=by
 unfold globalTo
 apply List.ext_getElem
 · simp
 · intro j h1 h2
   simp
theorem globalTo_end (D i:Nat):globalTo D i D=globalL D i:=by
 unfold globalTo globalL
 apply List.ext_getElem
 · simp
 · intro j h1 h2
   simp at h1
   simp [h1]
theorem globalTo_step (D i k:Nat):(globalTo D i k).set k (gi ((D+i)^^^k))=globalTo D i (k+1):=by
 unfold globalTo
 apply List.ext_getElem
 · simp
 · intro j h1 h2
   simp [List.getElem_set]
   by_cases e:k=j
   · subst e;simp
   · simp only [if_neg e]
     by_cases e2:j < k
     · rw [if_pos e2,if_pos (by omega)]
     · rw [if_neg e2,if_neg (by omega)]
theorem xor_cell (D i j:Nat) (hD:D≤12) (hi:i≤4) (hj:j < D):(D+i)^^^j < 256∧bits .xor .i64 ((D:Int)+(i:Int)) (j:Int)=(((D+i)^^^j:Nat):Int):=by
 refine ⟨xlt (by omega) (by omega),?_⟩
 have:=i64_xor (D+i) j (by omega) (by omega)
 rw [← this]
 congr 1
theorem globalRow_any (D L G i:Nat) (hD:D≤12) (hi:i≤4) (w:World) :
 Calls Tryz.prog 96 #[.agg #[.int .i64 D,.int .i64 L,.int .i64 G],.int .i64 i] w fun e w'=>∃ b,e=.returned (.slice (some ⟨b,0,none⟩) D D)∧w.heap.size≤b∧Brow w' b (globalL D i)∧Below w.heap.size w w':=by
 go_enter Tryz.func96,Tryz.ntmps96
 go_wp2_with (at_make;refine wpList_mk _ rfl (.tmp 8) (.tmp 8) rfl D D rfl rfl rfl (by omega) ?_;intro w1 hB hb hz;rw [nblk_alloc] at hB hb hz;have hp:=hb.cell (p:=⟨w.heap.size,0,none⟩) (by simp))
 rw [← globalTo_start D i] at hB
 simp at hp
 go_loopw [12] (fun j wr=>∃ k:Nat,k≤D∧j=.int .i64 k∧Brow wr (w.heap.size+1) (globalTo D i k)∧wr.cell? ⟨w.heap.size,0,none⟩=some (.int .i64 D)∧Below w.heap.size w wr) (fun j _=>D - (intOf j).toNat)
 case atStart=>exact ⟨0,Nat.zero_le _,rfl,hB,hp,((Below.refl _ _).alloc (Nat.le_refl _) _).trans (hb.mono (by omega))⟩
 case round=>
  obtain ⟨k,hk,rfl,h0,h3,h1⟩:=hrel
  clear hB hb hp
  by_cases h4:k < D
  · have hc:=h0.cell k (by simp [globalTo];omega)
    have hf:=h0.frozen k
    obtain ⟨h5,h9⟩:=xor_cell D i k hD hi h4
    have h2:=h0.set k (gi ((D+i)^^^k))
    rw [globalTo_step] at h2
    have h6:=h1.setCell (p:=⟨w.heap.size+1,k,none⟩) (by simp) (.int .u8 (gi ((D+i)^^^k)))
    have h7:(wr.setCell ⟨w.heap.size+1,k,none⟩ (.int .u8 (gi ((D+i)^^^k)))).cell? ⟨w.heap.size,0,none⟩=some (.int .i64 D):=by rw [← h3];exact World.cell?_of_block (blk_setCell_other _ _ _ _ (by simp))
    generalize (D+i)^^^k=x at *
    have ha:(x:Int) < 256:=by omega
    go_wp2_with (go_at_call 122;refine (inv_any x h5 _).mono ?_;rintro e w' ⟨rfl,rfl⟩)
    go_roundw
    case rel=>exact ⟨k+1,by omega,by go_num,h2,h7,h6⟩
    case measure=>simp [intOf];omega
  · have h8:k=D:=by omega
    subst h8
    rw [globalTo_end] at h0
    go_wp2
    go_ret
    exact ⟨w.heap.size+1,rfl,by omega,h0,h1⟩
end
section
open Go.Deep
def matL (D L G:Nat):List (List Nat):=(List.range D).map (dataL D) ++ (List.range L).map (localL D L) ++ (List.range G).map (globalL D)
def Holds (T:List (Nat×Nat×List Nat)) (D:Nat) (M:List (List Nat)):Prop:=T.map (fun p=>p.2)=M.map (fun r=>(D,r))
theorem Holds.push (h:Holds T D M) (b:Nat) (r:List Nat):Holds (T ++ [(b,D,r)]) D (M ++ [r]):=by
 unfold Holds at *
 simp [h]
theorem Holds.length (h:Holds T D M):T.length=M.length:=by
 have:=congrArg List.length h
 simpa using this
theorem dataL_ok (D i:Nat):(dataL D i).length=D∧∀ x∈dataL D i,x < 256:=by
 refine ⟨by simp [dataL],fun x hx=>?_⟩
 rcases List.mem_or_eq_of_mem_set hx with h | h
 · have:=List.eq_of_mem_replicate h;omega
 · omega
theorem localL_ok (D L g:Nat):(localL D L g).length=D∧∀ x∈localL D L g,x < 256:=by
 refine ⟨by simp [localL],fun x hx=>?_⟩
 obtain ⟨j,_,rfl⟩:=List.mem_map.1 hx
 split <;> decide
theorem globalL_ok (D i:Nat) (hD:D≤12) (hi:i≤4):(globalL D i).length=D∧∀ x∈globalL D i,x < 256:=by
 refine ⟨by simp [globalL],fun x hx=>?_⟩
 obtain ⟨j,hj,rfl⟩:=List.mem_map.1 hx
 exact gi_lt (xlt (by omega) (by have:=List.mem_range.1 hj;omega))
theorem Tab.append {w1 w2:World} {v v':Value} {b:Nat} {r:List Nat} {o:Obj} (h:Tab w base v T) (hb:Below w.heap.size w w1) (h2:base≤w.heap.size) (h3:w.heap.size≤b) (hB:Brow w1 b r) (hr:r.length=D∧∀ x∈r,x < 256) (hD:D≤1000000)
 (hg:(w1.alloc o).grownBy w2 v.ownBlock) (h0:w2.ownsRow base 33 1 v' (T.length+1) (T.map hdr ++ [.slice (some ⟨b,0,none⟩) D D])):Tab w2 base v' (T ++ [(b,D,r)]):=by
 have h1:=(h.below hb).alloc o
 refine h1.push hg (p:=(b,D,r)) ?_ ⟨by show base≤b;omega,hB.alloc o,by show D≤r.length;omega,⟨by show D≤140737488355328;omega,by show r.length≤9223372036854775807;omega⟩,hr.2⟩ ?_
 · have e:hdr (b,D,r)=.slice (some ⟨b,0,none⟩) D D:=by unfold hdr;simp [hr.1]
   rw [e];exact h0
 · intro q hq
   have:=(h.row q hq).2.1.lt
   show q.1≠b
   omega
theorem box_cells {wx:World} {a b c:Value} {t:TypeId} (h:Below (w.heap.size+1) (w.alloc (.cells #[a,b,c] t)) wx) :
 wx.cell? ⟨w.heap.size,0,none⟩=some a∧wx.cell? ⟨w.heap.size,1,none⟩=some b∧wx.cell? ⟨w.heap.size,2,none⟩=some c:=by
 have p0:=h.cell (p:=⟨w.heap.size,0,none⟩) (by simp)
 have p1:=h.cell (p:=⟨w.heap.size,1,none⟩) (by simp)
 have p2:=h.cell (p:=⟨w.heap.size,2,none⟩) (by simp)
 rw [World.cell?_alloc_at _ _ _ _ rfl] at p0 p1 p2
 exact ⟨p0,p1,p2⟩
theorem below_made {B:Nat} {w0 wa wb:World} (ha:Below B w0 wa) (hB:B≤wa.heap.size) (hb:Below wa.heap.size wa wb) (hg:wb.grownBy wc none):Below B w0 wc:=
 (ha.trans (hb.mono hB)).grown hg (by have:=hb.size;omega) (fun k hk=>by simp at hk)
theorem Tab.made {cap:Nat} (h:wc.ownsRow base 33 1 (.slice (some ⟨g,0,none⟩) 0 cap) 0 []):Tab wc base (.slice (some ⟨g,0,none⟩) 0 cap) []:=
 ⟨h,fun p hp=>by simp at hp,by simp⟩
theorem Holds.nil (D:Nat):Holds [] D []:=rfl
theorem range_snoc {α:Type} (f:Nat→α) (k:Nat):(List.range (k+1)).map f=(List.range k).map f ++ [f k]:=by
 rw [List.range_succ,List.map_append];rfl
theorem matrix_right (D L G:Nat) (hr:rightB D L G=true) (hD:D≤12) (hL:1≤L) (k5:L≤4) (hG:G≤4) (hp:D % L=0) (w:World) :
 Calls Tryz.prog 73 #[.agg #[.int .i64 D,.int .i64 L,.int .i64 G]] w fun e w'=>∃ v T,e=.returned (.tuple #[v,.nilIface])∧Tab w' (w.heap.size+1) v T∧Holds T D (matL D L G)∧Below w.heap.size w w':=by
 obtain ⟨i0,hi,hj,hm,hn⟩:=info_parts Tryz.infoBytes
 go_enter Tryz.func73,Tryz.ntmps73
 go_wp2_with fail
 refine (right_any D L G _).mono ?_
 rintro e wa ⟨rfl,h8⟩
 rw [nblk_alloc] at h8
 have hz:=h8.size
 rw [nblk_alloc] at hz
 obtain ⟨p0,p1,p2⟩:=box_cells h8
 go_wp2_with fail
 refine (shards_any D L G _ (by omega) (by omega) (by omega)).mono ?_
 rintro e wb ⟨rfl,hq⟩
 have k6:=hq.size
 clear p0 p1 p2
 go_wp2_with (at_make;refine wpList_make_own _ rfl (.const (.int .i64 0)) (.tmp 13) 57 rfl (w.heap.size+1) 33 i0 (.slice none 0 0) 1 Tryz.underlying57 hi hj hm .i64 .i64 (D+L+G) (D+L+G) rfl rfl (by omega) (by rw [hn];omega) (by unfold maxLen;omega) (by omega) ?_;intro wc h9 hx;have hy:=below_made h8 hz hq hx;obtain ⟨p0,p1,p2⟩:=box_cells hy)
 have hT:=Tab.made h9
 have k7:=hx.size
 clear h9 hx h8 hq
 generalize Value.slice (some ⟨wb.heap.size,0,none⟩) 0 (D+L+G)=v0 at *
 go_loopw [4,17] (fun v i wr=>∃ k T,k≤D∧i=.int .i64 (k:Nat)∧Tab wr (w.heap.size+1) v T∧Holds T D ((List.range k).map (dataL D))∧Below (w.heap.size+1) (w.alloc (.cells #[.int .i64 D,.int .i64 L,.int .i64 G] 23)) wr∧w.heap.size+1≤wr.heap.size) (fun _ i _=>D - (intOf i).toNat)
 case atStart=>exact ⟨0,[],Nat.zero_le _,rfl,hT,Holds.nil D,hy,by omega⟩
 case round=>
  clear hT hy p0 p1 p2
  obtain ⟨k,T,hk,rfl,hT,hH,h4,hs⟩:=hrel
  obtain ⟨p0,p1,p2⟩:=box_cells h4
  by_cases h7:k < D
  · have h3:=hH.length
    rw [List.length_map,List.length_range] at h3
    have h5:T.length≤12:=by omega
    clear h3
    have HH:=hide hH
    clear hH
    go_wp2_with fail
    refine (dataRow_any D L G k hD h7 _).mono ?_
    rintro e w1 ⟨b,rfl,ha,h6,h1⟩
    have k0:=h1.size
    go_wp2_with (at_builtin;refine wpList_append_own _ rfl (.tmp 20) (.tmp 24) 57 rfl (w.heap.size+1) 33 i0 (.slice none 0 0) 1 24 Tryz.underlying57 hi hj hm hn rfl (by decide) _ T.length (T.map hdr) rfl ((hT.below h1).alloc _).own ⟨w1.heap.size,0,none⟩ 1 1 [.slice (some ⟨b,0,none⟩) D D] rfl rfl (cell_one_new _ _ _) (by simp [Value.oneCell']) (by unfold maxLen;omega) (by omega) (by rw [nblk_alloc];omega) ?_;intro v' w2 h2 h0 hc)
    have he:=Tab.append hT h1 hs ha h6 (dataL_ok D k) (by omega) h0 h2
    have hf:=below_append hT h4 h1 hs h0
    have hg:=h0.size
    rw [nblk_alloc] at hg
    clear hT h2 h0 hc h6 h1 h4
    go_roundw
    case rel=>exact ⟨k+1,_,by omega,by go_num,he,by rw [range_snoc];exact HH.out.push b _,hf,by omega⟩
    case measure=>simp [intOf];omega
  · have hh:D=k:=by omega
    clear h7 hk
    subst hh
    have HH:=hide hH
    clear hH
    go_wp2_with fail
    go_loopw [4,29] (fun v i wr=>∃ k T,k≤L∧i=.int .i64 (k:Nat)∧Tab wr (w.heap.size+1) v T∧Holds T D ((List.range D).map (dataL D) ++ (List.range k).map (localL D L))∧Below (w.heap.size+1) (w.alloc (.cells #[.int .i64 D,.int .i64 L,.int .i64 G] 23)) wr∧w.heap.size+1≤wr.heap.size) (fun _ i _=>L - (intOf i).toNat)
    case atStart=>exact ⟨0,T,Nat.zero_le _,rfl,hT,by rw [List.range_zero,List.map_nil,List.append_nil];exact HH.out,h4,hs⟩
    case round=>
     clear hT h4 p0 p1 p2 HH hs
     obtain ⟨k,T,hk,rfl,hT,hH,h4,hs⟩:=hrel
     obtain ⟨p0,p1,p2⟩:=box_cells h4
     by_cases h7:k < L
     · have h3:=hH.length
       simp only [List.length_append,List.length_map,List.length_range] at h3
       have h5:T.length≤20:=by omega
       clear h3
       have HH:=hide hH
       clear hH
       go_wp2_with fail
       refine (localRow_any D L G k hD hL k5 hp h7 _).mono ?_
       rintro e w1 ⟨b,rfl,ha,h6,h1⟩
       have k0:=h1.size
       go_wp2_with (at_builtin;refine wpList_append_own _ rfl (.tmp 32) (.tmp 36) 57 rfl (w.heap.size+1) 33 i0 (.slice none 0 0) 1 24 Tryz.underlying57 hi hj hm hn rfl (by decide) _ T.length (T.map hdr) rfl ((hT.below h1).alloc _).own ⟨w1.heap.size,0,none⟩ 1 1 [.slice (some ⟨b,0,none⟩) D D] rfl rfl (cell_one_new _ _ _) (by simp [Value.oneCell']) (by unfold maxLen;omega) (by omega) (by rw [nblk_alloc];omega) ?_;intro v' w2 h2 h0 hc)
       have he:=Tab.append hT h1 hs ha h6 (localL_ok D L k) (by omega) h0 h2
       have hf:=below_append hT h4 h1 hs h0
       have hg:=h0.size
       rw [nblk_alloc] at hg
       clear hT h2 h0 hc h6 h1 h4
       go_roundw
       case rel=>exact ⟨k+1,_,by omega,by go_num,he,by rw [range_snoc,← List.append_assoc];exact HH.out.push b _,hf,by omega⟩
       case measure=>simp [intOf];omega
     · have hh:L=k:=by omega
       clear h7 hk
       subst hh
       have HH:=hide hH
       clear hH
       go_wp2_with fail
       go_loopw [4,41] (fun v i wr=>∃ k T,k≤G∧i=.int .i64 (k:Nat)∧Tab wr (w.heap.size+1) v T∧Holds T D (((List.range D).map (dataL D) ++ (List.range L).map (localL D L)) ++ (List.range k).map (globalL D))∧Below (w.heap.size+1) (w.alloc (.cells #[.int .i64 D,.int .i64 L,.int .i64 G] 23)) wr∧w.heap.size+1≤wr.heap.size) (fun _ i _=>G - (intOf i).toNat)
       case atStart=>exact ⟨0,T,Nat.zero_le _,rfl,hT,by rw [List.range_zero,List.map_nil,List.append_nil];exact HH.out,h4,hs⟩
       case round=>
        clear hT h4 p0 p1 p2 HH hs
        obtain ⟨k,T,hk,rfl,hT,hH,h4,hs⟩:=hrel
        obtain ⟨p0,p1,p2⟩:=box_cells h4
        by_cases h7:k < G
        · have h3:=hH.length
          simp only [List.length_append,List.length_map,List.length_range] at h3
          have h5:T.length≤20:=by omega
          clear h3
          have HH:=hide hH
          clear hH
          go_wp2_with fail
          refine (globalRow_any D L G k hD (by omega) _).mono ?_
          rintro e w1 ⟨b,rfl,ha,h6,h1⟩
          have k0:=h1.size
          go_wp2_with (at_builtin;refine wpList_append_own _ rfl (.tmp 44) (.tmp 48) 57 rfl (w.heap.size+1) 33 i0 (.slice none 0 0) 1 24 Tryz.underlying57 hi hj hm hn rfl (by decide) _ T.length (T.map hdr) rfl ((hT.below h1).alloc _).own ⟨w1.heap.size,0,none⟩ 1 1 [.slice (some ⟨b,0,none⟩) D D] rfl rfl (cell_one_new _ _ _) (by simp [Value.oneCell']) (by unfold maxLen;omega) (by omega) (by rw [nblk_alloc];omega) ?_;intro v' w2 h2 h0 hc)
          have he:=Tab.append hT h1 hs ha h6 (globalL_ok D k hD (by omega)) (by omega) h0 h2
          have hf:=below_append hT h4 h1 hs h0
          have hg:=h0.size
          rw [nblk_alloc] at hg
          clear hT h2 h0 hc h6 h1 h4
          go_roundw
          case rel=>exact ⟨k+1,_,by omega,by go_num,he,by rw [range_snoc,← List.append_assoc];exact HH.out.push b _,hf,by omega⟩
          case measure=>simp [intOf];omega
        · have hh:G=k:=by omega
          clear h7 hk
          subst hh
          have HH:=hide hH
          clear hH
          go_wp2
          go_ret2
          refine ⟨_,T,rfl,hT,HH.out,?_⟩
          exact ((Below.refl _ _).alloc (Nat.le_refl _) _).trans (h4.mono (by omega))
end
end Go.Proofs.YthcgahldacpolaaGreatDoor
