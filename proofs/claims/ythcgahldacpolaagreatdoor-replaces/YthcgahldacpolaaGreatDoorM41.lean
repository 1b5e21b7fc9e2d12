import Derived.Test.YthcgahldacpolaaGreatDoorM40
import Derived.Deep.RegionHeld3
set_option maxRecDepth 100000
set_option maxHeartbeats 8000000
namespace Go.Proofs.YthcgahldacpolaaGreatDoor
open Go.RowKit Go.Deep
variable {regs:Int} {O:List (Int×Nat×Nat×List Nat)} {Dl:List (List Nat)} {row:List Nat} {P:List St} {xs:List Value} {base n b c g N lost d:Nat} {v:Value} {w w':World}
def LlR (w:World) (P:List St) (D:List (List Nat)) (gone:Nat) (lv sv iv:Value) (wr:World):Prop:=
 ∃ k:Nat,k≤P.length∧iv=.int .i64 k∧lv=.int .i64 ((fl P D k).getD 0:Nat)∧sv=.bool (fl P D k).isSome∧(∀ i,i < k→ldOk P D gone i)∧Below w.heap.size w wr
def LlPost (P:List St) (D:List (List Nat)) (gone:Nat) (w:World) (r:Ending) (w':World):Prop:=
 (ldsOk P D gone→r=.returned (.tuple #[.int .i64 (runLen P D:Nat),.nilIface]))∧(¬ ldsOk P D gone→r=.returned (.tuple #[.int .i64 0,.iface 37 (.int .i64 2)]))∧Below w.heap.size w w'
theorem loadedLength_any (v:Value) (P:List St) (bi ci:Nat) (D:List (List Nat)) (gone:Nat) (w:World) (h:Ps .u8 w v P) (hI:In w bi D gone) (hp:∀ l∈D,l.length≤100000)
 (hr:∀ i,i < P.length→(stAt P i).k=0→0≤(stAt P i).b∧(stAt P i).b < (D.length:Int)) (hl:P.length≤5000) :
 Calls Tryz.prog 109 #[v,.slice (some ⟨bi,0,none⟩) D.length ci] w fun r w'=>LlPost P D gone w r w':=by
 obtain ⟨ao,c,rfl⟩:=h.slice
 go_enter Tryz.func109,Tryz.ntmps109
 go_wp2
 go_loopw [6,7,13] (fun lv sv iv wr=>LlR w P D gone lv sv iv wr) (fun _ _ iv _=>P.length - (intOf iv).toNat)
 case atStart=>exact ⟨0,Nat.zero_le _,rfl,rfl,rfl,fun i hi=>absurd hi (by omega),Below.refl _ _⟩
 case round=>
  rename World=>wo
  obtain ⟨k,hk,rfl,rfl,rfl,he,hh⟩:=hrel
  have k6:=hh.size
  by_cases h7:k < P.length
  · rcases (h.mono hh).cases with ⟨rfl,_⟩ | ⟨b,off,cc,e,_,hc⟩
    · simp at h7
    simp at e
    obtain ⟨rfl,rfl⟩:=e
    obtain ⟨d0,d1,d2,d3⟩:=hc k h7
    have hs:=stAt_get P k h7
    have hj:=hr k h7
    have h9:=hide he
    have h8:=hide (fl_some P D k)
    have h5:=hide (fl_load P D k)
    have hm:=hide (fl_other P D k)
    have h1:Hid (ldOk P D gone k↔((stAt P k).k=0→¬ goneB gone (stAt P k).b.toNat∧fl P D (k+1)=some (D.getD (stAt P k).b.toNat []).length∧(D.getD (stAt P k).b.toNat []).length≤4096)):=Iff.rfl
    rw [hs] at hj h5 hm h1
    have h0:=hh.alloc k6 (.cells #[.int .u8 P[k].k,.int .i64 P[k].a,.int .i64 P[k].b,.int .u8 P[k].c] 238)
    have hq:=hI.mono h0
    have HC:=hide hc
    have HI:=hide hI
    have HH:=hide h
    have HR:=hide hr
    clear hc he hI h hr hs
    generalize P[k].k=sk at *
    generalize P[k].b=sb at *
    by_cases k0:sk=0
    · have tk:((sk:Int) != 0)=false:=by simp [k0]
      obtain ⟨q1,q2⟩:=hj k0
      have K0:=hide k0
      clear k0
      obtain ⟨x,rfl⟩:∃ x:Nat,sb=(x:Int):=⟨sb.toNat,by omega⟩
      have hx:x < D.length:=by omega
      obtain ⟨i1,i2⟩:=hq x hx
      have hy:D.getD x []=D[x]:=by simp [hx]
      have kb:=hp _ (List.getElem_mem hx)
      rw [Int.toNat_natCast,hy] at h5 h1
      have hz:=hide i2
      clear hj q1 q2 hq hy hm
      by_cases hg:goneB gone x
      · have ha:=i1 hg
        have HB:Hid (¬ ldsOk P D gone):=fun hl=>((h1.out.1 (hl k h7)) K0.out).1 hg
        have k7:=fun wx=>Lib.run_eql_slice_nil (P:=Tryz.prog) wx 33 5 none 0 0 0 0 Tryz.underlying33
        clear i1 i2 hz h1 h5 h8
        cases hf:fl P D k
        · go_wp2
          go_ret2
          exact ⟨fun hl=>absurd hl HB.out,fun _=>rfl,h0⟩
        · go_wp2
          go_ret2
          exact ⟨fun hl=>absurd hl HB.out,fun _=>rfl,h0⟩
      · obtain ⟨ax,cx,ha,k8⟩:=i2 hg
        have k7:=fun wx=>Lib.run_eql_slice_nil (P:=Tryz.prog) wx 33 5 (some ax) (D[x]).length cx 0 0 Tryz.underlying33
        clear i1 i2 hz k8
        generalize D[x].length=n at *
        cases hf:fl P D k with
        | none=>
         have h4:=h5.out hf K0.out
         by_cases hn:n≤4096
         · have h2:=h1.out.2 (fun _=>⟨hg,h4,hn⟩)
           have h3:=hide h2
           have h6:=hide h4
           clear h1 h5 h8 h4 h2
           go_wp2
           go_roundw
           case rel=>
            refine ⟨k+1,by omega,by go_num,by first | (rw [h6.out];rfl) | rw [h6.out],by first | (rw [h6.out];rfl) | rw [h6.out],fun i hi=>?_,h0⟩
            by_cases e:i=k
            · subst e;exact h3.out
            · exact h9.out i (by omega)
           case measure=>simp [intOf];omega
         · have HB:Hid (¬ ldsOk P D gone):=fun hl=>hn ((h1.out.1 (hl k h7)) K0.out).2.2
           have k9:(4096:Int) < (n:Int):=by omega
           clear h1 h5 h8 h4
           go_wp2
           go_ret2
           exact ⟨fun hl=>absurd hl HB.out,fun _=>rfl,h0⟩
        | some m=>
         have h4:=h8.out m hf
         by_cases hn:n=m∧n≤4096
         · obtain ⟨rfl,hn⟩:=hn
           have h2:=h1.out.2 (fun _=>⟨hg,h4,hn⟩)
           have h3:=hide h2
           have h6:=hide h4
           have tt:(((n:Nat):Int) != (n:Int))=false:=by simp
           clear h1 h5 h8 h4 h2
           go_wp2
           go_roundw
           case rel=>
            refine ⟨k+1,by omega,by go_num,by first | (rw [h6.out];rfl) | rw [h6.out],by first | (rw [h6.out];rfl) | rw [h6.out],fun i hi=>?_,h0⟩
            by_cases e:i=k
            · subst e;exact h3.out
            · exact h9.out i (by omega)
           case measure=>simp [intOf];omega
         · have HB:Hid (¬ ldsOk P D gone):=fun hl=>by
            have q:=(h1.out.1 (hl k h7)) K0.out
            rw [h4] at q
            have:=q.2.1
            simp at this
            omega
           clear h1 h5 h8 h4
           by_cases k5:n=m
           · have k9:(4096:Int) < (m:Int):=by omega
             have tt:(((n:Nat):Int) != (m:Int))=false:=by simp;omega
             clear hn k5
             go_wp2
             go_ret2
             exact ⟨fun hl=>absurd hl HB.out,fun _=>rfl,h0⟩
           · have tt:(((n:Nat):Int) != (m:Int))=true:=by simp;omega
             clear hn k5
             go_wp2
             go_ret2
             exact ⟨fun hl=>absurd hl HB.out,fun _=>rfl,h0⟩
    · have tk:((sk:Int) != 0)=true:=by simp;omega
      have HF:=hide (hm.out k0)
      have h3:=hide (h1.out.2 (fun e=>absurd e k0))
      clear hm h5 h8 h1 hj hq k0
      go_wp2
      go_roundw
      case rel=>
       refine ⟨k+1,by omega,by go_num,by rw [HF.out],by rw [HF.out],fun i hi=>?_,h0⟩
       by_cases e:i=k
       · subst e;exact h3.out
       · exact h9.out i (by omega)
      case measure=>simp [intOf];omega
  · have ka:k=P.length:=by omega
    subst ka
    have h9:=hide he
    clear h hI hr he
    go_wp2
    go_ret2
    exact ⟨fun _=>rfl,fun hn=>absurd (fun i hi=>h9.out i hi) hn,hh⟩
section
open Gf
theorem copy_run (w:World) (ty:TypeId) (g n cap:Nat) (old src:List Nat) (ao:Option Addr) (c:Nat) (hB:Brow w g old) (hS:Bs w (.slice ao src.length c) src) (hn:src.length=n) (ho:old.length=n) :
 ∃ w',(Builtin.copy_ #[33,33] ty #[.slice (some ⟨g,0,none⟩) n cap,.slice ao src.length c]).run Tryz.prog w=.ok (.int .i64 (n:Nat)) w'∧Brow w' g src∧w.grownBy w' (some g):=by
 subst hn
 have h2:(Tryz.prog.info? 5).map (fun i=>i.size)=some 1:=by kernel_rfl
 by_cases h0:src.length=0
 · have h5:src=[]:=List.eq_nil_of_length_eq_zero h0
   have h6:old=[]:=List.eq_nil_of_length_eq_zero (by omega)
   subst h5 h6
   exact ⟨w,run_copy_none (P:=Tryz.prog) w 33 33 ty 5 (some ⟨g,0,none⟩) ao 0 cap 0 c Tryz.underlying33 h2 (by simp),hB,World.grownBy.refl _ _⟩
 · obtain ⟨ao',c',e,_,_,hx,h4⟩:=hS
   simp at e
   obtain ⟨b,off,e2,hc⟩:=h4 (by intro e;rw [e] at h0;simp at h0)
   rw [← e.1] at e2
   subst e2
   have h1:=run_copy_row (P:=Tryz.prog) w 33 33 ty 5 g 0 src.length cap ⟨b,off,none⟩ src.length c _ 5 (bv src) Tryz.underlying33 h2 hB.heap (by simp [bv]) (fun j v hj=>by
    have h3:j < src.length:=by
     obtain ⟨q,_⟩:=List.getElem?_eq_some_iff.1 hj
     simpa [bv] using q
    rw [Addr.add_mid,hc j h3,← hj]
    simp [bv,h3]) (by simp [bv];omega) (by intro v hv;simp [bv] at hv;obtain ⟨x,_,rfl⟩:=hv;rfl)
   have e3:(List.take 0 (List.map (fun x=>Value.int .u8 ((x:Nat):Int)) old).toArray.toList ++ bv src ++ List.drop (0+(bv src).length) (List.map (fun x=>Value.int .u8 ((x:Nat):Int)) old).toArray.toList)=src.map (fun x=>Value.int .u8 ((x:Nat):Int)):=by
    simp [bv]
    omega
   rw [e3] at h1
   refine ⟨w.setRow g (src.map (fun x=>Value.int .u8 ((x:Nat):Int))).toArray,by rw [h1];simp [bv,goInt],?_,?_⟩
   · exact Brow.of_heap (setRow_heap w g (old.map (fun x=>Value.int .u8 ((x:Nat):Int))).toArray (src.map (fun x=>Value.int .u8 ((x:Nat):Int))).toArray 5 _ hB.heap)
   · refine ⟨rfl,rfl,rfl,by simp [World.setRow],fun k hk h7=>setRow_other w g k _ (fun e=>h7 (by rw [e]))⟩
theorem step_copy {ops:Array Oper} {o:Oper} {a:Act} {K:Act→World→Prop} {Q:Exit→Act→World→Prop} {E:Prop} (h1:o.guard=none) (d s:Operand) (ho:o.op=.call { callee:=.builtin .copy,args:=#[d,s],argTypes:=#[33,33] })
 (vd vs v':Value) (hd:a.eval d=vd) (hs:a.eval s=vs) (h0:(Builtin.copy_ #[33,33] o.type #[vd,vs]).run Tryz.prog w=.ok v' w') (h:K (a.put o.dst v') w'):if Region.wanted o (yielded ops a.tmps)=true then Oper.wp Tryz.prog o a w K Q else E:=by
 rw [if_pos (by simp [Region.wanted,h1])]
 unfold Oper.wp
 simp [execOp,ho,resolve,invoke,builtin,hd,hs,h0,Result.andThen]
 exact h
theorem out_ne (h:w.ownsRow base 193 2 v n xs) {b:Nat} {l:List Nat} (hb:Brow w b l):v.ownBlock≠some b:=by
 intro e
 rcases h.2 with ⟨h0,_⟩ | ⟨g,cap,cur,e1,e2,e3,_⟩
 · rw [h0] at e;simp [Value.ownBlock] at e
 · rw [e1] at e
   simp [Value.ownBlock] at e
   subst e
   obtain ⟨c,hc,_⟩:=hb
   rw [hc] at e3
   simp at e3
theorem Outs.aside {l:List Nat} (h:Outs 193 w base v O) (hb:Brow w b l) (hg:w.grownBy w' (some b)) (h0:∀ q∈O,q.2.1≠b):Outs 193 w' base v O:=
 ⟨h.own.kept hg (.inr (out_ne h.own hb)),fun q hq=>by
  obtain ⟨a,c,d⟩:=h.row q hq
  exact ⟨a,c.grown hg (by intro e;simp at e;exact h0 q hq e),d⟩,h.nodup⟩
theorem holds_set {T:List (Nat×Nat×List Nat)} {R:List (List Nat)} (h:Holds T n R) (i:Nat) (hi:i < T.length) (l:List Nat):Holds (T.set i (T[i].1,T[i].2.1,l)) n (R.set i l):=by
 have h0:=holds_len h
 have h1:=h.at hi (by omega)
 unfold Holds at *
 rw [List.map_set,List.map_set,h,h1]
end
section
open Gf
theorem addRow_len (x y:List Nat) (c:Nat):(addRow x y c).length=x.length:=by simp [addRow]
theorem addRow_lt {x y:List Nat} (hx:∀ a∈x,a < 256) (hc:c < 256):∀ a∈addRow x y c,a < 256:=by
 intro a ha
 simp only [addRow,List.mem_map,List.mem_range] at ha
 obtain ⟨j,_,rfl⟩:=ha
 exact Nat.xor_lt_two_pow (n:=8) (getD_lt hx j) (gm_lt _ hc)
theorem addTimes_row (b fb n c:Nat) (x y:List Nat) (w:World) (hc:c < 256) (hx:Brow w b x) (hy:Brow w fb y) (h0:x.length=n) (h7:y.length=n) (h3:fb≠b) (h4:∀ a∈x,a < 256) (h5:∀ a∈y,a < 256) (hn:n≤100000) :
 Calls Tryz.prog 111 #[.slice (some ⟨b,0,none⟩) n n,.slice (some ⟨fb,0,none⟩) n n,.int .u8 c] w fun e w'=>e=.returned (.tuple #[])∧Brow w' b (addRow x y c)∧w.grownBy w' (some b):=by
 have hr:w.rowIs b 5 n (tv (fun i=>x.getD i 0)):=by
  have:=hx
  unfold Brow at this
  rw [h0] at this
  exact this
 refine (addTimes_some b 5 n 0 n n fb 0 n c (fun i=>x.getD i 0) (fun i=>y.getD i 0) w hc hr (fun j=>getD_lt h4 j) (fun j=>getD_lt h5 j) (by omega) (by omega) (fun i hi=>by rw [Nat.zero_add];exact hy.cell i (by omega)) (.inl h3)).mono ?_
 rintro e w' ⟨rfl,h1,h2⟩
 refine ⟨rfl,?_,h2⟩
 unfold Brow
 rw [addRow_len,h0]
 refine h1.congr fun j hj=>?_
 have h6:j < x.length:=by omega
 unfold tv vb addTo addRow
 rw [if_pos (by omega)]
 simp [h6]
structure Rn (w0:World) (B:Nat) (P:List St) (D R0:List (List Nat)) (n r gR k:Nat) (vO:Value) (T:List (Nat×Nat×List Nat)) (O:List (Int×Nat×Nat×List Nat)) (wr:World):Prop where
 tab:Tab wr B (.slice (some ⟨gR,0,none⟩) r r) T
 hold:Holds T n (regTo P D R0 k)
 len:∀ l∈regTo P D R0 k,l.length=n
 outs:Outs 193 wr B vO O
 vals:O.map (fun q=>(q.1,q.2.2.2.take q.2.2.1))=outTo P D R0 k
 apart:∀ p∈T,∀ q∈O,p.1≠q.2.1
 below:Below B w0 wr
 size:B≤wr.heap.size
variable {w0:World} {B:Nat} {P:List St} {D R0:List (List Nat)} {n r gR k:Nat} {vO:Value} {T:List (Nat×Nat×List Nat)} {O:List (Int×Nat×Nat×List Nat)} {w:World}
theorem Rn.next (h:Rn w0 B P D R0 n r gR k vO T O w) {w':World} (hb:Below w.heap.size w w'):Rn w0 B P D R0 n r gR k vO T O w':=
 ⟨h.tab.below hb,h.hold,h.len,h.outs.below hb,h.vals,h.apart,h.below.trans (hb.mono h.size),Nat.le_trans h.size hb.size⟩
theorem Rn.tlen (h:Rn w0 B P D R0 n r gR k vO T O w):T.length=r:=by
 rcases h.tab.shape with ⟨e,_⟩ | ⟨g,cap,e,_⟩
 · simp at e
 · simp at e
   omega
theorem Rn.reg (h:Rn w0 B P D R0 n r gR k vO T O w) (A:Nat) (hA:A < r):∃ g,(∃ hT:A < T.length,T[A]=(g,n,(regTo P D R0 k).getD A []))∧w.cell? ⟨gR,A,none⟩=some (.slice (some ⟨g,0,none⟩) n n)∧Brow w g ((regTo P D R0 k).getD A [])∧((regTo P D R0 k).getD A []).length=n∧(∀ x∈(regTo P D R0 k).getD A [],x < 256)∧g≠gR∧B≤g∧g < w.heap.size∧gR < w.heap.size∧B≤gR:=by
 have hl:=h.tlen
 have hT:A < T.length:=by omega
 have hR:=holds_len h.hold
 have h0:A < (regTo P D R0 k).length:=by omega
 have h1:=h.hold.at hT h0
 have e1:(regTo P D R0 k).getD A []=(regTo P D R0 k)[A]:=by simp [h0]
 have hn:=h.len _ (List.getElem_mem h0)
 obtain ⟨a1,a2,a3,a4,a5⟩:=h.tab.row _ (List.getElem_mem hT)
 rw [e1]
 have e2:T[A]=(T[A].1,n,(regTo P D R0 k)[A]):=by rw [← h1]
 have e3:T[A].2.2=(regTo P D R0 k)[A]:=by rw [h1]
 have e4:T[A].2.1=n:=by rw [h1]
 rcases h.tab.shape with ⟨e,_⟩ | ⟨g,cap,e,hg,_,_,h3,hc,_,h4⟩
 · simp at e
 · simp at e
   obtain ⟨rfl,_⟩:=e
   have h2:=hc A hT
   unfold hdr at h2
   rw [e3,e4,hn] at h2
   rw [e3] at a2 a5
   exact ⟨T[A].1,⟨hT,e2⟩,h2,a2,hn,a5,h4 _ (List.getElem_mem hT),a1,a2.lt,h3,hg⟩
theorem Rn.write (h:Rn w0 B P D R0 n r gR k vO T O w) {w':World} {A g:Nat} {l0 src:List Nat} (hT:∃ hT:A < T.length,T[A]=(g,n,l0)) (h1:l0.length=n) (hg:w.grownBy w' (some g)) (hB:Brow w' g src) (hl:src.length=n) (hx:∀ x∈src,x < 256)
 (hr:regTo P D R0 (k+1)=(regTo P D R0 k).set A src) (ho:outTo P D R0 (k+1)=outTo P D R0 k):∃ T',Rn w0 B P D R0 n r gR (k+1) vO T' O w':=by
 obtain ⟨hA,e⟩:=hT
 have h0:=List.getElem_mem hA
 obtain ⟨a1,a2,_⟩:=h.tab.row _ h0
 have e1:T[A].1=g:=by rw [e]
 have e2:T[A].2.2=l0:=by rw [e]
 rw [e1] at a1 a2
 refine ⟨T.set A (T[A].1,T[A].2.1,src),?_,?_,?_,?_,?_,?_,?_,?_⟩
 · exact h.tab.wrote hA (by rw [e1];exact hg) (by rw [e1];exact hB) (by rw [e2];omega) hx
 · rw [hr];exact holds_set h.hold A hA src
 · rw [hr]
   intro l hm
   rcases List.mem_or_eq_of_mem_set hm with hm | rfl
   · exact h.len l hm
   · exact hl
 · exact h.outs.aside a2 hg (fun q hq e'=>h.apart _ h0 q hq (by rw [e1,e']))
 · rw [ho];exact h.vals
 · intro p hp q hq
   rcases List.mem_or_eq_of_mem_set hp with hp | rfl
   · exact h.apart p hp q hq
   · exact h.apart _ h0 q hq
 · exact grown_below h.below hg h.size a1
 · exact Nat.le_trans h.size hg.size
theorem Rn.reg_ne (h:Rn w0 B P D R0 n r gR k vO T O w) {A X g g':Nat} {l l':List Nat} (hT:∃ hT:A < T.length,T[A]=(g,n,l)) (hX:∃ hT:X < T.length,T[X]=(g',n,l')) (h0:A≠X):g'≠g:=by
 obtain ⟨hA,e⟩:=hT
 obtain ⟨hX,e'⟩:=hX
 have hp:=List.pairwise_iff_getElem.1 h.tab.nodup
 intro q
 have q1:T[A].1=T[X].1:=by rw [e,e'];exact q.symm
 rcases Nat.lt_or_gt_of_ne h0 with h' | h'
 · exact hp A X (by simpa using hA) (by simpa using hX) h' (by simpa using q1)
 · exact hp X A (by simpa using hX) (by simpa using hA) h' (by simpa using q1.symm)
theorem tab_out_ne {B B':Nat} {m:Nat} {ys:List Value} {vO:Value} (h:w.ownsRow B 33 1 (.slice (some ⟨g,0,none⟩) c m) n xs) {n':Nat} (h':w.ownsRow B' 193 2 vO n' ys):vO.ownBlock≠some g:=by
 intro e
 rcases h.2 with ⟨h0,_⟩ | ⟨g1,cap,cur,e1,e2,e3,_⟩
 · simp at h0
 · simp at e1
   obtain ⟨rfl,_⟩:=e1
   rcases h'.2 with ⟨h0,_⟩ | ⟨g2,cap2,cur2,f1,f2,f3,_⟩
   · rw [h0] at e;simp [Value.ownBlock] at e
   · rw [f1] at e
     simp [Value.ownBlock] at e
     subst e
     rw [e3] at f3
     simp at f3
theorem outTo_len (P:List St) (D R0:List (List Nat)):∀ k,(outTo P D R0 k).length≤k
 | 0=>Nat.le_refl _
 | k+1=>by
  have:=outTo_len P D R0 k
  unfold outTo outStep
  split <;> simp <;> omega
theorem Rn.olen (h:Rn w0 B P D R0 n r gR k vO T O w):O.length≤k:=by
 have:=congrArg List.length h.vals
 rw [List.length_map] at this
 rw [this];exact outTo_len P D R0 k
theorem Rn.put (h:Rn w0 B P D R0 n r gR k vO T O w) {w1 w3:World} {o:Obj} {b m:Nat} {l:List Nat} {sh:Int} {vO':Value} (hb:Below w.heap.size w w1) (h5:w.heap.size≤b) (hB:Brow w1 b (l ++ List.replicate m 0)) (hl:l.length=n) (hn:n≤100000) (hm:n+m≤9223372036854775807) (hx:∀ x∈l,x < 256)
 (hg:(w1.alloc o).grownBy w3 vO.ownBlock) (h2:w3.ownsRow B 193 2 vO' (O.length+1) (outc O ++ [.int .i64 sh,.slice (some ⟨b,0,none⟩) n (n+m)]))
 (hr:regTo P D R0 (k+1)=regTo P D R0 k) (ho:outTo P D R0 (k+1)=outTo P D R0 k ++ [(sh,l)]):Rn w0 B P D R0 n r gR (k+1) vO' T (O ++ [(sh,b,n,l ++ List.replicate m 0)]) w3:=by
 have h1:=(h.next hb).next ((Below.refl w1.heap.size w1).alloc (Nat.le_refl _) o)
 have hs:=h.size
 have h6:=hb.size
 have h4:(l ++ List.replicate m 0).length=n+m:=by simp [hl]
 have h3:=hB.alloc o
 refine ⟨?_,by rw [hr];exact h.hold,by rw [hr];exact h.len,?_,?_,?_,?_,?_⟩
 · refine ⟨h1.tab.own.kept hg (.inr fun e=>?_),fun p hp=>?_,h1.tab.nodup⟩
   · exact tab_out_ne h1.tab.own h1.outs.own (by rw [← e];rfl)
   · obtain ⟨a1,a2,a3⟩:=h1.tab.row p hp
     exact ⟨a1,a2.grown hg (fun e=>out_ne h1.outs.own a2 e.symm),a3⟩
 · refine ⟨?_,fun q hq=>?_,?_⟩
   · rw [outc_append]
     simpa [outc,hdr,h4,hl] using h2
   · rcases List.mem_append.1 hq with hq | hq
     · obtain ⟨a1,a2,a3⟩:=h1.outs.row q hq
       exact ⟨a1,a2.grown hg (fun e=>out_ne h1.outs.own a2 e.symm),a3⟩
     · simp at hq
       subst hq
       refine ⟨by show B≤b;omega,h3.grown hg (fun e=>out_ne h1.outs.own h3 e.symm),by show n≤(l ++ List.replicate m 0).length;omega,⟨by show n≤140737488355328;omega,by show (l ++ List.replicate m 0).length≤9223372036854775807;omega⟩,?_⟩
       intro x h0
       rcases List.mem_append.1 h0 with h0 | h0
       · exact hx x h0
       · have:=List.eq_of_mem_replicate h0;omega
   · rw [List.map_append,List.nodup_append]
     refine ⟨h.outs.nodup,by simp,?_⟩
     intro a ha c hc
     obtain ⟨q,hq,rfl⟩:=List.mem_map.1 ha
     simp at hc
     subst hc
     have:=(h.outs.row q hq).2.1.lt
     omega
 · rw [ho,List.map_append,h.vals]
   simp [← hl]
 · intro p hp q hq
   rcases List.mem_append.1 hq with hq | hq
   · exact h.apart p hp q hq
   · simp at hq
     subst hq
     have:=(h.tab.row p hp).2.1.lt
     show p.1≠b
     omega
 · exact h1.below.grown hg h1.size (fun q hq=>(h1.outs.own.lt q hq).1)
 · exact Nat.le_trans h1.size hg.size
end
section
open Gf
theorem reg_load (P:List St) (D R0:List (List Nat)) (k:Nat) (h:(stAt P k).k=0):regTo P D R0 (k+1)=(regTo P D R0 k).set (stAt P k).a.toNat (D.getD (stAt P k).b.toNat [])∧outTo P D R0 (k+1)=outTo P D R0 k:=by
 simp [regTo,outTo,regStep,outStep,h]
theorem reg_add (P:List St) (D R0:List (List Nat)) (k:Nat) (h:(stAt P k).k=1):regTo P D R0 (k+1)=(regTo P D R0 k).set (stAt P k).a.toNat (addRow ((regTo P D R0 k).getD (stAt P k).a.toNat []) ((regTo P D R0 k).getD (stAt P k).b.toNat []) (stAt P k).c)∧outTo P D R0 (k+1)=outTo P D R0 k:=by
 simp [regTo,outTo,regStep,outStep,h]
theorem reg_put (P:List St) (D R0:List (List Nat)) (k:Nat) (h:(stAt P k).k=2):regTo P D R0 (k+1)=regTo P D R0 k∧outTo P D R0 (k+1)=outTo P D R0 k ++ [((stAt P k).b,(regTo P D R0 k).getD (stAt P k).a.toNat [])]:=by
 simp [regTo,outTo,regStep,outStep,h]
def RnR (w0:World) (B:Nat) (P:List St) (D R0:List (List Nat)) (n r gR:Nat) (vO iv:Value) (wr:World):Prop:=
 ∃ k T O,k≤P.length∧iv=.int .i64 (k:Nat)∧Rn w0 B P D R0 n r gR k vO T O wr
def RnPost (regs:Int) (P:List St) (D:List (List Nat)) (gone:Nat) (w:World) (e:Ending) (w':World):Prop:=
 (okProg regs P D.length→ldsOk P D gone→∃ v O,e=.returned (.tuple #[v,.nilIface])∧Outs 193 w' w.heap.size v O∧O.map (fun q=>(q.1,q.2.2.2.take q.2.2.1))=outTo P D (regs0 regs.toNat (runLen P D)) P.length) ∧
 (okProg regs P D.length→¬ ldsOk P D gone→e=.returned (.tuple #[.slice none 0 0,.iface 37 (.int .i64 2)]))∧(¬ okProg regs P D.length→e=.returned (.tuple #[.slice none 0 0,.iface 37 (.int .i64 4)]))∧Below w.heap.size w w'
theorem Outs.weaken {t:TypeId} {base':Nat} (h:Outs t w base v O) (hb:base'≤base):Outs t w base' v O:=
 ⟨ownsRow_weaken h.own hb,fun q hq=>by obtain ⟨a,b⟩:=h.row q hq;exact ⟨by omega,b⟩,h.nodup⟩
theorem Tryz.infoOutput:(Tryz.prog.info? 193).map (fun i=>(i.zero,i.size,i.bytes))=some (some (.agg #[.int .i64 0,.slice none 0 0]),2,32):=by kernel_rfl
theorem two_new (w:World) (n:Nat) (hn:n=w.heap.size) (x y:Value) (t:TypeId):∀ j v,[x,y][j]?=some v→(w.alloc (.cells #[x,y] t)).cell? ((⟨n,0,none⟩:Addr).add j)=some v:=by
 subst hn
 intro j v hv
 rw [add0]
 rcases j with _ | _ | j
 all_goals simp at hv
 all_goals subst hv;simp
theorem box4 (w:World) (k a b c:Value) (t:TypeId):∃ wb,w.alloc (.cells #[k,a,b,c] t)=wb∧Below w.heap.size w wb∧wb.heap.size=w.heap.size+1∧wb.cell? ⟨w.heap.size,1,none⟩=some a∧wb.cell? ⟨w.heap.size,2,none⟩=some b∧wb.cell? ⟨w.heap.size,3,none⟩=some c:=
 ⟨_,rfl,(Below.refl _ _).alloc (Nat.le_refl _) _,nblk_alloc _ _,by simp,by simp,by simp⟩
theorem run_any (regs:Int) (v:Value) (P:List St) (bi ci:Nat) (D:List (List Nat)) (gone:Nat) (w:World) (h:Ps .u8 w v P) (hP:∀ s∈P,okInts s) (hI:In w bi D gone) (xb:bi < w.heap.size) (kh:∀ l∈D,l.length≤100000) (hl:P.length≤5000) :
 Calls Tryz.prog 82 #[.agg #[.int .i64 regs,v],.slice (some ⟨bi,0,none⟩) D.length ci] w fun e w'=>RnPost regs P D gone w e w':=by
 obtain ⟨i0,qk,qm,qn,qo⟩:=info_parts Tryz.infoOutput
 have kb:Below w.heap.size w (w.alloc (.cells #[.int .i64 regs,v] 155)):=(Below.refl _ _).alloc (Nat.le_refl _) _
 have h0:=h.mono kb
 obtain ⟨ao,c,rfl⟩:=h.slice
 go_enter Tryz.func82,Tryz.ntmps82
 go_wp2_with fail
 refine (check_any regs D.length _ P _ h0).mono ?_
 rintro e w1 ⟨ki,kj,hm⟩
 rw [nblk_alloc] at hm
 obtain ⟨p0,p1⟩:=box2 hm rfl
 have qp:=hm.size
 rw [nblk_alloc] at qp
 have h4:=kb.trans (hm.mono (by omega))
 by_cases he:okProg regs P D.length
 · have e1:=ki he
   subst e1
   obtain ⟨⟨g0,g1,g2⟩,hs⟩:=id he
   obtain ⟨r,rfl⟩:∃ r:Nat,regs=(r:Int):=⟨regs.toNat,by omega⟩
   have q4:=hide he
   have qq:=hide hs
   have hr:∀ i,i < P.length→(stAt P i).k=0→0≤(stAt P i).b∧(stAt P i).b < (D.length:Int):=by
    intro i hi hk
    rw [stAt_get P i hi] at *
    rcases hs i hi with h | h
    · exact ⟨h.2.2.2.1,h.2.2.2.2⟩
    · omega
   have kk:r≤32:=by omega
   have h1:=h.mono h4
   have q5:=hI.mono h4
   clear he hs ki kj h0 hm kb g0 g1
   go_wp2_with fail
   refine (loadedLength_any _ P bi ci D gone w1 h1 q5 kh hr hl).mono ?_
   rintro e w2 ⟨km,kn,k5⟩
   have q0:=(k5.cell (block_lt_of_cell p0)).trans p0
   have q1:=(k5.cell (block_lt_of_cell p1)).trans p1
   have k6:=h4.trans (k5.mono (by omega))
   have xc:=k5.size
   clear hr h1 q5 p0 p1 h4 k5
   by_cases h9:ldsOk P D gone
   · have e1:=km h9
     subst e1
     have q6:=runLen_le h9
     have kc:=hide h9
     have q7:=hide (ld_len h9)
     clear h9 km kn
     obtain ⟨n,hn⟩:∃ n,runLen P D=n:=⟨_,rfl⟩
     have HN:=hide hn
     rw [hn] at q6 q7
     rw [hn]
     clear hn
     go_wp2_with fail
     refine (makeRegs_any r n w2 kk q6).mono ?_
     rintro e w3 ⟨gR,T0,rfl,q8,q9,ko⟩
     have qs:=ko.size
     have q1':=(ko.cell (block_lt_of_cell q1)).trans q1
     have qa:Rn w2 w2.heap.size P D (regs0 r n) n r gR 0 (.slice none 0 0) T0 [] w3:=⟨q8,q9,fun l hl=>by
      have:=List.eq_of_mem_replicate (show l∈List.replicate r (List.replicate n 0) from hl)
      rw [this];simp,Outs.nil _ _ _,rfl,fun p _ q hq=>by simp at hq,ko,qs⟩
     have qb:=hide qa
     clear qa q8 q9 q0 q1
     go_wp2
     clear q1'
     go_loopw [10,37] (fun vO iv wr=>RnR w2 w2.heap.size P D (regs0 r n) n r gR vO iv wr) (fun _ iv _=>P.length - (intOf iv).toNat)
     case atStart=>exact ⟨0,T0,[],Nat.zero_le _,rfl,qb.out⟩
     case round=>
      clear qb
      rename World=>wo
      obtain ⟨k,T,O,hk,rfl,hR⟩:=hrel
      have xd:=hR.size
      have kp:=k6.trans (hR.below.mono (by omega))
      by_cases hf:k < P.length
      · rcases (h.mono kp).cases with ⟨rfl,_⟩ | ⟨b,off,cc,e,_,hc⟩
        · simp at hf
        simp at e
        obtain ⟨rfl,rfl⟩:=e
        obtain ⟨d0,d1,d2,d3⟩:=hc k hf
        have hs:=qq.out k hf
        unfold okStep at hs
        have qc:=hP _ (List.getElem_mem hf)
        have k7:=stAt_get P k hf
        have ha:=hide (reg_load P D (regs0 r n) k)
        have hx:=hide (reg_add P D (regs0 r n) k)
        have hy:=hide (reg_put P D (regs0 r n) k)
        have kd:=hide (kc.out k hf)
        have k8:=hide (q7.out k hf)
        have h5:Hid (ldOk P D gone k↔((stAt P k).k=0→¬ goneB gone (stAt P k).b.toNat∧fl P D (k+1)=some (D.getD (stAt P k).b.toNat []).length∧(D.getD (stAt P k).b.toNat []).length≤4096)):=Iff.rfl
        rw [k7] at ha hx hy k8 h5
        have qv:=hide (hI.mono kp)
        have HC:=hide hc
        have HR:=hide hR
        have HI:=hide hI
        have HH:=hide h
        have xe:=hide hP
        clear hc hR hI h hP k7
        have qd:=qc.2.2.2.2.2
        clear qc
        generalize P[k].k=sk at *
        generalize P[k].a=sa at *
        generalize P[k].b=sb at *
        generalize P[k].c=sc at *
        obtain ⟨wb,hz,h7,xf,b1,b2,b3⟩:=box4 wo (.int .u8 (sk:Int)) (.int .i64 sa) (.int .i64 sb) (.int .u8 (sc:Int)) 238
        have kr:=hide (HR.out.next h7)
        rcases hs with ⟨ks,a0,a1,x0,x1⟩ | ⟨qx,a0,a1,x0,x1,xg⟩
        · obtain ⟨A,rfl⟩:∃ A:Nat,sa=(A:Int):=⟨sa.toNat,by omega⟩
          obtain ⟨X,rfl⟩:∃ X:Nat,sb=(X:Int):=⟨sb.toNat,by omega⟩
          have hA:A < r:=by omega
          have hX:X < D.length:=by omega
          obtain ⟨g,hg,t1,t2,t3,t4,t5,t6,t7,t8,t9⟩:=HR.out.reg A hA
          replace t1:=(h7.cell (block_lt_of_cell t1)).trans t1
          replace t2:=t2.below h7
          rw [Int.toNat_natCast,Int.toNat_natCast] at ha
          rw [Int.toNat_natCast] at hy
          rcases ks with rfl | rfl
          · have h6:Hid (wo.alloc (.cells #[.int .u8 0,.int .i64 (A:Int),.int .i64 (X:Int),.int .u8 (sc:Int)] 238)=wb):=hz
            have qe:D.getD X []=D[X]:=by simp [hX]
            have kv:=h5.out.1 kd.out rfl
            have ke:=k8.out rfl
            rw [Int.toNat_natCast,qe] at kv ke
            rw [qe] at ha
            obtain ⟨ax,cx,u1,u2⟩:=(qv.out X hX).2 kv.1
            have u1':=(h7.cell (block_lt_of_cell u1)).trans u1
            have u2':=u2.mono h7
            have qf:∀ x∈D[X],x < 256:=by
             obtain ⟨_,_,_,_,_,h,_⟩:=u2
             exact h
            obtain ⟨wc,hh,kf,h2⟩:=copy_run wb.drew 3 g n n _ D[X] (some ax) cx t2 u2' ke t3
            have HW:=hide ((kr.out.next (show Below wb.heap.size wb wb.drew from ⟨rfl,rfl,rfl,Nat.le_refl _,fun _ _=>rfl⟩)).write hg t3 h2 kf ke qf (ha.out rfl).1 (ha.out rfl).2)
            rw [ke] at u1' hh
            have kx:=hide hh
            have z1:=h2.cell (show wb.drew.cell? ⟨wo.heap.size,1,none⟩=_ from b1) (by simp;omega)
            have z2:=h2.cell (show wb.drew.cell? ⟨wo.heap.size,2,none⟩=_ from b2) (by simp;omega)
            have z3:=h2.cell (show wb.drew.cell? ⟨gR,A,none⟩=_ from t1) (by simp;omega)
            have z4:=h2.cell (show wb.drew.cell? ⟨bi,X,none⟩=_ from u1') (by simp;omega)
            clear hh kf h2 u1 u2 u2' hg t2 t3 t4 ha hx hy kd k8 h5 kv qf hz
            go_wp2
            rw [h6.out]
            go_region_held3 (fun w'=>w'.cell? ⟨wo.heap.size,1,none⟩=some (.int .i64 (A:Int))∧w'.cell? ⟨wo.heap.size,2,none⟩=some (.int .i64 (X:Int))∧w'.cell? ⟨gR,A,none⟩=some (.slice (some ⟨g,0,none⟩) n n)∧w'.cell? ⟨bi,X,none⟩=some (.slice (some ax) n cx)) (first | exact ⟨b1,b2,t1,u1'⟩ | exact ⟨z1,z2,z3,z4⟩) (refine step_copy rfl (.tmp 49) (.tmp 54) rfl _ _ _ rfl rfl kx.out ?_)
            go_wp2
            go_roundw
            case rel=>
             obtain ⟨T',ky⟩:=HW.out
             exact ⟨k+1,T',O,by omega,by go_num,ky⟩
            case measure=>simp [intOf];omega
          · have h6:Hid (wo.alloc (.cells #[.int .u8 2,.int .i64 (A:Int),.int .i64 (X:Int),.int .u8 (sc:Int)] 238)=wb):=hz
            have k0:=kr.out.next (show Below wb.heap.size wb wb.drew from ⟨rfl,rfl,rfl,Nat.le_refl _,fun _ _=>rfl⟩)
            have xh:=k0.olen
            have kz:=clone_some ⟨g,0,none⟩ n _ wb.drew (by have:=Bs.of_row (n:=n) (show Brow wb.drew g _ from t2) (by omega) (by omega) t4;rw [List.take_of_length_le (by omega),t3] at this;rw [t3];exact this) (by omega)
            rw [t3] at kz
            have qy:=hide kz
            have k9:=hide k0
            have qg:=hide (hy.out rfl)
            have kg:=hide t3
            have q2:=hide t4
            have qh:=hide (fun j hj=>(HR.out.outs.own.lt j hj).2)
            have qz:=hide (tab_out_ne HR.out.tab.own HR.out.outs.own)
            have z1:wb.drew.cell? ⟨wo.heap.size,1,none⟩=some (.int .i64 (A:Int)):=b1
            have z2:wb.drew.cell? ⟨wo.heap.size,2,none⟩=some (.int .i64 (X:Int)):=b2
            have z3:wb.drew.cell? ⟨gR,A,none⟩=some (.slice (some ⟨g,0,none⟩) n n):=t1
            clear kz k0 hg t2 t3 t4 ha hx hy kd k8 h5 hz
            go_wp2
            rw [h6.out]
            go_region_held3 (fun w'=>w'.cell? ⟨wo.heap.size,1,none⟩=some (.int .i64 (A:Int))∧w'.cell? ⟨wo.heap.size,2,none⟩=some (.int .i64 (X:Int))∧w'.cell? ⟨gR,A,none⟩=some (.slice (some ⟨g,0,none⟩) n n)) (first | exact ⟨b1,b2,t1⟩ | exact ⟨y1,y2,y3⟩ | exact ⟨(((Below.refl _ _).alloc (Nat.le_refl _) _).cell (block_lt_of_cell y1)).trans y1,(((Below.refl _ _).alloc (Nat.le_refl _) _).cell (block_lt_of_cell y2)).trans y2,(((Below.refl _ _).alloc (Nat.le_refl _) _).cell (block_lt_of_cell y3)).trans y3⟩ | exact ⟨x1',x2',x3'⟩)
             (first
              | (go_at_call 112;refine qy.out.mono ?_;rintro e wd ⟨bd,m,rfl,x2,x3,x4,h3⟩
                 have y1:=(h3.cell (block_lt_of_cell z1)).trans z1
                 have y2:=(h3.cell (block_lt_of_cell z2)).trans z2
                 have y3:=(h3.cell (block_lt_of_cell z3)).trans z3)
              | (refine step_append_lies _ rfl (.tmp 73) (.tmp 83) 189 rfl w2.heap.size 193 i0 (.agg #[.int .i64 0,.slice none 0 0]) 2 32 Tryz.underlying189 qk qm qn qo rfl (by decide) u10 O.length (outc O) rfl ((k9.out.next h3).next ((Below.refl _ _).alloc (Nat.le_refl _) _)).outs.own ⟨wd.heap.size,0,none⟩ 1 1 [.int .i64 (X:Int),.slice (some ⟨bd,0,none⟩) n (n+m)] rfl rfl (two_new _ _ rfl _ _ _) (by intro q hq;simp at hq;rcases hq with rfl | rfl <;> rfl) (by omega) (by unfold maxLen;omega) (by omega) (by have:=((k9.out.next h3).next ((Below.refl _ _).alloc (Nat.le_refl _) (.cells #[.int .i64 (X:Int),.slice (some ⟨bd,0,none⟩) n (n+m)] 193))).size;exact this) _ rfl ?_;intro g5 cap5 w5 ka h8 x5 x6
                 have x1':=h8.cell ((((Below.refl _ _).alloc (Nat.le_refl _) _).cell (block_lt_of_cell y1)).trans y1) (fun e=>by have:=qh.out _ e.symm;simp at this)
                 have x2':=h8.cell ((((Below.refl _ _).alloc (Nat.le_refl _) _).cell (block_lt_of_cell y2)).trans y2) (fun e=>by have:=qh.out _ e.symm;simp at this)
                 have x3':=h8.cell ((((Below.refl _ _).alloc (Nat.le_refl _) _).cell (block_lt_of_cell y3)).trans y3) (fun e=>qz.out e.symm)))
            go_wp2
            go_roundw
            case rel=>exact ⟨k+1,T,_,by omega,by go_num,k9.out.put h3 x2 x3 kg.out (by omega) x4 q2.out h8 ka qg.out.1 qg.out.2⟩
            case measure=>simp [intOf];omega
        · obtain ⟨A,rfl⟩:∃ A:Nat,sa=(A:Int):=⟨sa.toNat,by omega⟩
          obtain ⟨X,rfl⟩:∃ X:Nat,sb=(X:Int):=⟨sb.toNat,by omega⟩
          have hA:A < r:=by omega
          have hX:X < r:=by omega
          have x7:A≠X:=by omega
          obtain ⟨g,hg,t1,t2,t3,t4,t5,t6,t7,t8,t9⟩:=HR.out.reg A hA
          obtain ⟨g',qi,s1,s2,s3,s4,s5,s6,s7,s8,s9⟩:=HR.out.reg X hX
          have x8:=HR.out.reg_ne hg qi x7
          replace t1:=(h7.cell (block_lt_of_cell t1)).trans t1
          replace t2:=t2.below h7
          replace s1:=(h7.cell (block_lt_of_cell s1)).trans s1
          replace s2:=s2.below h7
          rw [Int.toNat_natCast,Int.toNat_natCast] at hx
          subst qx
          have h6:Hid (wo.alloc (.cells #[.int .u8 1,.int .i64 (A:Int),.int .i64 (X:Int),.int .u8 (sc:Int)] 238)=wb):=hz
          have k0:=kr.out.next (show Below wb.heap.size wb wb.drew from ⟨rfl,rfl,rfl,Nat.le_refl _,fun _ _=>rfl⟩)
          have q3:=hide (addTimes_row g g' n sc _ _ wb.drew qd t2 s2 t3 s3 x8 t4 s4 (by omega))
          have k9:=hide k0
          have qj:=hide (hx.out rfl)
          have x9:=hide hg
          have kg:=hide t3
          have q2:=hide t4
          have z1:wb.drew.cell? ⟨wo.heap.size,1,none⟩=some (.int .i64 (A:Int)):=b1
          have z2:wb.drew.cell? ⟨wo.heap.size,2,none⟩=some (.int .i64 (X:Int)):=b2
          have z3:wb.drew.cell? ⟨wo.heap.size,3,none⟩=some (.int .u8 (sc:Int)):=b3
          have z4:wb.drew.cell? ⟨gR,A,none⟩=some (.slice (some ⟨g,0,none⟩) n n):=t1
          have z5:wb.drew.cell? ⟨gR,X,none⟩=some (.slice (some ⟨g',0,none⟩) n n):=s1
          clear k0 hg qi t2 t3 t4 s2 s3 s4 ha hx hy kd k8 h5 hz
          go_wp2
          rw [h6.out]
          go_region_held3 (fun w'=>w'.cell? ⟨wo.heap.size,1,none⟩=some (.int .i64 (A:Int))∧w'.cell? ⟨wo.heap.size,2,none⟩=some (.int .i64 (X:Int))∧w'.cell? ⟨wo.heap.size,3,none⟩=some (.int .u8 (sc:Int))∧w'.cell? ⟨gR,A,none⟩=some (.slice (some ⟨g,0,none⟩) n n)∧w'.cell? ⟨gR,X,none⟩=some (.slice (some ⟨g',0,none⟩) n n)) (first | exact ⟨b1,b2,b3,t1,s1⟩ | exact ⟨y1,y2,y3,y4,y5⟩)
           (first
            | (go_at_call 111;refine q3.out.mono ?_;rintro e wc ⟨rfl,kf,h2⟩
               have y1:=h2.cell z1 (by simp;omega)
               have y2:=h2.cell z2 (by simp;omega)
               have y3:=h2.cell z3 (by simp;omega)
               have y4:=h2.cell z4 (by simp;omega)
               have y5:=h2.cell z5 (by simp;omega)))
          go_wp2
          go_roundw
          case rel=>
           obtain ⟨T',ky⟩:=k9.out.write x9.out kg.out h2 kf (by rw [addRow_len];exact kg.out) (addRow_lt q2.out qd) qj.out.1 qj.out.2
           exact ⟨k+1,T',O,by omega,by go_num,ky⟩
          case measure=>simp [intOf];omega
      · have xa:k=P.length:=by omega
        subst xa
        have HR:=hide hR
        clear hR h hP hI
        go_wp2
        go_ret2
        refine ⟨fun _ _=>⟨_,O,rfl,HR.out.outs.weaken (by omega),?_⟩,fun _ hl=>absurd kc.out hl,fun hn=>absurd q4.out hn,kp⟩
        rw [HN.out,Int.toNat_natCast]
        exact HR.out.vals
   · have e1:=kn h9
     subst e1
     have kc:=hide h9
     clear h9 km kn
     go_wp2
     go_ret2
     exact ⟨fun _ hl=>absurd hl kc.out,fun _ _=>rfl,fun hn=>absurd q4.out hn,k6⟩
 · have e1:=kj he
   subst e1
   have HN:=hide he
   clear he ki kj h0 h hP hI hm kb
   go_wp2
   go_ret2
   exact ⟨fun hp=>absurd hp HN.out,fun hp=>absurd hp HN.out,fun _=>rfl,h4⟩
end
section
open Gf
structure Out1 (w wx:World) (d:Nat) (row:List Nat) (gg cap bl m:Nat) (l:List Nat):Prop where
 c0:wx.cell? ⟨gg,0,none⟩=some (.int .i64 d)
 c1:wx.cell? ⟨gg,1,none⟩=some (.slice (some ⟨bl,0,none⟩) m l.length)
 ge:w.heap.size≤bl
 le:m≤l.length
 eq:l.take m=row
 blk:Brow wx bl l
 byt:∀ x∈l,x < 256
 below:Below w.heap.size w wx
theorem run_one {vp:Value} (hp:Ps .u8 w vp P) (hP:∀ s∈P,okInts s) (hI:In w g Dl lost) (hg:g < w.heap.size) (hN:Dl.length=N) (h2:∀ l∈Dl,l.length≤100000) (hl:P.length≤5000) (h3:okProg regs P N) (h4:ldsOk P Dl lost) (ho:outTo P Dl (regs0 regs.toNat (runLen P Dl)) P.length=[((d:Int),row)]) :
 Calls Tryz.prog 82 #[.agg #[.int .i64 regs,vp],.slice (some ⟨g,0,none⟩) N N] w fun e w'=>∃ gg cap bl m l,e=.returned (.tuple #[.slice (some ⟨gg,0,none⟩) 1 cap,.nilIface])∧Out1 w w' d row gg cap bl m l:=by
 subst hN
 refine (run_any regs vp P g Dl.length Dl lost w hp hP hI hg h2 hl).mono ?_
 rintro e w' ⟨h1,_,_,hb⟩
 obtain ⟨v,O,rfl,hO,hm⟩:=h1 h3 h4
 rw [ho] at hm
 obtain ⟨q,rfl⟩:∃ q,O=[q]:=by
  have h5:O.length=1:=by have:=congrArg List.length hm;simpa using this
  match O,h5 with
  | [q],_=>exact ⟨q,rfl⟩
 · have hq:q.1=(d:Int)∧q.2.2.2.take q.2.2.1=row:=by simpa using hm
   obtain ⟨e1,e2,e3,_,e5⟩:=hO.row q (by simp)
   rcases hO.cases with ⟨h0,_⟩ | ⟨gg,cap,rfl,hc⟩
   · cases h0
   · obtain ⟨k0,k1⟩:=hc 0 (by simp)
     rw [show ([q]:List (Int×Nat×Nat×List Nat))[0]=q from rfl] at k0 k1
     rw [hq.1] at k0
     exact ⟨gg,cap,q.2.1,q.2.2.1,q.2.2.2,rfl,k0,k1,e1,e3,hq.2,e2,e5,hb⟩
theorem fill_one {ao:Option Addr} {pm pc:Nat} {r v gone sp:Nat} {f:Nat→Value} (hr:RdAt w r v b g N gone sp) (h5:w.rowIs g 33 N f) (hz:r≠g) (hp:Ps .u8 w (.slice ao pm pc) P) (hP:∀ s∈P,okInts s) (hI:In w g Dl lost) (hN:Dl.length=N) (he:∀ l∈Dl,l.length≤100000) (hl:P.length≤5000) (hq:okProg regs P N) (hs:ldsOk P Dl lost) (ho:outTo P Dl (regs0 regs.toNat (runLen P Dl)) P.length=[((d:Int),row)]) (hd:d < N) :
 Calls Tryz.prog 65 #[.pointer (some ⟨r,0,none⟩),.agg #[.int .i64 regs,.slice ao pm pc]] w fun e w'=>e=.returned .nilIface∧RdAt w' r v b g N gone sp∧(∃ bl m l,w'.rowIs g 33 N (fun i=>if i=d then .slice (some ⟨bl,0,none⟩) m l.length else f i)∧w.heap.size≤bl∧m≤l.length∧Brow w' bl l∧l.take m=row∧∀ x∈l,x < 256)∧Outside (fun k=>k=g) w w':=by
 obtain ⟨w1,hk⟩:∃ w1,w.alloc (.cells #[.int .i64 regs,.slice ao pm pc] 155)=w1:=⟨_,rfl⟩
 have h4:Below w.heap.size w w1:=by rw [← hk];exact (Below.refl _ w).alloc (Nat.le_refl _) _
 have hm:w1.heap[w.heap.size]?=some (.cells #[.int .i64 regs,.slice ao pm pc] 155 (0,0)):=by rw [← hk];exact blk_alloc_new _ _
 have k0:w1.cell? ⟨w.heap.size,0,none⟩=some (.int .i64 regs):=by simp [World.cell?,hm]
 have k1:w1.cell? ⟨w.heap.size,1,none⟩=some (.slice ao pm pc):=by simp [World.cell?,hm]
 have h9:=hr.keep (h4.block _ hr.lt)
 have h1:=h5.of_block (h4.block _ h5.lt)
 have cs:=h9.cells.2.2.1
 have hf:=run_one (w:=w1.drew) (hp.mono h4.drew) hP (hI.mono h4.drew) (Nat.lt_of_lt_of_le h5.lt h4.size) hN he hl hq hs ho
 have HG:=hide (show g < w1.heap.size from Nat.lt_of_lt_of_le h5.lt h4.size)
 have H:=hide4 h4 h9 h1 hf
 clear hr h5 hp hI h4 hm h9 h1 hf hq hs ho he hP
 go_enter Tryz.func65,Tryz.ntmps65
 go_upto_region 1 with fail
 go_cut [5,6] from 9 to 17 (fun v5 v6 wx=>∃ gg cap bl m l,v5=.slice (some ⟨gg,0,none⟩) 1 cap∧v6=.nilIface∧Out1 w1.drew wx d row gg cap bl m l)
 case first=>
  go_region_with (go_at_call 82;refine H.out.2.2.2.mono ?_;rintro e w2 ⟨gg,cap,bl,m,l,rfl,h2⟩;have H2:=hide h2;clear h2)
  all_goals (go_wp2_with fail;go_meet;case rel=>exact ⟨gg,cap,bl,m,l,rfl,rfl,H2.out⟩)
 case rest=>
  rename World=>w2
  clear k0 k1 cs hk
  obtain ⟨gg,cap,bl,m,l,rfl,rfl,h2⟩:=hcut
  obtain ⟨h4,h9,h1,_⟩:=H.out
  have h6:Below w1.heap.size w1 w2:=((Below.refl _ w1).drew).trans h2.below
  have h8:=h9.keep (h6.block _ h9.lt)
  have h0:=h1.of_block (h6.block _ h1.lt)
  have cs:=h8.cells.2.2.1
  have cg:=h0.cell (i:=d) hd
  have fg:=h0.frozen d
  obtain ⟨q0,q1⟩:=And.intro h2.c0 h2.c1
  have hx:=h0.lt
  have k5:=h8.lt
  have H2:=hide4 h2 h8 h0 (h4.trans (h6.mono h4.size))
  clear h2 h4 h9 h1 h6 h8 h0
  go_wp2
  refine wp_loop_rounds 2 ?_
  rw [rounds_succ]
  go_wp2
  clear cs cg fg q0 q1 hx k5
  obtain ⟨h2,h8,h0,hg⟩:=H2.out
  have ha:Below w2.heap.size w2 (w2.alloc (.cells #[.int .i64 (d:Int),.slice (some ⟨bl,0,none⟩) m l.length] 193)):=(Below.refl _ w2).alloc (Nat.le_refl _) _
  have hi:(w2.alloc (.cells #[.int .i64 (d:Int),.slice (some ⟨bl,0,none⟩) m l.length] 193)).heap[w2.heap.size]?=some (.cells #[.int .i64 (d:Int),.slice (some ⟨bl,0,none⟩) m l.length] 193 (0,0)):=blk_alloc_new _ _
  obtain ⟨w3,hy⟩:∃ w3,w2.alloc (.cells #[.int .i64 (d:Int),.slice (some ⟨bl,0,none⟩) m l.length] 193)=w3:=⟨_,rfl⟩
  rw [hy] at ha hi ⊢
  have k0:w3.cell? ⟨w2.heap.size,0,none⟩=some (.int .i64 d):=by simp [World.cell?,hi]
  have k1:w3.cell? ⟨w2.heap.size,1,none⟩=some (.slice (some ⟨bl,0,none⟩) m l.length):=by simp [World.cell?,hi]
  have hc:=h8.keep (ha.block _ h8.lt)
  have h3:=h0.of_block (ha.block _ h0.lt)
  have cs:=hc.cells.2.2.1
  have cg:=h3.cell (i:=d) hd
  have fg:=h3.frozen d
  have k6:bl < w2.heap.size:=h2.blk.lt
  have hx:=h0.lt
  have h7:bl≠g:=by have:=h2.ge;have:w1.drew.heap.size=w1.heap.size:=rfl;have:=HG.out;omega
  have H3:=hide5 hc h3 (hg.trans (ha.mono hg.size)) (h2.blk.below ha) h7
  clear h2 h8 h0 hg ha hi hc h3 hy k6 h7
  go_region
  go_wp2
  rw [rounds_succ]
  go_wp2
  go_ret
  obtain ⟨hc,h3,hg,hh,h7⟩:=H3.out
  have hn:=H.out.1.size
  have hj:=H2.out.1
  have hO:Outside (fun k=>k=g) w3 (w3.setCell ⟨g,d,none⟩ (.slice (some ⟨bl,0,none⟩) m l.length)):=Outside.setCell _ _ _ rfl
  refine ⟨rfl,hc.keep (hO.block _ hc.lt hz),⟨bl,m,l,(h3.set d _),Nat.le_trans hn hj.ge,hj.le,World.rowIs.of_block hh (hO.block _ (Brow.lt hh) h7),hj.eq,hj.byt⟩,((Outside.of_all hg _).trans hO).trans (Outside.drew _)⟩
end
end Go.Proofs.YthcgahldacpolaaGreatDoor
