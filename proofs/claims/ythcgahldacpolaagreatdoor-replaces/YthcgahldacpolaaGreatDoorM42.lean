import Derived.Test.YthcgahldacpolaaGreatDoorM41
set_option maxRecDepth 100000
set_option maxHeartbeats 8000000
namespace Go.Proofs.YthcgahldacpolaaGreatDoor
open Go.RowKit Go.Deep Gf
variable {A:Arr} {C:Ck} {F:Foot} {M dl:List (List Nat)} {l:List Nat} {P:List St} {b D m i lost L G g d v p ps ho r b0 N gone sp bl base:Nat} {f0:Nat→Value} {w:World}
section
def regF (D:List (List Nat)) (R:List (List Nat)) (P:List St):List (List Nat):=P.foldl (fun R s=>regStep D s R) R
theorem regF_nil (D R:List (List Nat)):regF D R []=R:=rfl
theorem regF_cons (D R:List (List Nat)) (s:St) (P:List St):regF D R (s :: P)=regF D (regStep D s R) P:=rfl
theorem regF_append (D R:List (List Nat)) (P Q:List St):regF D R (P ++ Q)=regF D (regF D R P) Q:=by unfold regF;rw [List.foldl_append]
theorem regTo_fold (P:List St) (D R0:List (List Nat)):∀ k,k≤P.length→regTo P D R0 k=regF D R0 (P.take k)
 | 0,_=>by simp [regTo,regF]
 | k+1,h=>by
  have hk:k < P.length:=by omega
  show regStep D (stAt P k) (regTo P D R0 k)=_
  rw [regTo_fold P D R0 k (by omega),stAt_get P k hk,List.take_succ_eq_append_getElem hk,regF_append]
  rfl
theorem outTo_head (P:List St) (D R0:List (List Nat)):∀ k,k≤P.length→(∀ i (h:i < P.length),i < k→P[i].k≠2)→outTo P D R0 k=[]
 | 0,_,_=>rfl
 | k+1,h,hn=>by
  have hk:k < P.length:=by omega
  show outStep (stAt P k) _ _=[]
  rw [outTo_head P D R0 k (by omega) (fun i hi h0=>hn i hi (by omega)),stAt_get P k hk]
  unfold outStep
  rw [if_neg (hn k hk (by omega))]
theorem regStep_put (D R:List (List Nat)) {s:St} (h:s.k=2):regStep D s R=R:=by
 unfold regStep
 rw [if_neg (by omega),if_neg (by omega)]
theorem outTo_tail (A Q:List St) (D R0:List (List Nat)) (hA:∀ s∈A,s.k≠2) (hQ:∀ s∈Q,s.k=2):∀ k,k≤Q.length →
 regTo (A ++ Q) D R0 (A.length+k)=regF D R0 A∧outTo (A ++ Q) D R0 (A.length+k)=(Q.take k).map (fun s=>(s.b,(regF D R0 A).getD s.a.toNat []))
 | 0,_=>by
  refine ⟨?_,?_⟩
  · rw [Nat.add_zero,regTo_fold _ _ _ _ (by simp)];simp
  · rw [Nat.add_zero,outTo_head _ _ _ _ (by simp) (fun i hi h0=>by rw [List.getElem_append_left h0];exact hA _ (List.getElem_mem h0))];simp
 | k+1,h=>by
  obtain ⟨h1,h2⟩:=outTo_tail A Q D R0 hA hQ k (by omega)
  have hk:k < Q.length:=by omega
  have hi:A.length+k < (A ++ Q).length:=by simp;omega
  have hs:stAt (A ++ Q) (A.length+k)=Q[k]:=by rw [stAt_get _ _ hi,List.getElem_append_right (by omega)];simp
  have h3:=hQ _ (List.getElem_mem hk)
  refine ⟨?_,?_⟩
  · show regStep D (stAt (A ++ Q) (A.length+k)) (regTo (A ++ Q) D R0 (A.length+k))=_
    rw [hs,h1,regStep_put D _ h3]
  · show outStep (stAt (A ++ Q) (A.length+k)) (regTo (A ++ Q) D R0 (A.length+k)) (outTo (A ++ Q) D R0 (A.length+k))=_
    rw [hs,h1,h2]
    unfold outStep
    rw [if_pos h3,List.take_succ_eq_append_getElem hk,List.map_append]
    rfl
def xl (f:Nat→Nat) (K:List Nat):Nat:=K.foldr (fun i a=>f i^^^a) 0
theorem xl_nil (f:Nat→Nat):xl f []=0:=rfl
theorem xl_cons (f:Nat→Nat) (i:Nat) (K:List Nat):xl f (i :: K)=f i^^^xl f K:=rfl
theorem xl_range (f:Nat→Nat) (p:Nat→Bool):∀ n,xl f ((List.range n).filter p)=xs (fun i=>if p i=true then f i else 0) n
 | 0=>rfl
 | n+1=>by
  have h0:∀ A B:List Nat,xl f (A ++ B)=xl f A^^^xl f B:=by
   intro A B
   induction A with
   | nil=>rw [List.nil_append,xl_nil,Nat.zero_xor]
   | cons a A ih=>rw [List.cons_append,xl_cons,xl_cons,ih,Nat.xor_assoc]
  rw [List.range_succ,List.filter_append,h0,xl_range f p n]
  show _=xs _ n^^^(if p n=true then f n else 0)
  congr 1
  by_cases h:p n=true
  · rw [if_pos h];simp [h,xl]
  · rw [if_neg h];simp [h,xl]
structure Rg (R:List (List Nat)) (T m:Nat) (v:Nat→Nat→Nat):Prop where
 len:R.length=1+T
 row:∀ r,r < T→R.getD (1+r) []=(List.range m).map (v r)
theorem set_getD {R:List (List Nat)} {a:Nat} {x:List Nat} (ha:a < R.length):(R.set a x).getD b []=if a=b then x else R.getD b []:=by
 rw [List.getD_eq_getElem?_getD,List.getElem?_set]
 by_cases e:a=b
 · subst e;simp [ha]
 · simp [e]
theorem addRow_row (m:Nat) (v:Nat→Nat) (y:List Nat) (c:Nat):addRow ((List.range m).map v) y c=(List.range m).map (fun q=>v q^^^gm c (y.getD q 0)):=by
 unfold addRow
 rw [List.length_map,List.length_range]
 apply List.map_congr_left
 intro q hq
 have:=List.mem_range.1 hq
 simp [this]
theorem reg_adds (B:Ck) (D:List (List Nat)) (i T m:Nat) (y:List Nat) (v:Nat→Nat→Nat) {R:List (List Nat)} (hR:Rg R T m v) (hy:R.getD 0 []=y):∀ k,k≤T →
 (regF D R (wrAdd B i k)).getD 0 []=y∧Rg (regF D R (wrAdd B i k)) T m (fun r q=>if r < k then v r q^^^gm (B.m r i) (y.getD q 0) else v r q)
 | 0,_=>by rw [wrAdd_zero,regF_nil];exact ⟨hy,hR.len,fun r hr=>by rw [hR.row r hr];simp⟩
 | k+1,hk=>by
  obtain ⟨h1,h2⟩:=reg_adds B D i T m y v hR hy k (by omega)
  by_cases h0:B.m k i=0
  · rw [wrAdd_out B i k h0]
    refine ⟨h1,h2.len,fun r hr=>?_⟩
    rw [h2.row r hr]
    apply List.map_congr_left
    intro q _
    by_cases h3:r < k
    · rw [if_pos h3,if_pos (by omega)]
    · by_cases e:r=k
      · subst e;rw [if_neg h3,if_pos (by omega),h0,zero_gm,Nat.xor_zero]
      · rw [if_neg h3,if_neg (by omega)]
  · rw [wrAdd_in B i k h0,regF_append]
    generalize h5:regF D R (wrAdd B i k)=R' at h1 h2
    have h4:regF D R' [⟨1,1+(k:Int),0,B.m k i⟩]=R'.set (1+k) (addRow (R'.getD (1+k) []) (R'.getD 0 []) (B.m k i)):=by
     show regStep D ⟨1,1+(k:Int),0,B.m k i⟩ R'=_
     unfold regStep
     have e:(1+(k:Int)).toNat=1+k:=by omega
     simp only [e]
     rw [if_neg (by decide),if_pos trivial]
     rfl
    have hl:1+k < R'.length:=by rw [h2.len];omega
    rw [h4]
    refine ⟨by rw [set_getD hl,if_neg (by omega)];exact h1,by rw [List.length_set];exact h2.len,fun r hr=>?_⟩
    rw [set_getD hl,h1]
    by_cases e:r=k
    · subst e
      rw [if_pos rfl,h2.row r hr,addRow_row]
      apply List.map_congr_left
      intro q _
      rw [if_neg (by omega),if_pos (by omega)]
    · rw [if_neg (by omega),h2.row r hr]
      apply List.map_congr_left
      intro q _
      by_cases h3:r < k
      · rw [if_pos h3,if_pos (by omega)]
      · rw [if_neg h3,if_neg (by omega)]
theorem reg_one (B:Ck) (D:List (List Nat)) (i m:Nat) (v:Nat→Nat→Nat) {R:List (List Nat)} (hR:Rg R B.told m v):Rg (regF D R (wrOne B i)) B.told m (fun r q=>v r q^^^gm (B.m r i) ((D.getD i []).getD q 0)):=by
 cases hr:readsB B i
 · rw [wrOne_no hr,regF_nil]
   refine ⟨hR.len,fun r h=>?_⟩
   rw [hR.row r h]
   apply List.map_congr_left
   intro q _
   rw [readsB_false.1 hr r h,zero_gm,Nat.xor_zero]
 · rw [wrOne_yes hr,regF_cons]
   have h0:0 < R.length:=by rw [hR.len];omega
   have h3:regStep D ⟨0,0,(i:Int),0⟩ R=R.set 0 (D.getD i []):=by
    unfold regStep
    rw [if_pos rfl]
    rfl
   rw [h3]
   have h1:Rg (R.set 0 (D.getD i [])) B.told m v:=⟨by rw [List.length_set];exact hR.len,fun r h=>by rw [set_getD h0,if_neg (by omega)];exact hR.row r h⟩
   obtain ⟨_,h2⟩:=reg_adds B D i B.told m (D.getD i []) v h1 (by rw [set_getD h0,if_pos rfl]) B.told (Nat.le_refl _)
   refine ⟨h2.len,fun r h=>?_⟩
   rw [h2.row r h]
   apply List.map_congr_left
   intro q _
   rw [if_pos h]
theorem reg_to (B:Ck) (D:List (List Nat)) (m:Nat):∀ (K:List Nat) (v:Nat→Nat→Nat) (R:List (List Nat)),Rg R B.told m v→Rg (regF D R (wrTo B K)) B.told m (fun r q=>v r q^^^xl (fun i=>gm (B.m r i) ((D.getD i []).getD q 0)) K)
 | [],v,R,h=>by
  rw [show wrTo B []=[] from rfl,regF_nil]
  exact ⟨h.len,fun r hr=>by rw [h.row r hr];simp [xl_nil]⟩
 | i :: K,v,R,h=>by
  have e:wrTo B (i :: K)=wrOne B i ++ wrTo B K:=by unfold wrTo;simp
  rw [e,regF_append]
  have:=reg_to B D m K _ _ (reg_one B D i m v h)
  refine ⟨this.len,fun r hr=>?_⟩
  rw [this.row r hr]
  apply List.map_congr_left
  intro q _
  rw [xl_cons,Nat.xor_assoc]
theorem regs0_rg (T m:Nat):Rg (regs0 (1+T) m) T m (fun _ _=>0):=by
 refine ⟨by simp [regs0],fun r hr=>?_⟩
 unfold regs0
 have:1+r < 1+T:=by omega
 rw [List.getD_eq_getElem?_getD,List.getElem?_replicate,if_pos this]
 simp [List.map_const']
theorem fl_one {D:List (List Nat)} (h:∀ s∈P,s.k=0→(D.getD s.b.toNat []).length=m):∀ k,k≤P.length→fl P D k=none∨fl P D k=some m
 | 0,_=>.inl rfl
 | k+1,hk=>by
  rcases fl_one h k (by omega) with e | e
  · by_cases h0:(stAt P k).k=0
    · rw [fl_load P D k e h0]
      rw [stAt_get P k (by omega)] at h0 ⊢
      exact .inr (by rw [h _ (List.getElem_mem _) h0])
    · rw [fl_other P D k h0];exact .inl e
  · exact .inr (fl_some P D k m e)
theorem fl_loads {D:List (List Nat)} (h:∀ s∈P,s.k=0→(D.getD s.b.toNat []).length=m) {k:Nat} (hk:k < P.length) (h0:P[k].k=0):fl P D (k+1)=some m:=by
 rcases fl_one h k (by omega) with e | e
 · rw [fl_load P D k e (by rw [stAt_get P k hk];exact h0),stAt_get P k hk,h _ (List.getElem_mem hk) h0]
 · exact fl_some P D k m e
def inL (S:List (List Nat)) (lost:Nat):List (List Nat):=(List.range S.length).map (fun i=>if lost.testBit i=true then [] else S.getD i [])
theorem inL_len (S:List (List Nat)) (lost:Nat):(inL S lost).length=S.length:=by simp [inL]
theorem inL_get (S:List (List Nat)) (lost i:Nat) (hi:i < S.length):(inL S lost).getD i []=if lost.testBit i=true then [] else S.getD i []:=by simp [inL,hi]
theorem acc_xs (row:List Nat) (Dt:List (List Nat)) (q:Nat):∀ t,acc row Dt t q=xs (fun j=>gm (row.getD j 0) ((Dt.getD j []).getD q 0)) t
 | 0=>rfl
 | t+1=>by
  show acc row Dt t q^^^gm (row.getD t 0) ((Dt.getD t []).getD q 0)=xs (fun j=>gm (row.getD j 0) ((Dt.getD j []).getD q 0)) t^^^gm (row.getD t 0) ((Dt.getD t []).getD q 0)
  rw [acc_xs row Dt q t]
theorem mf_get (hi:i < M.length) (j:Nat):mf M i j=(M[i]).getD j 0:=by unfold mf;simp [hi]
theorem enc_get (M Dt:List (List Nat)) (m i:Nat) (hi:i < M.length):(encL M Dt m).getD i []=(List.range m).map (fun q=>xs (fun j=>gm (mf M i j) ((Dt.getD j []).getD q 0)) Dt.length):=by
 have e:(encL M Dt m).getD i []=combTo M[i] Dt m Dt.length:=by simp [encL,hi]
 rw [e]
 unfold combTo
 apply List.map_congr_left
 intro q _
 rw [acc_xs]
 exact xs_congr _ (fun j _=>by rw [mf_get hi])
theorem enc_len (M Dt:List (List Nat)) (m:Nat):(encL M Dt m).length=M.length:=by simp [encL]
theorem bit_gone:goneB lost i↔lost.testBit i=true:=by
 unfold goneB
 rw [Nat.testBit_eq_decide_div_mod_eq]
 simp
section
variable {D L G lost m:Nat} {C:Ck} {Dt:List (List Nat)}
theorem cmp_load (h1:D+L+G≤16) {s:St} (hs:s∈cmpP D L G lost C) (h0:s.k=0):∃ i:Nat,s.b=(i:Int)∧i < D+L+G∧lost.testBit i=false:=by
 rcases wr_mem hs with ⟨i,hi,rfl⟩ | ⟨_,_,_,_,rfl⟩ | ⟨_,_,rfl⟩
 · exact ⟨i,rfl,(mem_kept h1).1 hi⟩
 · exact absurd h0 (Nat.one_ne_zero)
 · exact absurd h0 (Nat.succ_ne_zero 1)
theorem cmp_len (h1:D+L+G≤16):∀ s∈cmpP D L G lost C,s.k=0→((inL (encL (matL D L G) Dt m) lost).getD s.b.toNat []).length=m:=by
 intro s hs h0
 obtain ⟨i,hb,hi,hl⟩:=cmp_load h1 hs h0
 have h2:(encL (matL D L G) Dt m).length=D+L+G:=by rw [enc_len,mat_len]
 rw [hb,Int.toNat_natCast,inL_get _ _ _ (by omega),if_neg (by rw [hl];decide),enc_get _ _ _ _ (by rw [mat_len];exact hi)]
 simp
theorem cmp_lds (h2:D+L+G≤16) (hm:m≤4096):ldsOk (cmpP D L G lost C) (inL (encL (matL D L G) Dt m) lost) lost:=by
 intro i hi h0
 rw [stAt_get _ _ hi] at h0 ⊢
 have h1:=cmp_len (m:=m) (Dt:=Dt) h2 _ (List.getElem_mem hi) h0
 obtain ⟨j,hb,hj,hl⟩:=cmp_load h2 (List.getElem_mem hi) h0
 refine ⟨fun hg=>?_,by rw [h1];exact fl_loads (cmp_len h2) hi h0,by omega⟩
 rw [hb,Int.toNat_natCast] at hg
 have:=bit_gone.1 hg
 rw [hl] at this
 cases this
theorem cmp_runLen (h0:D+L+G≤16) (hc:0 < cntR (mems (keptN (D+L+G) lost)) (fewestS 8 C (keptN (D+L+G) lost)).1):runLen (cmpP D L G lost C) (inL (encL (matL D L G) Dt m) lost)=m:=by
 unfold cntR at hc
 obtain ⟨i,hi⟩:=List.exists_mem_of_length_pos hc
 obtain ⟨h1,h2⟩:=List.mem_filter.1 hi
 have hs:(⟨0,0,(i:Int),0⟩:St)∈cmpP D L G lost C:=by
  unfold cmpP wrAll wrTo
  refine List.mem_append_left _ (List.mem_flatten.2 ⟨wrOne _ i,List.mem_map.2 ⟨i,h1,rfl⟩,?_⟩)
  rw [wrOne_yes h2]
  exact List.mem_cons_self
 obtain ⟨k,hk,h3⟩:=List.getElem_of_mem hs
 have hf:=fl_loads (cmp_len (m:=m) (Dt:=Dt) h0) hk (by rw [h3])
 have:=fl_mono _ _ _ _ hf (cmpP D L G lost C).length (by omega)
 unfold runLen
 rw [this]
 rfl
theorem cmp_out (hD:D≤12) (hG:G≤4) (h0:D+L+G≤16) (hC:tells (cks D L G) (mems (goneN (D+L+G) lost))=some C) (h2:Dt.length=D) (hx:∀ l∈Dt,∀ x∈l,x < 256) :
 ∃ O,outTo (cmpP D L G lost C) (inL (encL (matL D L G) Dt m) lost) (regs0 (1+(mems (goneN (D+L+G) lost)).length) (runLen (cmpP D L G lost C) (inL (encL (matL D L G) Dt m) lost))) (cmpP D L G lost C).length=O ∧
  O.length=(mems (goneN (D+L+G) lost)).length∧∀ k (hk:k < O.length) (h3:k < (mems (goneN (D+L+G) lost)).length),O[k].1=(((mems (goneN (D+L+G) lost))[k]:Nat):Int)∧(0 < cntR (mems (keptN (D+L+G) lost)) (fewestS 8 C (keptN (D+L+G) lost)).1→O[k].2=(encL (matL D L G) Dt m).getD (mems (goneN (D+L+G) lost))[k] []):=by
 obtain ⟨hp,_⟩:=plan_of hD hG hC
 have hc:=mat_code D L G hD hG
 have e:D+(L+G)=D+L+G:=by omega
 have h9:(cmpP D L G lost C).length=(wrTo (fewestS 8 C (keptN (D+L+G) lost)).1 (mems (keptN (D+L+G) lost))).length+(wrPut (mems (goneN (D+L+G) lost))).length:=by unfold cmpP wrAll;rw [List.length_append]
 have ha:(wrPut (mems (goneN (D+L+G) lost))).length=(mems (goneN (D+L+G) lost)).length:=by unfold wrPut;simp
 have he:=fun R0=>outTo_tail (wrTo (fewestS 8 C (keptN (D+L+G) lost)).1 (mems (keptN (D+L+G) lost))) (wrPut (mems (goneN (D+L+G) lost))) (inL (encL (matL D L G) Dt m) lost) R0 (fun s hs=>by
  unfold wrTo at hs
  obtain ⟨l,hl,hs⟩:=List.mem_flatten.1 hs
  obtain ⟨i,hi,rfl⟩:=List.mem_map.1 hl
  cases hr:readsB (fewestS 8 C (keptN (D+L+G) lost)).1 i
  · rw [wrOne_no hr] at hs;cases hs
  · rw [wrOne_yes hr] at hs
    rcases List.mem_cons.1 hs with rfl | hs
    · exact (by decide:(0:Nat)≠2)
    · unfold wrAdd at hs
      obtain ⟨r,_,rfl⟩:=List.mem_map.1 hs
      exact (by decide:(1:Nat)≠2)) (fun s hs=>by
  unfold wrPut at hs
  obtain ⟨k,_,rfl⟩:=List.mem_map.1 hs
  rfl) _ (Nat.le_refl _)
 refine ⟨_,rfl,?_⟩
 rw [h9]
 have h1:=(he (regs0 (1+(mems (goneN (D+L+G) lost)).length) (runLen (cmpP D L G lost C) (inL (encL (matL D L G) Dt m) lost)))).2
 rw [List.take_length] at h1
 rw [show cmpP D L G lost C=wrTo (fewestS 8 C (keptN (D+L+G) lost)).1 (mems (keptN (D+L+G) lost)) ++ wrPut (mems (goneN (D+L+G) lost)) from rfl] at h1 ⊢
 rw [h1]
 refine ⟨by simp [ha],fun k hk h3=>?_⟩
 have hm:k < (wrPut (mems (goneN (D+L+G) lost))).length:=by omega
 have hf:(wrPut (mems (goneN (D+L+G) lost)))[k]=⟨2,(k:Int)+1,(((mems (goneN (D+L+G) lost))[k]:Nat):Int),0⟩:=by
  simp [wrPut,h3]
 rw [List.getElem_map,hf]
 refine ⟨rfl,fun h6=>?_⟩
 have h8:=cmp_runLen (m:=m) (Dt:=Dt) h0 h6
 rw [show cmpP D L G lost C=wrTo (fewestS 8 C (keptN (D+L+G) lost)).1 (mems (keptN (D+L+G) lost)) ++ wrPut (mems (goneN (D+L+G) lost)) from rfl] at h8
 rw [h8]
 have hg:=reg_to (fewestS 8 C (keptN (D+L+G) lost)).1 (inL (encL (matL D L G) Dt m) lost) m (mems (keptN (D+L+G) lost)) (fun _ _=>0) (regs0 (1+(mems (goneN (D+L+G) lost)).length) m) (by rw [hp.told];exact regs0_rg _ _)
 have h7:=hg.row k (by rw [hp.told];exact h3)
 have ek:((k:Int)+1).toNat=1+k:=by omega
 show (regF _ _ _).getD ((k:Int)+1).toNat []=_
 rw [ek,h7,enc_get _ _ _ _ (by rw [mat_len];exact ((mem_gone h0).1 (List.getElem_mem h3)).1)]
 apply List.map_congr_left
 intro q hq
 have hh:=List.mem_range.1 hq
 have h4:=hp.sum hc (fun i hi=>by rw [e];exact ((mem_gone h0).1 hi).1) (fun j=>(Dt.getD j []).getD q 0) (fun j=>by
  show (Dt.getD j []).getD q 0 < 256
  by_cases hj:j < Dt.length
  · have e1:Dt.getD j []=Dt[j]:=by simp [hj]
    rw [e1]
    exact getD_lt (hx _ (List.getElem_mem hj)) q
  · simp [hj]) k h3
 rw [e] at h4
 rw [h2,← h4,Nat.zero_xor]
 rw [show mems (keptN (D+L+G) lost)=(List.range 16).filter (fun i=>(keptN (D+L+G) lost).testBit i) from rfl,xl_range]
 obtain ⟨d,hd⟩:=Nat.exists_eq_add_of_le h0
 rw [hd,xs_add]
 have hz:xs (fun i=>if (keptN (D+L+G) lost).testBit (D+L+G+i)=true then gm ((fewestS 8 C (keptN (D+L+G) lost)).1.m k (D+L+G+i)) (((inL (encL (matL D L G) Dt m) lost).getD (D+L+G+i) []).getD q 0) else 0) d=0:=xs_nought d (fun i _=>by
  rw [if_neg]
  rw [keptN_bit _ _ h0,show decide (D+L+G+i < D+L+G)=false from decide_eq_false (by omega)]
  simp)
 rw [hz,Nat.xor_zero]
 apply xs_congr
 intro i hi
 have hn:(encL (matL D L G) Dt m).length=D+L+G:=by rw [enc_len,mat_len]
 rw [keptN_bit _ _ h0]
 have h5:i∈mems (goneN (D+L+G) lost)↔lost.testBit i=true:=by
  rw [mem_gone h0]
  exact ⟨fun h=>h.2,fun h=>⟨hi,h⟩⟩
 cases hb:lost.testBit i
 · rw [if_pos (show (decide (i < D+L+G) && !false)=true by simp [hi]),if_neg (fun h=>by rw [h5,hb] at h;cases h),inL_get _ _ _ (by omega),if_neg (by rw [hb];decide),enc_get _ _ _ _ (by rw [mat_len];exact hi),h2]
   congr 1
   simp [hh]
 · rw [if_neg (show ¬ (decide (i < D+L+G) && !true)=true by simp),if_pos (h5.2 hb)]
end
theorem cmp_ints (hD:D≤12) (hG:G≤4) (h0:D+L+G≤16) (hC:tells (cks D L G) (mems (goneN (D+L+G) lost))=some C):∀ s∈cmpP D L G lost C,okInts s:=by
 intro s hs
 have hp:=(plan_of hD hG hC).1
 have h1:=hp.le
 have h2:=hp.most
 rcases wr_mem hs with ⟨i,hi,rfl⟩ | ⟨i,_,r,hr,rfl⟩ | ⟨j,hj,rfl⟩
 · have:=((mem_kept h0).1 hi).1
   exact ⟨by show 0 < 256;decide,by show -9223372036854775808≤(0:Int);omega,by show (0:Int)≤9223372036854775807;omega,by show -9223372036854775808≤(i:Int);omega,by show (i:Int)≤9223372036854775807;omega,by show 0 < 256;decide⟩
 · exact ⟨by show 1 < 256;decide,by show -9223372036854775808≤(1:Int)+(r:Int);omega,by show (1:Int)+(r:Int)≤9223372036854775807;omega,by show -9223372036854775808≤(0:Int);omega,by show (0:Int)≤9223372036854775807;omega,hp.byt r i⟩
 · have hm:(mems (goneN (D+L+G) lost)).length≤16:=Nat.le_trans (List.length_filter_le _ _) (by simp)
   have hg:=((mem_gone h0).1 (List.getElem_mem hj)).1
   generalize (mems (goneN (D+L+G) lost))[j]=y at hg
   exact ⟨by show 2 < 256;decide,by show -9223372036854775808≤(j:Int)+1;omega,by show (j:Int)+1≤9223372036854775807;omega,by show -9223372036854775808≤(y:Int);omega,by show (y:Int)≤9223372036854775807;omega,by show 0 < 256;decide⟩
theorem cmp_ok (hD:D≤12) (hL:L≤4) (hG:G≤4) (h0:D+L+G≤16) (hC:tells (cks D L G) (mems (goneN (D+L+G) lost))=some C):okProg (1+((mems (goneN (D+L+G) lost)).length:Int)) (cmpP D L G lost C) ((D+L+G:Nat):Int):=by
 have hp:=(plan_of hD hG hC).1
 have h1:=hp.le
 have h2:=hp.most
 exact wr_ok hp.told (by omega) (fun i hi=>((mem_kept h0).1 hi).1) (fun i hi=>((mem_gone h0).1 hi).1)
end
theorem mfl (hg:g < L) (j:Nat) (hj:j < D):mf (matL D L G) (D+g) j=if g*(D / L)≤j∧j < (g+1)*(D / L) then 1 else 0:=by
 unfold mf matL
 have e:((List.range D).map (dataL D) ++ (List.range L).map (localL D L) ++ (List.range G).map (globalL D)).getD (D+g) []=localL D L g:=by
  rw [List.append_assoc,List.getD_eq_getElem?_getD,List.getElem?_append_right (by simp)]
  simp only [List.length_map,List.length_range,Nat.add_sub_cancel_left]
  rw [List.getElem?_append_left (by simpa using hg)]
  simp [hg]
 rw [e]
 unfold localL
 simp [hj]
theorem mfg (hi:i < G) (j:Nat) (hj:j < D):mf (matL D L G) (D+L+i) j=gi ((D+i)^^^j):=by
 unfold mf matL
 have e:((List.range D).map (dataL D) ++ (List.range L).map (localL D L) ++ (List.range G).map (globalL D)).getD (D+L+i) []=globalL D i:=by
  rw [List.getD_eq_getElem?_getD,List.getElem?_append_right (by simp)]
  simp only [List.length_append,List.length_map,List.length_range,Nat.add_sub_cancel_left]
  simp [hi]
 rw [e]
 unfold globalL
 simp [hj]
theorem row_ne (h6:1≤D) (hD:D≤12) (hG:G≤4) (h0:D % L=0) (hd:d < D+L+G):∃ j,j < D∧mf (matL D L G) d j≠0:=by
 by_cases h1:d < D
 · refine ⟨d,h1,?_⟩
   unfold mf
   rw [mat_get D L G d h1]
   unfold dataL
   simp [h1]
 · by_cases h2:d < D+L
   · obtain ⟨g,rfl⟩:∃ g,d=D+g:=⟨d - D,by omega⟩
     have hg:g < L:=by omega
     have h4:D / L*L=D:=Nat.div_mul_cancel (Nat.dvd_of_mod_eq_zero h0)
     have hp:0 < D / L:=Nat.pos_of_ne_zero fun e=>by rw [e] at h4;omega
     have h5:g*(D / L) < D:=by
      have h3:=Nat.mul_lt_mul_of_pos_right hg hp
      rw [Nat.mul_comm L,h4] at h3
      exact h3
     refine ⟨g*(D / L),h5,?_⟩
     rw [mfl hg _ h5,if_pos ⟨Nat.le_refl _,by rw [Nat.add_mul];omega⟩]
     decide
   · obtain ⟨i,rfl⟩:∃ i,d=D+L+i:=⟨d - (D+L),by omega⟩
     have hi:i < G:=by omega
     refine ⟨0,by omega,?_⟩
     rw [mfg hi 0 (by omega),Nat.xor_zero]
     exact gi_ne (by omega) (by omega)
theorem cnt_pos (h4:1≤D) (hD:D≤12) (hG:G≤4) (h3:D % L=0) (h2:D+L+G≤16) (hC:tells (cks D L G) (mems (goneN (D+L+G) lost))=some C) (hd:d < D+L+G) (hl:lost.testBit d=true):0 < cntR (mems (keptN (D+L+G) lost)) (fewestS 8 C (keptN (D+L+G) lost)).1:=by
 apply Nat.pos_of_ne_zero
 intro h0
 obtain ⟨hp,_⟩:=plan_of hD hG hC
 have hc:=mat_code D L G hD hG
 have e:D+(L+G)=D+L+G:=by omega
 obtain ⟨k,hk,h5⟩:=List.getElem_of_mem ((mem_gone h2).2 ⟨hd,hl⟩)
 obtain ⟨j,hj,h6⟩:=row_ne h4 hD hG h3 hd
 have h7:∀ i,i∈mems (keptN (D+L+G) lost)→readsB (fewestS 8 C (keptN (D+L+G) lost)).1 i=false:=fun i hi=>by
  cases hr:readsB (fewestS 8 C (keptN (D+L+G) lost)).1 i
  · rfl
  · unfold cntR at h0
    have:=List.eq_nil_of_length_eq_zero h0
    have hm:i∈(mems (keptN (D+L+G) lost)).filter (readsB (fewestS 8 C (keptN (D+L+G) lost)).1):=List.mem_filter.2 ⟨hi,hr⟩
    rw [this] at hm
    cases hm
 have hs:=hp.sum hc (fun i hi=>by rw [e];exact ((mem_gone h2).1 hi).1) (fun q=>if q=j then 1 else 0) (fun q=>by show (if q=j then 1 else 0) < 256;split <;> decide) k hk
 rw [e,h5] at hs
 have hz:=xs_nought (f:=fun i=>if i∈mems (goneN (D+L+G) lost) then 0 else gm ((fewestS 8 C (keptN (D+L+G) lost)).1.m k i) (xs (fun q=>gm (mf (matL D L G) i q) (if q=j then 1 else 0)) D)) (D+L+G) (fun i hi=>by
  by_cases hg:i∈mems (goneN (D+L+G) lost)
  · rw [if_pos hg]
  · have h8:lost.testBit i=false:=by
     cases hb:lost.testBit i
     · rfl
     · exact absurd ((mem_gone h2).2 ⟨hi,hb⟩) hg
    have:=readsB_false.1 (h7 i ((mem_kept h2).2 ⟨hi,h8⟩)) k (by rw [hp.told];exact hk)
    rw [if_neg hg,this,zero_gm])
 rw [hz] at hs
 have h1:=xs_one (f:=fun q=>gm (mf (matL D L G) d q) (if q=j then 1 else 0)) (k:=j) D hj (fun q _ hq=>by rw [if_neg hq,gm_zero])
 rw [h1,if_pos rfl,gm_one _ (hc.byt d j)] at hs
 exact h6 hs.symm
theorem fix_one (h7:1≤D) (hD:D≤12) (hG:G≤4) (h0:D % L=0) (h4:D+L+G≤16) (hC:tells (cks D L G) (mems (goneN (D+L+G) (2^d)))=some C) (hd:d < D+L+G) (h5:dl.length=D) (hx:∀ l∈dl,∀ x∈l,x < 256) :
 mems (goneN (D+L+G) (2^d))=[d]∧outTo (cmpP D L G (2^d) C) (inL (encL (matL D L G) dl 44) (2^d)) (regs0 (1+1) (runLen (cmpP D L G (2^d) C) (inL (encL (matL D L G) dl 44) (2^d)))) (cmpP D L G (2^d) C).length=[(((d:Nat):Int),(encL (matL D L G) dl 44).getD d [])]:=by
 have hm:mems (goneN (D+L+G) (2^d))=[d]:=by
  have h1:∀ i,i∈mems (goneN (D+L+G) (2^d))↔i=d:=fun i=>by
   rw [mem_gone h4,Nat.testBit_two_pow]
   constructor
   · rintro ⟨_,h⟩;exact (of_decide_eq_true h).symm
   · rintro rfl;exact ⟨hd,decide_eq_true rfl⟩
  have h2:=mems_nodup (goneN (D+L+G) (2^d))
  match hq:mems (goneN (D+L+G) (2^d)) with
  | []=>rw [hq] at h1;exact absurd ((h1 d).2 rfl) (by simp)
  | [a]=>rw [hq] at h1;rw [(h1 a).1 (by simp)]
  | a :: b :: r=>
   rw [hq] at h1 h2
   have ha:=(h1 a).1 (by simp)
   have hb:=(h1 b).1 (by simp)
   subst ha
   rw [hb] at h2
   simp at h2
 obtain ⟨O,hO,h6,h8⟩:=cmp_out (m:=44) (Dt:=dl) hD hG h4 hC h5 hx
 have h9:=cnt_pos h7 hD hG h0 h4 hC hd (by rw [Nat.testBit_two_pow];exact decide_eq_true rfl)
 refine ⟨hm,?_⟩
 rw [show (mems (goneN (D+L+G) (2^d))).length=1 by rw [hm];rfl] at hO h6
 rw [hO]
 match O,h6 with
 | [o],_=>
  obtain ⟨h1,h2⟩:=h8 0 (by simp) (by rw [hm];simp)
  have h3:=h2 h9
  simp only [hm,List.getElem_cons_zero] at h1 h3
  rw [← h1,← h3]
theorem vol_neK (h:Vol w v p D L G ps ho A F):v≠2∧v≠1:=by
 have c:=h.vol.cells.1
 refine ⟨fun e=>?_,fun e=>?_⟩
 · subst e
   have q:=h.laid 0 (by decide)
   rw [c] at q
   cases q
 · subst e
   have q:=h.tab 0 (by decide)
   rw [c] at q
   cases q
theorem heL_none (h:∀ i,A.lost i=false) (ds:List Nat):heL A ds=ds:=by
 unfold heL
 rw [List.filter_eq_self]
 intro d _
 rw [h];rfl
structure WhPost (w:World) (r v b g N p D L G ps:Nat) (A:Arr) (F:Foot) (R:Nat→List Nat) (w':World):Prop where
 rd:RdAt w' r v b g N 0 0
 row:∃ f,w'.rowIs g 33 N f∧Kn w' w.heap.size (fun _=>.slice none 0 0) f R (List.range N)
 arr:∃ rs,ArrAt w' p (A.rd rs) F
 vol:VolAt w' v p D L G ps 0
 out:Outside (fun k=>k=r∨k=g∨F.has p A.n k) w w'
theorem Vol.aside {w':World} (hV:Vol w v p D L G ps ho A F) (hO:Outside (fun k=>k=r∨k=g) w w') (h0:¬ F.has p A.n g) (h1:¬ F.has p A.n r) (h2:v≠g) (h3:v≠r) (h4:3≤g) (h5:3≤r):Vol w' v p D L G ps ho A F:=by
 refine ⟨hV.vol.keep (hO.block _ hV.vol.lt (fun q=>q.elim h3 h2)),hV.arr.keep fun k hk=>hO.block k (hV.arr.has_lt hk) (fun q=>q.elim (fun e=>h1 (by rw [← e];exact hk)) (fun e=>h0 (by rw [← e];exact hk))),hV.laid.keep (hO.block _ hV.laid.lt (fun q=>?_)),hV.tab.keep (hO.block _ hV.tab.lt (fun q=>?_)),Nat.le_trans hV.room hO.size⟩
 · have h9:2 < 3:=by decide
   omega
 · have h9:1 < 3:=by decide
   omega
theorem whole_ok (hV:Vol w v p D L G ps 0 A F) (hF:Free F p A.n v) (hf:A.fit) (hr:RdAt w r v b0 g N gone sp) (hm:w.rowIs g 33 N f0) (hN:N=D+L+G) (hg:N=A.n) (hD:D≤12) (hL:L≤4) (hG:G≤4) (kj:D+L+G≤16) (h0:0 < N) (hb:b < A.nb) (hw:A.wait≠0)
 (hl:∀ i,A.lost i=false) (k0:∀ i,i < N→A.bad i b=false) (R:Nat→List Nat) (hR:∀ i,i < N→(Rec.shard (R i)).ok) (h2:∀ i,i < N→A.blk i b=(Rec.shard (R i)).blk) (k9:¬ F.has p A.n g) (ka:¬ F.has p A.n r) (kb:r≠g) (k5:v≠g) (kc:v≠r) (kd:3≤g) (ke:3≤r) :
 Calls Tryz.prog 49 #[.pointer (some ⟨r,0,none⟩),.int .i64 b] w fun e w'=>e=.returned (.tuple #[.slice (some ⟨g,0,none⟩) N N,.int .u64 0,.nilIface])∧WhPost w r v b g N p D L G ps A F R w':=by
 have h5:mems (2^N - 1)=List.range N:=mems_first (by omega)
 have hS:2^N - 1 < 65536:=by
  have:2^N≤2^16:=Nat.pow_le_pow_right (by decide) (by omega)
  omega
 obtain ⟨S,kf⟩:∃ S,2^N - 1=S:=⟨_,rfl⟩
 rw [kf] at h5 hS
 have kg:=turn_ok hr hV.vol hm h0 (fun e=>kb e.symm) k5 b
 have H0:=hide4 hV h2 hN hg
 clear hr hm hV h2 hN hg
 go_enter Tryz.func49,Tryz.ntmps49
 go_wp2_with fail
 refine kg.mono ?_
 rintro e w1 ⟨rfl,hh,h8,hc⟩
 obtain ⟨hV,h2,hN,hg⟩:=H0.out
 have kh:=hV.aside hc k9 ka k5 kc kd ke
 obtain ⟨d0,d1,d2,d3,d4⟩:=hh.cells
 have f4:=hh.free 4
 obtain ⟨w2,hy⟩:∃ w2,w1.setCell ⟨r,4,none⟩ (.int .u64 0)=w2:=⟨_,rfl⟩
 have h7:∀ j,w2.heap[j]?=w1.heap[j]?:=fun j=>by
  rw [← hy]
  by_cases e:j=r
  · rw [e]
    exact (heap_setCell_at (j:=4) hh (.int .u64 0)).trans hh.symm
  · exact blk_setCell_other _ _ _ _ e
 have h3:Below w1.heap.size w1 w2:=by rw [← hy];exact ⟨rfl,rfl,rfl,by simp [World.setCell],fun j _=>by rw [hy];exact h7 j⟩
 have he:RdAt w2 r v b g N 0 0:=hh.keep (h7 r)
 have h6:=kh.below h3 (Nat.le_refl _)
 have h1:w2.rowIs g 33 N (fun _=>.slice none 0 0):=h8.of_block (h7 g)
 have q0:=he.cells.1
 have k6:=volAll_any h6.vol hD hL hG kj
 rw [← hN,kf] at k6
 have H1:=hide5 he h6 h1 hc h3
 clear kg hV h2 hN hg kh hh h8 hc h7 h3 he h6 h1
 go_wp2_with fail
 clear hy d0 d1 d2 d3 d4 f4
 refine k6.mono ?_
 rintro e w3 ⟨rfl,hj⟩
 obtain ⟨he,h6,h1,hc,h3⟩:=H1.out
 obtain ⟨hV,h2,hN,hg⟩:=H0.out
 have ki:=he.keep (hj.block _ he.lt)
 have h9:=h1.of_block (hj.block _ h1.lt)
 have k7:=fetch_any (h6.below hj (Nat.le_refl _)) hF hf ki h9 S hS (fun i hi=>by rw [h5,List.mem_range] at hi;omega) hb hw (by decide) kc ke (vol_neK (h6.below hj (Nat.le_refl _))) (fun i hi=>k0 i (by rw [h5,List.mem_range] at hi;exact hi)) (fun _ _=>rfl) R (fun i hi=>hR i (by rw [h5,List.mem_range] at hi;exact hi)) (fun i hi=>h2 i (by rw [h5,List.mem_range] at hi;exact hi)) k9 ka kb k5 kd
 rw [lsOf_none hl,heL_none hl,h5,Nat.or_zero] at k7
 have H3:=hide2 k7 hj
 clear he h6 h1 hc h3 hV h2 hN hg ki h9 k7 hj q0 k6
 go_wp2_with fail
 refine H3.out.1.mono ?_
 rintro e w4 ⟨rfl,hp,hq,⟨f,h4,hs⟩,hz,ha⟩
 obtain ⟨_,_,d2,d3,_⟩:=hp.cells
 have H4:=hide6 hp h4 hs hz ha hq
 clear hp h4 hs hz ha hq
 go_wp2
 refine bodyPost_ret (v:=.tuple #[.slice (some ⟨g,0,none⟩) N N,.int .u64 0,.nilIface]) (by simp [results,Tryz.results49,go_sem]) rfl ?_
 obtain ⟨hp,h4,hs,hz,ha,hq⟩:=H4.out
 obtain ⟨_,h6,_,hc,h3⟩:=H1.out
 have kk:=h6.vol.keep (H3.out.2.block _ h6.vol.lt)
 have hx:Outside (fun k=>k=r∨k=g∨F.has p A.n k) w w3:=((hc.mono fun k _ q=>q.elim .inl (fun q=>.inr (.inl q))).trans (Outside.of_all h3 _)).trans (Outside.of_all H3.out.2 _)
 have k8:Outside (fun k=>k=r∨k=g∨F.has p A.n k) w3 w4:=⟨ha.os,ha.tape,ha.output,ha.size,fun k hk hn=>by
  by_cases e:k=v
  · rw [e];exact Eq.trans hq kk.symm
  · exact ha.block k hk (fun q=>hn (by
     rcases q with q | q | q | q
     · exact .inr (.inl q)
     · exact .inl q
     · exact absurd q e
     · exact .inr (.inr q)))⟩
 refine ⟨rfl,hp,⟨f,h4,hs.1,fun i hi=>?_⟩,hz,hq,hx.trans k8⟩
 obtain ⟨bl,e1,e2,e3,e4⟩:=hs.2 i hi
 exact ⟨bl,e1,Nat.le_trans hx.size e2,e3,e4⟩
section
open Go.Shelf
def Lone (A:Arr) (d:Nat):Prop:=∀ i,A.lost i=decide (i=d)
theorem ls_range (h:Lone A d):∀ n,lsOf A (List.range n)=if d < n then 2^d else 0
 | 0=>by simp [lsOf]
 | n+1=>by
  rw [List.range_succ]
  by_cases e:n=d
  · rw [lsOf_lost A _ _ (by rw [h];exact decide_eq_true e),ls_range h n,if_neg (by omega),if_pos (by omega),Nat.zero_or,e]
  · rw [lsOf_ok A _ _ (by rw [h];exact decide_eq_false e),ls_range h n]
    by_cases q:d < n
    · rw [if_pos q,if_pos (by omega)]
    · rw [if_neg q,if_neg (by omega)]
theorem he_mem {n:Nat} (h:Lone A d):i∈heL A (List.range n)↔i < n∧i≠d:=by
 rw [heL_mem,List.mem_range,h]
 simp
theorem row_range {row:List Nat} (h:Brow w bl l) (hm:m≤l.length) (e:l.take m=row):w.rangeAt bl 0 (bts row)∧row.length=m:=by
 have h0:row.length=m:=by rw [← e,List.length_take];omega
 refine ⟨fun j u hu=>?_,h0⟩
 unfold bts at hu
 rw [List.getElem?_map,Option.map_eq_some_iff] at hu
 obtain ⟨x,hx,rfl⟩:=hu
 have hj:j < row.length:=(List.getElem?_eq_some_iff.1 hx).1
 have hc:=World.rowIs.cell h (i:=j) (by omega)
 rw [Nat.zero_add]
 rw [hc]
 unfold vb
 have:l.getD j 0=x:=by
  rw [← e,List.getElem?_take,if_pos (by omega)] at hx
  rw [List.getD_eq_getElem?_getD,hx];rfl
 rw [this]
theorem bs_shard (h:w.heap[bl]?=some (.cells (bts l).toArray 162 (0,0))) (hl:l.length=44) (hx:∀ x∈l,x < 256):Bs w (.slice (some ⟨bl,0,none⟩) 44 44) l:=by
 refine ⟨some ⟨bl,0,none⟩,44,by rw [hl],by omega,by omega,hx,fun _=>⟨bl,0,rfl,fun k hk=>?_⟩⟩
 have e:(bts l)[k]?=some (.int .u8 ((l.getD k 0:Nat):Int)):=by
  unfold bts
  rw [List.getElem?_map,List.getElem?_eq_getElem hk]
  simp [hk]
 have h0:(bts l).toArray[k]?=some (.int .u8 ((l.getD k 0:Nat):Int)):=by simpa using e
 simp [World.cell?,h,h0]
theorem in_of {f:Nat→Value} (h0:w.rowIs g 33 N f) (hM:M.length=N) (hR:∀ i (hi:i < M.length),M[i].length=44∧∀ x∈M[i],x < 256) {A:Arr} (hl:Lone A d) (hk:Kn w base (fun _=>.slice none 0 0) f (fun i=>M.getD i []) (heL A (List.range N))):In w g (inL M (2^d)) (2^d):=by
 intro i hi
 have h3:i < M.length:=by rw [inL_len] at hi;exact hi
 have hg:(inL M (2^d))[i]=if (2^d).testBit i=true then [] else M.getD i []:=by
  have:=inL_get M (2^d) i h3
  rw [← this];simp [hi]
 have hc:=h0.cell (i:=i) (by omega)
 refine ⟨fun h4=>?_,fun h4=>?_⟩
 · have hb:=bit_gone.1 h4
   rw [Nat.testBit_two_pow] at hb
   have e:d=i:=of_decide_eq_true hb
   rw [hc,hk.1 i (fun q=>(he_mem hl).1 q |>.2 e.symm)]
 · have hb:(2^d).testBit i=false:=by
    cases q:(2^d).testBit i
    · rfl
    · exact absurd (bit_gone.2 q) h4
   have h5:i≠d:=fun e=>by
    rw [e,Nat.testBit_two_pow] at hb
    simp at hb
   obtain ⟨bl,e1,_,_,e4⟩:=hk.2 i ((he_mem hl).2 ⟨by omega,h5⟩)
   have e5:M.getD i []=M[i]:=by simp [h3]
   have h6:(inL M (2^d))[i]=M[i]:=by rw [hg,if_neg (by rw [hb];decide),e5]
   rw [h6]
   obtain ⟨h1,h2⟩:=hR i h3
   rw [h1]
   refine ⟨⟨bl,0,none⟩,44,by rw [hc,e1],bs_shard ?_ h1 h2⟩
   rw [← e5];exact e4
theorem inL_rows {x:Nat} (hR:∀ i (hi:i < M.length),M[i].length=44∧∀ x∈M[i],x < 256):∀ l∈inL M x,l.length≤100000:=by
 intro l hl
 unfold inL at hl
 obtain ⟨i,hi,rfl⟩:=List.mem_map.1 hl
 have h0:=List.mem_range.1 hi
 split
 · simp
 · have e5:M.getD i []=M[i]:=by simp [h0]
   rw [e5,(hR i h0).1];omega
theorem list22 {vs:List Value} (h:vs.length=22):∃ a0 a1 a2 a3 a4 a5 a6 a7 a8 a9 b0 b1 b2 b3 b4 b5 b6 b7 b8 b9 c0 c1,vs=[a0,a1,a2,a3,a4,a5,a6,a7,a8,a9,b0,b1,b2,b3,b4,b5,b6,b7,b8,b9,c0,c1]:=by
 match vs,h with
 | [a0,a1,a2,a3,a4,a5,a6,a7,a8,a9,b0,b1,b2,b3,b4,b5,b6,b7,b8,b9,c0,c1],_=>exact ⟨a0,a1,a2,a3,a4,a5,a6,a7,a8,a9,b0,b1,b2,b3,b4,b5,b6,b7,b8,b9,c0,c1,rfl⟩
structure WlPost (w:World) (base r v b g N p D L G sb ho d:Nat) (A:Arr) (F:Foot) (M:List (List Nat)) (w':World):Prop where
 rd:RdAt w' r v b g N (2^d) 0
 vol:VolAt w' v p D L G (sb+1+1+1) (ho|||2^d)
 row:∃ f,w'.rowIs g 33 N f
 rws:Rws w' base g M
 arr:∃ rs,ArrAt w' p (A.rd rs) F
 sh:ShAt w' sb 0
 out:Outside (fun k=>k=r∨k=g∨k=v∨k=sb∨k=sb+1∨F.has p A.n k) w w'
theorem whole_lost {sb:Nat} (hV:Vol w v p D L G (sb+1+1+1) ho A F) (hF:Free F p A.n v) (hf:A.fit) (hr:RdAt w r v b0 g N gone sp) (kk:w.rowIs g 33 N f0) (hS:ShAt w sb 0) (hN:N=D+L+G) (ke:N=A.n)
 (xf:rightB D L G=true) (qo:1≤D) (hD:D≤12) (hL:1≤L) (q8:L≤4) (hG:G≤4) (km:D % L=0) (kf:D+L+G≤16) (hb:b < A.nb) (hw:A.wait≠0) (xg:ho < 65536) (hd:d < N) (hl:Lone A d) (q9:∀ i,i < N→A.bad i b=false) (xh:dl.length=D) (xi:∀ l∈dl,∀ x∈l,x < 256) (hC:tells (cks D L G) (mems (goneN (D+L+G) (2^d)))=some C)
 (hR:∀ i (hi:i < (encL (matL D L G) dl 44).length),(encL (matL D L G) dl 44)[i].length=44∧∀ x∈(encL (matL D L G) dl 44)[i],x < 256) (h7:∀ i,i < N→A.blk i b=(Rec.shard ((encL (matL D L G) dl 44).getD i [])).blk)
 (ky:¬ F.has p A.n g) (qa:¬ F.has p A.n r) (kz:r≠g) (q3:v≠g) (qb:v≠r) (qc:3≤g) (qd:3≤r) (y7:3≤v) (kn:∀ k,F.has p A.n k→k < sb) (y8:sb+1+1+1 < v) (y9:sb+1+1+1 < r) (ya:sb+1+1+1 < g) (xj:base≤g) (yb:base≤w.heap.size) :
 Calls Tryz.prog 49 #[.pointer (some ⟨r,0,none⟩),.int .i64 b] w fun e w'=>e=.returned (.tuple #[.slice (some ⟨g,0,none⟩) N N,.int .u64 (2^d:Nat),.nilIface])∧WlPost w base r v b g N p D L G sb ho d A F (encL (matL D L G) dl 44) w':=by
 obtain ⟨M,hM⟩:∃ M,encL (matL D L G) dl 44=M:=⟨_,rfl⟩
 have qp:M.length=N:=by rw [← hM,enc_len,mat_len];exact hN.symm
 obtain ⟨xk,h8⟩:=fix_one (dl:=dl) qo hD hG km kf hC (by omega) xh xi
 have h9:=cmp_lds (C:=C) (m:=44) (Dt:=dl) (lost:=2^d) kf (by decide)
 have hq:=cmp_ok hD q8 hG kf hC
 have h6:=cmp_ints hD hG kf hC
 have ko:(cmpP D L G (2^d) C).length≤5000:=by
  have hp:=(plan_of hD hG hC).1
  have h1:=hp.le
  have h2:=hp.most
  exact Nat.le_trans (wr_len _ _ (by omega)) (by decide)
 have kb:∀ w',ShAt w' sb 0→tabLaid w'→3≤w'.heap.size→_:=fun w' h1 h2 h3=>repairing_none D L G (2^d) xf qo hD hL q8 hG km kf (by have:=Nat.pow_lt_pow_right (a:=2) (by decide) (show d < 16 by omega);omega) hC h1 h2 h3
 unfold FxPost at kb
 rw [xk] at hq kb
 rw [hM] at h8 h9 hR h7 ⊢
 simp only [List.length_cons,List.length_nil,Nat.zero_add] at hq kb
 obtain ⟨z,hz⟩:∃ z:Int,1+((1:Nat):Int)=z:=⟨_,rfl⟩
 have xm:z.toNat=1+1:=by omega
 rw [hz] at hq kb
 rw [← xm] at h8
 rw [← hN] at hq
 have xn:∀ i,i < N→(Rec.shard (M.getD i [])).ok:=fun i hi=>by
  have qq:i < M.length:=by omega
  have e:M.getD i []=M[i]:=by simp [qq]
  rw [e];exact hR i qq
 have ha:mems (2^N - 1)=List.range N:=mems_first (by omega)
 have kp:2^N - 1 < 65536:=by
  have:2^N≤2^16:=Nat.pow_le_pow_right (by decide) (by omega)
  omega
 obtain ⟨S,qs⟩:∃ S,2^N - 1=S:=⟨_,rfl⟩
 rw [qs] at ha kp
 have xo:lsOf A (mems S)=2^d:=by rw [ha,ls_range hl,if_pos hd]
 obtain ⟨gn,kg⟩:∃ gn,2^d=gn:=⟨_,rfl⟩
 rw [kg] at hq h8 h9 ko ⊢
 simp only [kg] at kb h6
 have xp:¬ (gn:Int)=0:=by
  have:=Nat.two_pow_pos d
  omega
 have qv:=turn_ok hr hV.vol kk (by omega) (fun e=>kz e.symm) q3 b
 have H0:=hide5 hV h7 hN ke hS
 have HP:=hide6 kb hq h9 h8 h6 ko
 clear hr kk hV h7 hN ke hS kb hq h9 h8 h6
 go_enter Tryz.func49,Tryz.ntmps49
 go_wp2_with fail
 refine qv.mono ?_
 rintro e w1 ⟨rfl,q4,k6,q5⟩
 obtain ⟨hV,h7,hN,ke,hS⟩:=H0.out
 have qx:=hV.aside q5 ky qa q3 qb qc qd
 have qy:=hS.keep (w':=w1) fun k h1 h2=>q5.block k (by have:=hS.lt;omega) (by omega)
 obtain ⟨d0,d1,d2,d3,d4⟩:=q4.cells
 have f4:=q4.free 4
 obtain ⟨w2,q6⟩:∃ w2,w1.setCell ⟨r,4,none⟩ (.int .u64 0)=w2:=⟨_,rfl⟩
 have kc:∀ j,j≠r→w2.heap[j]?=w1.heap[j]?:=fun j hj=>by rw [← q6];exact blk_setCell_other _ _ _ _ hj
 have hs:RdAt w2 r v b g N 0 0:=by rw [← q6];exact heap_setCell_at (j:=4) q4 _
 have h5:Outside (fun k=>k=r∨k=g) w1 w2:=by rw [← q6];exact Outside.setCell _ _ _ (.inl rfl)
 have hg:=qx.aside h5 ky qa q3 qb qc qd
 have k7:=qy.keep (w':=w2) fun k h1 h2=>kc k (by omega)
 have h0:w2.rowIs g 33 N (fun _=>.slice none 0 0):=k6.of_block (kc g (fun e=>kz e.symm))
 have q0:=hs.cells.1
 have qe:=volAll_any hg.vol hD q8 hG kf
 rw [← hN,qs] at qe
 have H1:=hide5 hs hg h0 (q5.trans h5) k7
 clear qv hV h7 hN ke hS qx qy q4 k6 q5 kc h5 hs hg k7 h0
 go_wp2_with fail
 clear q6 d0 d1 d2 d3 d4 f4
 refine qe.mono ?_
 rintro e w3 ⟨rfl,he⟩
 obtain ⟨hs,hg,h0,h5,k7⟩:=H1.out
 obtain ⟨hV,h7,hN,ke,hS⟩:=H0.out
 have qz:=hs.keep (he.block _ hs.lt)
 have k8:=h0.of_block (he.block _ h0.lt)
 have qf:=fetch_any (hg.below he (Nat.le_refl _)) hF hf qz k8 S kp (fun i hi=>by rw [ha,List.mem_range] at hi;omega) hb hw xg qb qd (vol_neK (hg.below he (Nat.le_refl _))) (fun i hi=>q9 i (by rw [ha,List.mem_range] at hi;exact hi)) (fun _ _=>rfl) (fun i=>M.getD i []) (fun i hi=>xn i (by rw [ha,List.mem_range] at hi;exact hi)) (fun i hi=>h7 i (by rw [ha,List.mem_range] at hi;exact hi)) ky qa kz q3 qc
 rw [xo,ha,kg] at qf
 have H3:=hide3 qf he (k7.below he)
 clear hs hg h0 h5 k7 hV h7 hN ke hS qz k8 qf he q0 qe
 go_wp2_with fail
 refine H3.out.1.mono ?_
 rintro e w4 ⟨rfl,k0,k9,⟨f,h4,kh⟩,⟨rs,kd⟩,hy⟩
 obtain ⟨_,_,d2,d3,_⟩:=k0.cells
 have H4:=hide6 k0 k9 h4 kh kd hy
 clear k0 h4 kh kd hy k9
 go_wp2
 clear d2 d3
 obtain ⟨k0,k9,h4,kh,kd,hy⟩:=H4.out
 have he:=H3.out.2.1
 have qg:=H3.out.2.2
 obtain ⟨hs,hg,h0,h5,k7⟩:=H1.out
 have yc:1 < 3:=by decide
 have yd:=qg.lt
 have ki:ShAt w4 sb 0:=qg.keep fun k h1 h2=>hy.block k (by omega) (fun q=>by
  rcases q with q | q | q | q
  · omega
  · omega
  · omega
  · have:=kn k q;omega)
 have q7:=hg.below he (Nat.le_refl _)
 have qh:tabLaid w4:=q7.tab.keep (hy.block _ q7.tab.lt (fun q=>by
  rcases q with q | q | q | q
  · omega
  · omega
  · omega
  · exact hF.t q))
 have xa:=hy.size
 have xq:3≤w4.heap.size:=Nat.le_trans q7.room xa
 refine whole_region6 (T:=fun k=>k=sb∨k=sb+1) (K:=fun x=>ShAt x sb 0) (z:=z) (n:=(cmpP D L G gn C).length) (xs:=stcs .u8 (cmpP D L G gn C)) k9 k0 (show ¬ (r=sb∨r=sb+1) by omega) (show ¬ (v=sb∨v=sb+1) by omega) (fun x y hx hO=>hx.keep fun k h1 h2=>hO.block k (by have:=hx.lt;omega) (by have:=ki.lt;omega)) (fun k hk=>by have:=ki.lt;omega) (fun w' qi=>(HP.out.1 w' (ki.below qi) (qh.keep (qi.block _ qh.lt)) (Nat.le_trans xq qi.size)).mono ?_) (by kernel_rfl) rfl rfl ?_
 · rintro e w'' ⟨⟨xv,qj⟩,ao,m,c,rfl,xx,xy⟩
   exact ⟨ao,m,c,rfl,xx,xy,xv,_,qj⟩
 intro w5 vs b7 m c ao xb ye xz kr ks ka
 obtain ⟨a0,a1,a2,a3,a4,a5,a6,a7,a8,a9,x0,x1,x2,x3,x4,x5,x6,x7,x8,x9,y0,y1,rfl⟩:=list22 xb
 have y2:=ki.lt
 have xc:=k0.keep (ka.block _ k0.lt (by omega))
 have hh:=h4.of_block (ka.block _ h4.lt (by omega))
 have hm:=kh.keep (w':=w5) ka.size (fun k o hk ho _=>(ka.block k (Array.getElem?_eq_some_iff.1 ho).1 (by omega)).trans ho)
 have qk:=in_of hh qp hR hl hm
 rw [kg] at qk
 obtain ⟨qm,hq,h9,h8,h6,ko⟩:=HP.out
 clear qm
 have xd:=fill_one xc hh kz (owns_ps kr (by omega)) h6 qk ((inL_len _ _).trans qp) (inL_rows hR) ko hq h9 h8 hd
 obtain ⟨p0,p1,p2,p3⟩:=obj_cells xz
 clear p2 p3
 have H5:=hide5 xd hm ks ka ki.lt
 clear xd hm ks k0 k9 h4 kh kd hy he qg hs hg h0 h5 k7 ki q7 qh xc hh qk hq h9 h8 h6 ko kr xb
 rename_i hK
 refine hK _ _ ?_
 clear hK
 simp only [Act.putFrom,Act.put,List.setIfInBounds_toArray,List.set_cons_succ,List.set_cons_zero]
 go_wp2_with fail
 refine H5.out.1.mono ?_
 rintro e w6 ⟨rfl,kv,kx,kj⟩
 obtain ⟨_,_,d2,d3,_⟩:=kv.cells
 have H6:=hide3 kv kx kj
 clear kv kx kj p0 p1
 go_wp2
 go_region
 go_wp2
 refine bodyPost_ret (v:=.tuple #[.slice (some ⟨g,0,none⟩) N N,.int .u64 (gn:Int),.nilIface]) (by simp [results,Tryz.results49,go_sem]) rfl ?_
 obtain ⟨kv,⟨bl,m',l,hn,yf,y3,xe,y4,yg⟩,kj⟩:=H6.out
 obtain ⟨_,hm,ks,ka,y2⟩:=H5.out
 obtain ⟨k0,k9,h4,kh,kd,hy⟩:=H4.out
 have he:=H3.out.2.1
 obtain ⟨hs,hg,h0,h5,k7⟩:=H1.out
 have y5:∀ k,F.has p A.n k→k < sb:=kn
 have k5:Outside (fun k=>k=sb∨k=sb+1∨k=g) w4 w6:=(ka.mono fun k _ q=>by omega).trans (kj.mono fun k _ q=>.inr (.inr q))
 have yh:=h5.size
 have yi:=he.size
 have xa:=hy.size
 have yj:=k5.size
 have yk:=ka.size
 refine ⟨rfl,?_,?_,⟨_,hn⟩,?_,⟨rs,?_⟩,?_,?_⟩
 · rw [kg];exact kv
 · rw [kg];exact k9.keep (k5.block _ k9.lt (by omega))
 · refine ⟨xj,hn.lt,fun i hi=>?_⟩
   have hc:=hn.cell (i:=i) (by omega)
   by_cases e:i=d
   · subst e
     rw [if_pos rfl] at hc
     have e5:M.getD i []=M[i]:=by simp [hi]
     obtain ⟨q1,q2⟩:=row_range xe y3 y4
     rw [e5] at q1 q2
     obtain ⟨h1,h2⟩:=hR i hi
     have qn:m'=44:=by omega
     rw [qn] at hc
     exact ⟨bl,0,l.length,hc,by omega,Brow.lt xe,q1,h1,h2⟩
   · rw [if_neg e] at hc
     obtain ⟨bk,e1,e2,e3,e4⟩:=hm.2 i ((he_mem hl).2 ⟨by omega,e⟩)
     have e5:M.getD i []=M[i]:=by simp [hi]
     rw [e1] at hc
     have ym:=h4.lt
     have yn:=h0.lt
     have e6:w6.heap[bk]?=some (.cells (bts M[i]).toArray 162 (0,0)):=by
      rw [← e5];exact (kj.block _ e3 (by omega)).trans e4
     refine ⟨bk,0,44,hc,by omega,(Array.getElem?_eq_some_iff.1 e6).1,fun j u hu=>?_,hR i hi⟩
     have y6:(bts M[i]).toArray[j]?=some u:=by simpa using hu
     show w6.cell? _=_
     simp [World.cell?,e6,y6]
 · refine kd.keep fun k hk=>k5.block k (kd.has_lt hk) (fun q=>?_)
   have:=y5 k hk
   rcases q with q | q | q
   · omega
   · omega
   · exact ky (by rw [← q];exact hk)
 · exact ks.keep fun k h1 h2=>kj.block k (by have:=ks.lt;omega) (by omega)
 · refine (((h5.mono fun k _ q=>?_).trans (Outside.of_all he _)).trans (hy.mono fun k _ q=>?_)).trans ((k5.mono fun k _ q=>?_).trans (Outside.drew _))
   · exact q.elim .inl (fun q=>.inr (.inl q))
   · rcases q with q | q | q | q
     · exact .inr (.inl q)
     · exact .inl q
     · exact .inr (.inr (.inl q))
     · exact .inr (.inr (.inr (.inr (.inr q))))
   · rcases q with q | q | q
     · exact .inr (.inr (.inr (.inl q)))
     · exact .inr (.inr (.inr (.inr (.inl q))))
     · exact .inr (.inl q)
end
end Go.Proofs.YthcgahldacpolaaGreatDoor
