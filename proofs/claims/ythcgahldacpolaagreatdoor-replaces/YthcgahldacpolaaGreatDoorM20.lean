import Derived.Test.YthcgahldacpolaaGreatDoorM19
import Derived.BigRegion
set_option maxRecDepth 100000
set_option maxHeartbeats 8000000
namespace Go.Proofs.YthcgahldacpolaaGreatDoor
open Go.RowKit Go.Deep Gf
variable {x:Int} {D:List (List Nat)} {T T' S:List (Nat×Nat×List Nat)} {lp:List Nat} {B W c r p k g n cap:Nat} {v:Value} {w wr wr':World}
def FitG (D:List (List Nat)):Prop:=D.length≤64∧∀ i (hi:i < D.length),(D[i]).length≤64
def wd (D:List (List Nat)):Nat→Nat
 | 0=>0
 | k+1=>if wd D k < (D.getD k []).length then (D.getD k []).length else wd D k
theorem le_wd (D:List (List Nat)) (i:Nat):∀ k,i < k→(D.getD i []).length≤wd D k:=by
 intro k
 induction k with
 | zero=>intro h;omega
 | succ k ih=>
  intro h
  unfold wd
  by_cases e:i=k
  · subst e;split <;> omega
  · have:=ih (by omega)
    split <;> omega
def pad (W:Nat) (l:List Nat):List Nat:=l ++ List.replicate (W - l.length) 0
theorem vec_pad (W:Nat) (l:List Nat):vec (pad W l)=vec l:=by
 funext j
 unfold vec pad
 by_cases hj:j < l.length
 · simp [List.getElem?_append_left hj,hj]
 · rw [List.getD_eq_getElem?_getD,List.getElem?_append_right (Nat.not_lt.1 hj)]
   by_cases h2:j - l.length < W - l.length
   · simp [h2,List.getElem?_eq_none (Nat.not_lt.1 hj)]
   · simp [h2,List.getElem?_eq_none (Nat.not_lt.1 hj)]
theorem pad_len (W:Nat) (l:List Nat) (h:l.length≤W):(pad W l).length=W:=by simp [pad];omega
theorem pad_lt (W:Nat) (l:List Nat) (h:∀ x∈l,x < 256):∀ x∈pad W l,x < 256:=by
 intro x hx
 rcases List.mem_append.1 hx with q | q
 · exact h x q
 · have:=List.eq_of_mem_replicate q;omega
structure EI (w:World) (B W c r:Nat) (v:Value) (D:List (List Nat)) (T:List (Nat×Nat×List Nat)) (wr:World):Prop where
 tab:Tab wr B v T
 wid:∀ i (hi:i < T.length),T[i].2.1=W∧T[i].2.2.length=W
 rle:r≤T.length
 len:T.length=D.length
 zer:∀ i (hi:i < T.length),r≤i→∀ j,j < c→vec T[i].2.2 j=0
 tak:∀ k,Taken (64 - c) (Rem (T.map (fun p=>p.2.2)) r) c k→RankIs D (r+k)
 bel:Below B w wr
 siz:B≤wr.heap.size
theorem EI.skip (h:EI w B W c r v D T wr) (hc:c < 64) (hz:∀ i (hi:i < T.length),r≤i→vec T[i].2.2 c=0):EI w B W (c+1) r v D T wr:=
 { h with
  zer:=fun i hi hr j hj=>by
   by_cases e:j=c
   · subst e;exact hz i hi hr
   · exact h.zer i hi hr j (by omega)
  tak:=fun k hk=>by
   refine h.tak k ?_
   have e:64 - c=64 - (c+1)+1:=by omega
   rw [e]
   refine taken_skip (fun i hi hr=>?_) hk
   rw [List.getElem_map]
   exact hz i (by simpa using hi) hr }
theorem EI.pivot (h:EI w B W c r v D T wr) (hc:c < 64) (h3:r≤p) (hp:p < T.length) (h5:vec T[p].2.2 c≠0)
 (h4:Tab wr' B v T') (hl:T'.length=T.length) (h6:∀ i (hi:i < T'.length),T'[i].2.1=W∧T'[i].2.2.length=W)
 (h0:∀ i (hi:i < T'.length),r < i→∃ f,∃ h:(if i=p then r else i) < T.length,f < 256∧vec T'[i].2.2=addV (vec T[if i=p then r else i].2.2) f (vec T[p].2.2)∧vec T'[i].2.2 c=0)
 (hb:Below B w wr') (hs:B≤wr'.heap.size):EI w B W (c+1) (r+1) v D T' wr' where
 tab:=h4
 wid:=h6
 rle:=by omega
 len:=by rw [hl];exact h.len
 zer:=fun i hi hr j hj=>by
  obtain ⟨f,h1,hf,e,hz⟩:=h0 i hi (by omega)
  by_cases ej:j=c
  · subst ej;exact hz
  · rw [e]
    have z1:=h.zer _ h1 (by split <;> omega) j (by omega)
    have z2:=h.zer p hp h3 j (by omega)
    show vec T[if i=p then r else i].2.2 j^^^gm f (vec T[p].2.2 j)=0
    rw [z1,z2,gm_zero]
    exact Nat.xor_self 0
 tak:=fun k hk=>by
  have e:r+1+k=r+(k+1):=by omega
  rw [e]
  refine h.tak (k+1) ?_
  have e:64 - c=64 - (c+1)+1:=by omega
  rw [e]
  refine taken_pivot (p:=p) (T':=T'.map (fun p=>p.2.2)) ?_ ?_ (by simpa using hl) h3 (by simpa using hp) (by rw [List.getElem_map];exact h5) ?_ hk
  · intro l h2
    obtain ⟨q,hq,rfl⟩:=List.mem_map.1 h2
    exact (h.tab.row q hq).2.2.2.2
  · intro l h2
    obtain ⟨q,hq,rfl⟩:=List.mem_map.1 h2
    exact (h4.row q hq).2.2.2.2
  · intro i hi hr
    obtain ⟨f,h1,hf,e,hz⟩:=h0 i (by simpa using hi) hr
    exact ⟨f,by simpa using h1,hf,by simp only [List.getElem_map];exact e,by simp only [List.getElem_map];exact hz⟩
 bel:=hb
 siz:=hs
theorem EI.start (hT:Tab wr w.heap.size v T) (hH:T.map (fun p=>p.2)=D.map (fun l=>(W,pad W l))) (hW:∀ i (hi:i < D.length),(D[i]).length≤W) (hb:Below w.heap.size w wr) (hs:w.heap.size≤wr.heap.size):EI w w.heap.size W 0 0 v D T wr:=by
 have hl:T.length=D.length:=by simpa using congrArg List.length hH
 have h0:∀ i (h1:i < T.length) (h2:i < D.length),T[i].2=(W,pad W D[i]):=by
  intro i h1 h2
  have:=List.getElem_of_eq hH (i:=i) (by simpa using h1)
  simpa using this
 refine ⟨hT,fun i hi=>?_,Nat.zero_le _,hl,fun _ _ _ j hj=>absurd hj (Nat.not_lt_zero _),fun k hk=>?_,hb,hs⟩
 · rw [h0 i hi (by omega)]
   exact ⟨rfl,pad_len W _ (hW i (by omega))⟩
 · rw [Nat.zero_add]
   have e:Rem (T.map (fun p=>p.2.2)) 0=Rem D 0:=rem_congr (by simpa using hl) (fun i h1 h2=>by
    rw [List.getElem_map]
    have:=h0 i (by simpa using h1) h2
    rw [this]
    exact vec_pad W _) 0
   rw [e] at hk
   exact hk
theorem EI.done (h:EI w B W c r v D T wr) (hc:W≤c):RankIs D r:=
 h.tak 0 (taken_done (fun l hl=>by
  obtain ⟨q,hq,rfl⟩:=List.mem_map.1 hl
  obtain ⟨i,hi,rfl⟩:=List.mem_iff_getElem.1 hq
  rw [(h.wid i hi).2];exact hc))
def RC (w:World) (W:Nat) (v:Value) (D:List (List Nat)) (rv cv:Value) (wr:World):Prop:=
 ∃ (r c:Nat) (T:List (Nat×Nat×List Nat)),c≤W∧rv=.int .i64 (r:Nat)∧cv=.int .i64 (c:Nat)∧EI w w.heap.size W c r v D T wr
def RP (T:List (Nat×Nat×List Nat)) (r c:Nat) (av iv:Value):Prop:=
 ∃ k:Nat,r≤k∧k≤T.length∧iv=.int .i64 (k:Nat)∧((av=.int .i64 (-1)∧∀ i (hi:i < T.length),r≤i→i < k→vec T[i].2.2 c=0)∨∃ p:Nat,∃ hp:p < T.length,r≤p∧av=.int .i64 (p:Nat)∧vec T[p].2.2 c≠0)
structure EW (w:World) (B W c r k:Nat) (v:Value) (S:List (Nat×Nat×List Nat)) (lp:List Nat) (T:List (Nat×Nat×List Nat)) (wr:World):Prop where
 tab:Tab wr B v T
 len:T.length=S.length
 wid:∀ i (hi:i < T.length),T[i].2.1=W∧T[i].2.2.length=W
 old:∀ i (hi:i < T.length) (hi':i < S.length),i≤r∨k≤i→T[i]=S[i]
 new:∀ i (hi:i < T.length) (hi':i < S.length),r < i→i < k→∃ f,f < 256∧vec T[i].2.2=addV (vec S[i].2.2) f (vec lp)∧vec T[i].2.2 c=0
 bel:Below B w wr
 siz:B≤wr.heap.size
def RW (w:World) (B W c r:Nat) (v:Value) (S:List (Nat×Nat×List Nat)) (lp:List Nat) (iv:Value) (wr:World):Prop:=
 ∃ (k:Nat) (T:List (Nat×Nat×List Nat)),r < k∧k≤S.length∧iv=.int .i64 (k:Nat)∧EW w B W c r k v S lp T wr
theorem EW.step {l':List Nat} {f:Nat} (h:EW w B W c r k v S lp T wr) (hr:r < k) (hk:k < T.length) (hg:wr.grownBy wr' (some T[k].1)) (hB:Brow wr' T[k].1 l') (h0:l'.length=W) (hx:∀ x∈l',x < 256)
 (hf:f < 256) (he:vec l'=addV (vec T[k].2.2) f (vec lp)) (hc:vec l' c=0):EW w B W c r (k+1) v S lp (T.set k (T[k].1,T[k].2.1,l')) wr':=by
 have hm:=h.tab.row _ (List.getElem_mem hk)
 refine ⟨h.tab.wrote hk hg hB (by rw [h0,(h.wid k hk).2]) hx,by rw [List.length_set];exact h.len,fun i hi=>?_,fun i hi h3 ho=>?_,fun i hi h3 h1 h2=>?_,grown_below h.bel hg h.siz hm.1,Nat.le_trans h.siz hg.size⟩
 · rw [List.length_set] at hi
   rw [List.getElem_set]
   by_cases e:k=i
   · rw [if_pos e];exact ⟨(h.wid k hk).1,h0⟩
   · rw [if_neg e];exact h.wid i hi
 · rw [List.length_set] at hi
   rw [List.getElem_set,if_neg (by omega)]
   exact h.old i hi h3 (by omega)
 · rw [List.length_set] at hi
   rw [List.getElem_set]
   by_cases e:k=i
   · subst e
     rw [if_pos rfl]
     refine ⟨f,hf,?_,hc⟩
     rw [← h.old k hi h3 (.inr (Nat.le_refl _))]
     exact he
   · rw [if_neg e];exact h.new i hi h3 h1 (by omega)
theorem EW.keep (h:EW w B W c r k v S lp T wr) (hk:k < T.length) (hc:vec T[k].2.2 c=0):EW w B W c r (k+1) v S lp T wr:=
 { h with
  old:=fun i hi h0 ho=>h.old i hi h0 (by omega)
  new:=fun i hi h0 h1 h2=>by
   by_cases e:i=k
   · subst e
     refine ⟨0,by decide,?_,hc⟩
     rw [addV_zero,h.old i hi h0 (.inr (Nat.le_refl _))]
   · exact h.new i hi h0 h1 (by omega) }
theorem Tab.ne (h:Tab w B v T) {i j:Nat} (hi:i < T.length) (hj:j < T.length) (h1:i≠j):T[i].1≠T[j].1:=by
 have h0:=List.pairwise_iff_getElem.1 h.nodup
 intro e
 rcases Nat.lt_or_gt_of_ne h1 with h' | h'
 · exact h0 i j (by simpa using hi) (by simpa using hj) h' (by simpa using e)
 · exact h0 j i (by simpa using hj) (by simpa using hi) h' (by simpa using e.symm)
theorem Tab.head (h:Tab w B (.slice (some ⟨g,0,none⟩) n cap) T) (hw:∀ i (hi:i < T.length),T[i].2.1=W∧T[i].2.2.length=W) {i:Nat} (hi:i < T.length):w.cell? ⟨g,i,none⟩=some (.slice (some ⟨T[i].1,0,none⟩) W W):=by
 have:=h.cell_at hi
 unfold hdr at this
 rw [(hw i hi).1,(hw i hi).2] at this
 exact this
theorem Tab.byte (h:Tab w B v T) (hw:∀ i (hi:i < T.length),T[i].2.1=W∧T[i].2.2.length=W) {i:Nat} (hi:i < T.length) (hc:c < W):w.cell? ⟨T[i].1,c,none⟩=some (.int .u8 ((vec T[i].2.2 c:Nat):Int))∧vec T[i].2.2 c < 256:=
 ⟨(h.row _ (List.getElem_mem hi)).2.1.cell c (by rw [(hw i hi).2];exact hc),getD_lt (h.row _ (List.getElem_mem hi)).2.2.2.2 c⟩
theorem EI.cells (h:EI w B W c r (.slice (some ⟨g,0,none⟩) n cap) D T wr) (hc:c < W) (i:Nat) (hi:i < T.length) :
 wr.cell? ⟨g,i,none⟩=some (.slice (some ⟨T[i].1,0,none⟩) W W)∧wr.cell? ⟨T[i].1,c,none⟩=some (.int .u8 ((vec T[i].2.2 c:Nat):Int))∧vec T[i].2.2 c < 256:=
 ⟨h.tab.head h.wid hi,h.tab.byte h.wid hi hc⟩
theorem EI.swap (h:EI w B W c r (.slice (some ⟨g,0,none⟩) n cap) D T wr) (hB:B≤g) (hr:r < T.length) (hp:p < T.length) :
 EW w B W c r (r+1) (.slice (some ⟨g,0,none⟩) n cap) (swp T p r) T[p].2.2 (swp T p r) ((wr.setCell ⟨g,p,none⟩ (.slice (some ⟨T[r].1,0,none⟩) W W)).setCell ⟨g,r,none⟩ (.slice (some ⟨T[p].1,0,none⟩) W W)):=by
 have e1:hdr T[r]=.slice (some ⟨T[r].1,0,none⟩) W W:=by unfold hdr;rw [(h.wid r hr).1,(h.wid r hr).2]
 have e2:hdr T[p]=.slice (some ⟨T[p].1,0,none⟩) W W:=by unfold hdr;rw [(h.wid p hp).1,(h.wid p hp).2]
 have hs:=h.tab.swap hp hr
 rw [e1,e2] at hs
 refine ⟨hs,rfl,fun i hi=>?_,fun _ _ _ _=>rfl,fun i _ _ h1 h2=>absurd h1 (by omega),?_,?_⟩
 · obtain ⟨j,hj,e⟩:=List.mem_iff_getElem.1 (swp_mem T p r hp hr _ (List.getElem_mem hi))
   rw [← e];exact h.wid j hj
 · exact (h.bel.setCell (p:=⟨g,p,none⟩) hB _).setCell (p:=⟨g,r,none⟩) hB _
 · rw [nblk_setCell,nblk_setCell];exact h.siz
theorem EI.worked (h:EI w B W c r v D T wr) (hc:c < 64) (h0:r≤p) (hp:p < T.length) (h2:vec T[p].2.2 c≠0)
 (h':EW w B W c r k v (swp T p r) T[p].2.2 T' wr') (hk:T.length≤k):EI w B W (c+1) (r+1) v D T' wr':=by
 have hr:r < T.length:=by omega
 have hl:T'.length=T.length:=by rw [h'.len,swp_len]
 refine h.pivot hc h0 hp h2 h'.tab hl h'.wid (fun i hi h3=>?_) h'.bel h'.siz
 obtain ⟨f,hf,e,hz⟩:=h'.new i hi (by rw [swp_len];omega) h3 (by omega)
 have h1:(if i=p then r else i) < T.length:=by split <;> omega
 refine ⟨f,h1,hf,?_,hz⟩
 rw [e]
 have h4:i < T.length:=by omega
 have e2:(swp T p r)[i]'(by rw [swp_len];omega)=T[if i=p then r else i]:=by
  rw [swp_get T p r i hp hr h4,if_neg (by omega)]
  by_cases e3:i=p
  · simp only [if_pos e3]
  · simp only [if_neg e3]
 rw [e2]
theorem EW.top (hr:r < T.length) (hp:p < T.length) (h:EW w B W c r k v (swp T p r) T[p].2.2 T' wr):∃ h0:r < T'.length,T'[r]=T[p]:=by
 have hl:T'.length=T.length:=by rw [h.len,swp_len]
 refine ⟨by omega,?_⟩
 rw [h.old r (by omega) (by rw [swp_len];exact hr) (.inl (Nat.le_refl _)),swp_get T p r r hp hr hr,if_pos rfl]
theorem rmul_eq2 {y z:Int} (a b:Nat) (hx:x=(a:Int)) (hy:y=(b:Int)) (ha:a < 256) (hb:b < 256) (hz:((gm a b:Nat):Int)=z) (w:World) :
 Calls Tryz.prog 29 #[.int .u8 x,.int .u8 y] w fun e w'=>e=.returned (.int .u8 z)∧w'=w:=by
 subst hx hy hz;exact rmul_any a b ha hb w
theorem rinv_eq2 (a:Nat) (hx:x=(a:Int)) (ha:a < 256) (w:World) :
 Calls Tryz.prog 28 #[.int .u8 x] w fun e w'=>e=.returned (.int .u8 ((gi a:Nat):Int))∧w'=w:=by
 subst hx;exact rinv_any a ha w
def RJ (wi:World) (b:Nat) (l lp:List Nat) (f c W:Nat) (jv:Value) (wr:World):Prop:=
 ∃ j:Nat,c≤j∧j≤W∧jv=.int .i64 (j:Nat)∧wi.grownBy wr (some b)∧Brow wr b (adTo l lp f c j)
def RkPost (D:List (List Nat)) (w:World) (e:Ending) (w':World):Prop:=(FitG D→∃ k:Nat,k≤64∧e=.returned (.int .i64 k)∧RankIs D k)∧(¬ FitG D→e=.returned (.int .i64 (-1)))∧Below w.heap.size w w'
def RR1 (D:List (List Nat)) (wv i:Value):Prop:=∃ k:Nat,k≤D.length∧wv=.int .i64 (wd D k:Nat)∧i=.int .i64 k∧wd D k≤64∧∀ j (hj:j < D.length),j < k→(D[j]).length≤64
def RR2 (w:World) (W:Nat) (D:List (List Nat)) (v i:Value) (wr:World):Prop:=
 ∃ k T,k≤D.length∧i=.int .i64 (k:Nat)∧Tab wr w.heap.size v T∧T.map (fun p=>p.2)=(D.take k).map (fun l=>(W,pad W l))∧Below w.heap.size w wr∧w.heap.size≤wr.heap.size
theorem rrank_any (vd:Value) (D:List (List Nat)) (w:World) (hd:Rd w vd D) :
 Calls Tryz.prog 18 #[vd] w fun e w'=>RkPost D w e w':=by
 obtain ⟨i0,x7,kh,x8,x9⟩:=info_parts Tryz.infoBytes
 by_cases yk:64 < D.length
 · obtain ⟨ao,c,rfl,hl,_⟩:=hd
   go_enter Tryz.func18,Tryz.ntmps18
   go_wp2
   go_ret
   exact ⟨fun h=>absurd h.1 (by omega),fun _=>rfl,Below.refl _ _⟩
 by_cases ki:D=[]
 · subst ki
   obtain ⟨ao,c,rfl,_⟩:=hd
   go_enter Tryz.func18,Tryz.ntmps18
   go_wp2
   refine wp_loop_rounds 1 ?_
   rw [rounds_succ]
   go_wp2
   refine wp_loop_rounds 1 ?_
   rw [rounds_succ]
   go_wp2
   refine wp_loop_rounds 1 ?_
   rw [rounds_succ]
   go_wp2
   go_ret
   exact ⟨fun _=>⟨0,by omega,rfl,taken_done (T:=[]) (fun l hl=>by simp at hl)⟩,fun h=>absurd ⟨by simp,fun i hi=>by simp at hi⟩ h,Below.refl _ _⟩
 have xa:=hide ki
 have xb:=hd.cases
 rcases xb with ⟨h0,_⟩ | ⟨b,off,c,rfl,hl,hc⟩
 · exact absurd h0 ki
 clear ki
 have qb:∀ i (hi:i < D.length),D.getD i []=D[i]:=fun i hi=>by simp [hi]
 have HC:=hide hc
 have qc:=hide qb
 clear hc qb
 go_enter Tryz.func18,Tryz.ntmps18
 go_wp2
 go_loop [3,4] (fun wv i=>RR1 D wv i) (fun _ i=>D.length - (intOf i).toNat)
 case atStart=>exact ⟨0,Nat.zero_le _,rfl,rfl,Nat.zero_le _,fun j _ h=>absurd h (by omega)⟩
 case round=>
  obtain ⟨k,hk,rfl,rfl,xc,k9⟩:=hrel
  by_cases ks:k < D.length
  · obtain ⟨u,hu,ka⟩:=HC.out k ks
    obtain ⟨fo,fc,rfl,q1,q2,q3,q4⟩:=ka
    have ha:(D[k]).length≤140737488355328:=by omega
    have kv:wd D (k+1)=if wd D k < (D[k]).length then (D[k]).length else wd D k:=by rw [← qc.out k ks];rfl
    have kj:=hide kv
    by_cases h1:(D[k]).length≤64
    · have qd:Hid (∀ j (hj:j < D.length),j < k+1→(D[j]).length≤64):=by
       intro j hj ym
       by_cases e:j=k
       · subst e;exact h1
       · exact k9 j hj (by omega)
      clear kv k9 q1 q2 q3 q4
      generalize (D[k]).length=lk at *
      by_cases h2:wd D k < lk
      · have hm:Hid (wd D (k+1)=lk):=by rw [kj.out,if_pos h2];exact (rfl:lk=lk)
        clear kj
        go_wp2
        go_round
        case rel=>exact ⟨k+1,by omega,by rw [hm.out],by go_num,by rw [hm.out];omega,qd.out⟩
        case measure=>simp [intOf];omega
      · have hm:Hid (wd D (k+1)=wd D k):=by rw [kj.out,if_neg h2];exact (rfl:wd D k=wd D k)
        clear kj
        go_wp2
        go_round
        case rel=>exact ⟨k+1,by omega,by rw [hm.out],by go_num,by rw [hm.out];omega,qd.out⟩
        case measure=>simp [intOf];omega
    · have HN:Hid (¬ FitG D):=fun h=>h1 (h.2 k ks)
      clear kv k9 q1 q2 q3 q4
      generalize (D[k]).length=lk at *
      go_wp2
      go_ret
      exact ⟨fun h=>absurd h HN.out,fun _=>rfl,Below.refl _ _⟩
  · have xd:k=D.length:=by omega
    have kb:FitG D:=⟨by omega,fun i hi=>k9 i hi (by omega)⟩
    have qe:∀ i (hi:i < D.length),(D[i]).length≤wd D k:=fun i hi=>by
     have:=le_wd D i k (by omega)
     rw [qc.out i hi] at this
     exact this
    generalize wd D k=W at *
    have xe:=hide kb
    have qf:=hide qe
    clear k9 xd kb qe
    go_wp2
    go_loopw [5,6] (fun v i wr=>RR2 w W D v i wr) (fun _ i _=>D.length - (intOf i).toNat)
    case atStart=>exact ⟨0,[],Nat.zero_le _,rfl,Tab.nil _ _,rfl,Below.refl _ _,Nat.le_refl _⟩
    case round=>
     rename World=>wo
     obtain ⟨k2,T,yn,rfl,hT,hH,k7,kk⟩:=hrel
     have qg:T.length=min k2 D.length:=by simpa using congrArg List.length hH
     by_cases hn:k2 < D.length
     · obtain ⟨u,hu,ka⟩:=HC.out k2 hn
       have qh:=ka.mono k7
       have ha:=qf.out k2 hn
       have hx:=ka.lt
       have qi:=List.take_succ_eq_append_getElem hn
       obtain ⟨fo,fc,rfl,q1,q2,q3,q4⟩:=ka
       have kx:wo.cell? ⟨b,off+k2,none⟩=some (.slice fo (D[k2]).length fc):=by rw [k7.cell (block_lt_of_cell hu)];exact hu
       have xf:T.length≤64:=by omega
       have HH:=hide hH
       have xg:=hide qi
       clear hH qg hu q1 q2 q3 q4 qi
       generalize D[k2]=l at *
       go_wp2_with (first
        | (at_make;refine wpList_mk _ rfl (.tmp 51) (.tmp 51) rfl _ W rfl rfl rfl (by omega) ?_;intro w1 hB hs hz;clear hz;have qj:=kx;rw [← hs.cell (block_lt_of_cell kx)] at qj)
        | (refine wpList_cp rfl (.tmp 53) (.tmp 57) rfl wo.heap.size W W _ rfl rfl _ l hB (qh.mono hs) ha (by simp) wo.heap.size wo hs (Nat.le_refl _) ?_;intro w2 k8 hy)
        | (at_builtin;refine wpList_append_own _ rfl (.tmp 59) (.tmp 61) 57 rfl w.heap.size 33 i0 (.slice none 0 0) 1 24 Tryz.underlying57 x7 kh x8 x9 rfl (by decide) _ T.length (T.map hdr) rfl ((hT.below hy).alloc _).own ⟨w2.heap.size,0,none⟩ 1 1 [.slice (some ⟨wo.heap.size,0,none⟩) W W] rfl rfl (one_new _ _ rfl _ _) (by simp [Value.oneCell']) (by unfold maxLen;omega) (by omega) (by rw [nblk_alloc];have:=hy.size;omega) ?_;intro v' w3 h9 h5 xh))
       have qk:Brow w2 wo.heap.size (pad W l):=by
        have e:l ++ (List.replicate W 0).drop l.length=pad W l:=by rw [List.drop_replicate];rfl
        rw [e] at k8;exact k8
       have xi:=Tab.append2 hT hy kk (Nat.le_refl _) qk (pad_len W l ha).symm (by rw [pad_len W l ha];omega) (by rw [pad_len W l ha];omega) (pad_lt W l hx) h5 h9
       have xj:=below_append hT k7 hy kk h5
       have xk:=h5.size
       have yo:=hy.size
       rw [nblk_alloc] at xk
       have xm:Hid ((T ++ [(wo.heap.size,W,pad W l)]).map (fun p=>p.2)=(D.take (k2+1)).map (fun l=>(W,pad W l))):=by
        rw [xg.out,List.map_append,List.map_append,HH.out];exact (rfl:_=_)
       clear hT h9 h5 xh hB k8 qk hs hy k7 qh kx qj hx
       go_wp2
       go_roundw
       case rel=>exact ⟨k2+1,_,by omega,by go_num,xi,xm.out,xj,by omega⟩
       case measure=>simp [intOf];omega
     · have qm:k2=D.length:=by omega
       rw [qm,List.take_length] at hH
       have hE:=EI.start hT hH qf.out k7 kk
       have k0:T.length=D.length:=by simpa using congrArg List.length hH
       rcases hT.shape with ⟨rfl,h0⟩ | ⟨g,cap,hv,xn,xo,ky,xp,_⟩
       · exact absurd (List.eq_nil_of_length_eq_zero (by rw [← k0,h0];rfl)) xa.out
       rw [k0] at hv
       subst hv
       clear hT hH k7 kk xo ky xp qg k0 qm
       go_wp2
       go_loopw [8,9] (fun rv cv wr=>RC w W (.slice (some ⟨g,0,none⟩) D.length cap) D rv cv wr) (fun _ cv _=>W - (intOf cv).toNat)
       case atStart=>exact ⟨0,0,T,Nat.zero_le _,rfl,rfl,hE⟩
       case round=>
        clear hE
        rename World=>wo2
        obtain ⟨r,c2,T2,yp,rfl,rfl,hE⟩:=hrel
        have qn:=hE.len
        have xq:=hE.rle
        by_cases kz:c2 < W
        · have HE:=hide hE
          have km:=hide (EI.cells hE kz)
          clear hE
          go_wp2
          go_loop [10,11] (fun av iv=>RP T2 r c2 av iv) (fun _ iv=>T2.length - (intOf iv).toNat)
          case atStart=>exact ⟨r,Nat.le_refl _,xq,rfl,.inl ⟨rfl,fun i hi h1 h2=>absurd h1 (by omega)⟩⟩
          case round=>
           obtain ⟨k3,xv,yq,rfl,q0⟩:=hrel
           by_cases qo:k3 < T2.length
           · obtain ⟨q1,q2,q3⟩:=km.out k3 qo
             have xx:=hide q0
             clear q0
             have kh:vec T2[k3].2.2 c2=vec T2[k3].2.2 c2:=rfl
             have HZ:=hide kh
             clear kh
             by_cases hz:vec T2[k3].2.2 c2=0
             · have HZ:=hide hz
               rw [hz] at q2
               clear hz q3
               go_wp2
               go_round
               case rel=>
                refine ⟨k3+1,by omega,by omega,by go_num,?_⟩
                rcases xx.out with ⟨e,h1⟩ | ⟨p,hp,h1,h2,h3⟩
                · refine .inl ⟨e,fun i hi a1 a2=>?_⟩
                  by_cases e:i=k3
                  · subst e;exact HZ.out
                  · exact h1 i hi a1 (by omega)
                · exact .inr ⟨p,hp,h1,h2,h3⟩
               case measure=>simp [intOf];omega
             · have xy:(((vec T2[k3].2.2 c2:Nat):Int) != 0)=true:=by rw [bne_iff_ne];omega
               have HZ:=hide hz
               clear hz q3
               go_wp2
               go_round
               case rel=>exact ⟨k3+1,by omega,by omega,by go_num,.inr ⟨k3,qo,xv,by go_num,HZ.out⟩⟩
               case measure=>simp [intOf];omega
           · rcases q0 with ⟨rfl,hz⟩ | ⟨p,hp,qp,rfl,q5⟩
             · have xz:=hide (HE.out.skip (by omega) (fun i hi hr=>hz i hi hr (by omega)))
               clear hz
               go_wp2
               go_roundw
               case rel=>exact ⟨r,c2+1,T2,by omega,rfl,by go_num,xz.out⟩
               case measure=>simp [intOf];omega
             · obtain ⟨p1,p2,p3⟩:=km.out p hp
               have kn:r < T2.length:=by omega
               obtain ⟨r1,_,_⟩:=km.out r kn
               have hS:=HE.out.swap xn kn hp
               have h7:=HE.out.tab.own
               rw [HE.out.len] at h7
               have f1:=h7.frozenAt p
               have f2:(wo2.setCell ⟨g,p,none⟩ (.slice (some ⟨T2[r].1,0,none⟩) W W)).frozen? ⟨g,r,none⟩=false:=(World.frozen?_setCell _ _ _ _).trans (h7.frozenAt r)
               have c1:(wo2.setCell ⟨g,p,none⟩ (.slice (some ⟨T2[r].1,0,none⟩) W W)).cell? ⟨g,r,none⟩=some (.slice (some ⟨T2[r].1,0,none⟩) W W):=by
                by_cases e:p=r
                · subst e;exact World.cell?_setCell_same _ _ _ r1
                · rw [World.cell?_setCell_other _ _ _ _ (by intro h;injection h with h1 h2;exact e h2)];exact r1
               obtain ⟨y0,qq⟩:=EW.top kn hp hS
               have hs:=(hS.tab.byte hS.wid y0 kz).1
               rw [qq] at hs
               have y1:(swp T2 p r).length=T2.length:=swp_len T2 p r
               have qs:∀ q,q < c2→vec T2[p].2.2 q=0:=fun q hq=>HE.out.zer p hp qp q hq
               have y2:=hide qs
               have y3:=hide (fun (k:Nat) (T':List (Nat×Nat×List Nat)) (wr':World) (h':EW w w.heap.size W c2 r k (.slice (some ⟨g,0,none⟩) D.length cap) (swp T2 p r) T2[p].2.2 T' wr') (hk:T2.length≤k)=>HE.out.worked (by omega) qp hp q5 h' hk)
               have q6:=hide (fun (k:Nat) (T':List (Nat×Nat×List Nat)) (wr':World) (h':EW w w.heap.size W c2 r k (.slice (some ⟨g,0,none⟩) D.length cap) (swp T2 p r) T2[p].2.2 T' wr')=>EW.top kn hp h')
               have qv:=hide (HE.out.wid p hp).2
               have y4:=hide q5
               have HS:=hide hS
               clear h7 qq qs q5 hS km HE
               generalize swp T2 p r=S at *
               generalize T2[p]=tp at *
               generalize T2[r].1=br at *
               generalize qx:vec tp.2.2 c2=y at *
               generalize qy:tp.1=bp at *
               have y5:=hide qx
               have y6:=hide qy
               clear qx qy
               go_wp2_with (go_at_call 28;refine (rinv_eq2 y rfl p3 _).mono ?_;rintro e w' ⟨rfl,rfl⟩)
               go_loopw [14] (fun iv wr=>RW w w.heap.size W c2 r (.slice (some ⟨g,0,none⟩) D.length cap) S tp.2.2 iv wr) (fun iv _=>S.length - (intOf iv).toNat)
               case atStart=>exact ⟨r+1,S,by omega,by omega,by go_num,HS.out⟩
               case round=>
                clear p1 p2 r1 f1 f2 c1 hs HS
                rename World=>wm
                obtain ⟨k4,T3,q7,yr,rfl,hW⟩:=hrel
                have ys:T3.length=T2.length:=by rw [hW.len];exact y1
                by_cases yv:k4 < T2.length
                · have h4:k4 < T3.length:=by omega
                  have hh:=hW.tab.head hW.wid h4
                  obtain ⟨y7,ko⟩:=hW.tab.byte hW.wid h4 kz
                  have h8:=hW.tab.row _ (List.getElem_mem h4)
                  have y8:=own_ne hW.tab.own h8.2.1
                  have qz:=(hW.wid k4 h4).2
                  obtain ⟨x0,kc⟩:=q6.out k4 T3 wm hW
                  have q8:=hW.tab.ne x0 h4 (by omega)
                  have kd:=hW.tab.row _ (List.getElem_mem x0)
                  rw [kc] at kd q8
                  rw [y6.out] at kd q8
                  have y9:=hide kd.2.1
                  have ya:=hide kd.2.2.2.2
                  have yb:=hide h8.2.1
                  have x1:=hide h8.2.2.2.2
                  have h6:=hide (fun hz=>hW.keep h4 hz)
                  have x2:Hid (∀ (f:Nat) (l':List Nat) (wr':World),f < 256→wm.grownBy wr' (some T3[k4].1)→Brow wr' T3[k4].1 l'→l'.length=W→(∀ x∈l',x < 256)→vec l'=addV (vec T3[k4].2.2) f (vec tp.2.2)→vec l' c2=0→∃ T',EW w w.heap.size W c2 r (k4+1) (.slice (some ⟨g,0,none⟩) D.length cap) S tp.2.2 T' wr'):=
                   fun f l' wr' hf hg hB q9 hx he hc=>⟨_,hW.step q7 h4 hg hB q9 hx hf he hc⟩
                  clear hW h8 kd kc
                  generalize ha:T3[k4].2.2=l at *
                  generalize T3[k4].1=bk at *
                  generalize x3:vec l c2=x at *
                  have ke:gm x (gi y) < 256:=gm_lt _ ko
                  have kf:=off_zero ko p3 y4.out
                  generalize kp:gm x (gi y)=f at *
                  have k5:=hide kf
                  have yc:=hide x3
                  clear kf x3 ha
                  by_cases kr:f=0
                  · have qa:((gm x (gi y):Nat):Int)=0:=by rw [kp,kr];rfl
                    have x4:x=0:=by have:=k5.out;rw [kr,zero_gm,Nat.xor_zero] at this;exact this
                    have hm:=hide (h6.out x4)
                    clear kr kp ke x4 h6 x2 k5
                    have tn:(c2:Int) < (W:Int):=by omega
                    go_wp2_with (go_at_call 29;refine (rmul_eq2 x (gi y) rfl rfl ko (gi_lt p3) qa _).mono ?_;rintro e wm ⟨rfl,rfl⟩)
                    refine wp_loop_rounds 1 ?_
                    rw [rounds_succ]
                    go_wp2
                    go_roundw
                    case rel=>exact ⟨k4+1,T3,by omega,by omega,by go_num,hm.out⟩
                    case measure=>simp [intOf];omega
                  · have xy:(((f:Nat):Int) != 0)=true:=by rw [bne_iff_ne];omega
                    have qa:((gm x (gi y):Nat):Int)=((f:Nat):Int):=by rw [kp]
                    clear kr kp h6
                    go_wp2_with (go_at_call 29;refine (rmul_eq2 x (gi y) rfl rfl ko (gi_lt p3) qa _).mono ?_;rintro e wm ⟨rfl,rfl⟩)
                    go_loopw [16] (fun jv wr=>RJ wm bk l tp.2.2 f c2 W jv wr) (fun jv _=>W - (intOf jv).toNat)
                    case atStart=>exact ⟨c2,Nat.le_refl _,by omega,rfl,World.grownBy.refl _ _,by rw [adTo_start];exact yb.out⟩
                    case round=>
                     rename World=>wj
                     obtain ⟨j,yd,yx,rfl,kg,k6⟩:=hrel
                     have yy:=kg.cell hh y8
                     by_cases ye:j < W
                     · have hy:=(y9.out.grown kg (by intro e;injection e with e;exact q8 e)).cell j (by rw [qv.out];exact ye)
                       have yf:=k6.cell j (by rw [adTo_len];omega)
                       rw [adTo_get _ _ _ _ _ (by omega)] at yf
                       have yz:=k6.frozen j
                       have k8:=k6.set j (l.getD j 0^^^gm f (tp.2.2.getD j 0))
                       rw [adTo_step _ _ _ _ _ yd] at k8
                       have ky:=grown_set kg j (.int .u8 ((l.getD j 0^^^gm f (tp.2.2.getD j 0):Nat):Int))
                       have yg:=getD_lt ya.out j
                       have z0:=u8_xor (l.getD j 0) (gm f (tp.2.2.getD j 0)) (getD_lt x1.out j) (gm_lt _ ke)
                       clear k6 kg hh y7
                       generalize l.getD j 0^^^gm f (tp.2.2.getD j 0)=av at *
                       generalize l.getD j 0=a0 at *
                       generalize tp.2.2.getD j 0=dd at *
                       go_wp2_with (go_at_call 29;refine (rmul_eq2 f dd rfl rfl ke yg rfl _).mono ?_;rintro e w' ⟨rfl,rfl⟩)
                       go_region
                       go_wp2
                       go_roundw
                       case rel=>exact ⟨j+1,by omega,by omega,by go_num,grown_drew ky 1,k8⟩
                       case measure=>simp [intOf];omega
                     · have x5:j=W:=by omega
                       rw [x5] at k6
                       have he:=adTo_vec l tp.2.2 f c2 W qz qv.out y2.out
                       have hz:vec (adTo l tp.2.2 f c2 W) c2=0:=by
                        rw [he]
                        show vec l c2^^^gm f (vec tp.2.2 c2)=0
                        rw [yc.out,y5.out];exact k5.out
                       obtain ⟨T4,x6⟩:=x2.out f _ wj ke kg k6 (by rw [adTo_len];exact qz) (adTo_lt x1.out ke _ _) he hz
                       have yh:=hide x6
                       clear he hz x6 k6 x5
                       go_wp2
                       go_roundw
                       case rel=>exact ⟨k4+1,T4,by omega,by omega,by go_num,yh.out⟩
                       case measure=>simp [intOf];omega
                · have yi:=hide (y3.out k4 T3 wm hW (by omega))
                  clear hW
                  go_wp2
                  go_roundw
                  case rel=>exact ⟨r+1,c2+1,T3,by omega,by go_num,by go_num,yi.out⟩
                  case measure=>simp [intOf];omega
        · have yj:c2=W:=by omega
          have HK:=hide (hE.done (by omega))
          have HB:=hide hE.bel
          clear hE yj
          go_wp2
          go_ret
          exact ⟨fun _=>⟨r,by omega,rfl,HK.out⟩,fun h=>absurd xe.out h,HB.out⟩
def FtPost (D:List (List Nat)) (w:World) (e:Ending) (w':World):Prop:=(FitG D→e=.returned (.bool true))∧(¬ FitG D→e=.returned (.bool false))∧w'=w
def FtR (D:List (List Nat)) (i:Value):Prop:=∃ k:Nat,k≤D.length∧i=.int .i64 (k:Nat)∧∀ j (hj:j < D.length),j < k→(D[j]).length≤64
theorem fits_any (vd:Value) (D:List (List Nat)) (w:World) (hd:Rd w vd D) :
 Calls Tryz.prog 97 #[vd] w fun e w'=>FtPost D w e w':=by
 by_cases h5:64 < D.length
 · obtain ⟨ao,c,rfl,hl,_⟩:=hd
   go_enter Tryz.func97,Tryz.ntmps97
   go_wp2
   go_ret
   exact ⟨fun h=>absurd h.1 (by omega),fun _=>rfl,rfl⟩
 rcases hd.cases with ⟨rfl,ao,c,rfl⟩ | ⟨b,off,c,rfl,hl,hc⟩
 · go_enter Tryz.func97,Tryz.ntmps97
   go_wp2
   refine wp_loop_rounds 1 ?_
   rw [rounds_succ]
   go_wp2
   go_ret
   exact ⟨fun _=>rfl,fun h=>absurd ⟨by simp,fun i hi=>by simp at hi⟩ h,rfl⟩
 have HC:=hide hc
 clear hc
 go_enter Tryz.func97,Tryz.ntmps97
 go_wp2
 go_loop [10] (fun i=>FtR D i) (fun i=>D.length - (intOf i).toNat)
 case atStart=>exact ⟨0,Nat.zero_le _,rfl,fun j _ h=>absurd h (by omega)⟩
 case round=>
  obtain ⟨k,hk,rfl,h0⟩:=hrel
  by_cases h2:k < D.length
  · obtain ⟨u,hu,h3⟩:=HC.out k h2
    obtain ⟨fo,fc,rfl,q1,q2,q3,q4⟩:=h3
    by_cases h1:(D[k]).length≤64
    · have h4:Hid (∀ j (hj:j < D.length),j < k+1→(D[j]).length≤64):=by
       intro j hj h6
       by_cases e:j=k
       · subst e;exact h1
       · exact h0 j hj (by omega)
      clear h0 q1 q2 q3 q4
      generalize (D[k]).length=lk at *
      go_wp2
      go_round
      case rel=>exact ⟨k+1,by omega,by go_num,h4.out⟩
      case measure=>simp [intOf];omega
    · have HN:Hid (¬ FitG D):=fun h=>h1 (h.2 k h2)
      have h7:(D[k]).length≤140737488355328:=by omega
      clear h0 q1 q2 q3 q4
      generalize (D[k]).length=lk at *
      go_wp2
      go_ret
      exact ⟨fun h=>absurd h HN.out,fun _=>rfl,rfl⟩
  · have HF:Hid (FitG D):=⟨by omega,fun i hi=>h0 i hi (by omega)⟩
    clear h0
    go_wp2
    go_ret
    exact ⟨fun _=>rfl,fun h=>absurd HF.out h,rfl⟩
def wk (G:Nat→Nat) (top c iv k x:Nat):Nat:=if top < x / 64∧x / 64 < k∧c≤x % 64 then G x^^^gm (gm (G (x / 64*64+c)) iv) (G (top*64+x % 64)) else G x
theorem wk_start (G:Nat→Nat) (top c iv:Nat):wk G top c iv (top+1)=G:=by
 funext x;unfold wk;rw [if_neg (by omega)]
theorem wk_lt {G:Nat→Nat} (h:∀ x,G x < 256) {iv:Nat} (top c k x:Nat):wk G top c iv k x < 256:=by
 unfold wk
 split
 · exact xlt (h x) (gm_lt _ (gm_lt _ (h _)))
 · exact h x
theorem wk_top (G:Nat→Nat) (top c iv k j:Nat) (hj:j < 64):wk G top c iv k (top*64+j)=G (top*64+j):=by
 unfold wk;rw [if_neg (by omega)]
theorem wk_next (G:Nat→Nat) (top c iv k j:Nat) (hj:j < 64):wk G top c iv k (k*64+j)=G (k*64+j):=by
 unfold wk;rw [if_neg (by omega)]
theorem wk_step (G:Nat→Nat) (top c iv k:Nat) (ht:top < k) (hc:c < 64):addTo (wk G top c iv k) (fun i=>G (top*64+c+i)) (gm (G (k*64+c)) iv) (k*64+c) (64 - c)=wk G top c iv (k+1):=by
 funext x
 unfold addTo
 by_cases h:k*64+c≤x∧x < k*64+c+(64 - c)
 · have e1:x / 64=k:=by omega
   have e2:top*64+c+(x - (k*64+c))=top*64+x % 64:=by omega
   rw [if_pos h]
   unfold wk
   rw [if_neg (by omega),if_pos (by omega),e1]
   show _^^^gm _ (G (top*64+c+(x - (k*64+c))))=_
   rw [e2]
 · rw [if_neg h]
   unfold wk
   by_cases h2:top < x / 64∧x / 64 < k∧c≤x % 64
   · rw [if_pos h2,if_pos (by omega)]
   · rw [if_neg h2,if_neg (by omega)]
theorem grid_slice (w:World) (b o c:Nat) (hc:c < 64):(Instr.sliceAt 196 (.pointer (some ⟨b,o,none⟩)) (some (.int .i64 (c:Int))) none none).run Tryz.prog w=.ok (.slice (some ⟨b,o+c,none⟩) (64 - c) (64 - c)) w:=by
 have hl:Tryz.prog.arrayLen 196=64:=by kernel_rfl
 have hu:Tryz.prog.underlying 196=some (.array (Tryz.prog.arrayLen 196) (Tryz.prog.elem 196)):=by kernel_rfl
 have hs:∀ w,(sizeOf (Tryz.prog.elem 196)).run Tryz.prog w=.ok 1 w:=by
  have he:Tryz.prog.elem 196=5:=by kernel_rfl
  rw [he]
  intro w
  go_simp
 rw [run_sliceAt_array_l w 196 _ hu .i64 (c:Int) (by omega) (by rw [hl];omega),hs,hl]
 simp [slicedAt,Result.andThen]
 rw [if_neg (by omega)]
 simp [Addr.add]
def WkR (w:World) (b t top c iv n:Nat) (G:Nat→Nat) (i:Value) (wr:World):Prop:=
 ∃ k:Nat,top < k∧k≤max n (top+1)∧i=.int .i64 (k:Nat)∧wr.rowIs b t 4096 (tv (wk G top c iv k))∧w.grownBy wr (some b)
theorem workOff_any (b top c n:Nat) (G:Nat→Nat) (w:World) (hG:∀ x,G x < 256) (hr:w.rowIs b 222 4096 (tv G)) (ht:top < 64) (hc:c < 64) (hn:n≤64) :
 Calls Tryz.prog 99 #[.pointer (some ⟨b,0,none⟩),.int .i64 top,.int .i64 c,.int .i64 n] w fun e w'=>e=.returned (.tuple #[])∧w'.rowIs b 222 4096 (tv (wk G top c (gi (G (top*64+c))) (max n (top+1))))∧w.grownBy w' (some b):=by
 have hf:w.cell? ⟨b,top*64+c,none⟩=some (.int .u8 ((G (top*64+c):Nat):Int)):=hr.cell (by omega)
 have hy:=hG (top*64+c)
 generalize hq:G (top*64+c)=y at *
 go_enter Tryz.func99,Tryz.ntmps99
 go_wp2_with (go_at_call 122;refine (inv_any y hy _).mono ?_;rintro e wv ⟨rfl,rfl⟩)
 have h5:wv.rowIs b 222 4096 (tv (wk G top c (gi y) (top+1))):=by rw [wk_start];exact hr
 go_loopw [9] (fun i wr=>WkR wv b 222 top c (gi y) n G i wr) (fun i _=>n - (intOf i).toNat)
 case atStart=>exact ⟨top+1,by omega,by omega,by go_num,h5,World.grownBy.refl _ _⟩
 case round=>
  clear h5 hr hf
  rename World=>wo
  obtain ⟨k,hg,hs,rfl,h2,h6⟩:=hrel
  by_cases hz:k < n
  · have hh:wo.cell? ⟨b,k*64+c,none⟩=some (.int .u8 ((wk G top c (gi y) k (k*64+c):Nat):Int)):=h2.cell (by omega)
    rw [wk_next _ _ _ _ _ _ hc] at hh
    have hx:=hG (k*64+c)
    have h7:∀ i,i < 64 - c→wo.cell? ⟨b,top*64+c+i,none⟩=some (.int .u8 ((G (top*64+c+i):Nat):Int)):=by
     intro i hi
     have h1:wo.cell? ⟨b,top*64+c+i,none⟩=some (.int .u8 ((wk G top c (gi y) k (top*64+c+i):Nat):Int)):=h2.cell (by omega)
     rw [Nat.add_assoc,wk_top _ _ _ _ _ _ (by omega),← Nat.add_assoc] at h1
     exact h1
    have h8:=wk_step G top c (gi y) k hg hc
    have hj:gm (G (k*64+c)) (gi y) < 256:=gm_lt _ hx
    have hk:=hide h7
    have hm:=hide h8
    clear h7 h8
    generalize G (k*64+c)=x at *
    have h3:=fun w=>grid_slice w b (k*64) c hc
    have h4:=fun w=>grid_slice w b (top*64) c hc
    go_wp2
    go_region_with (first
     | (go_at_call 123;refine (mul_any x (gi y) hx (gi_lt hy) _).mono ?_;rintro e w' ⟨rfl,rfl⟩)
     | (go_at_call 111;refine (addTimes_some b 222 4096 (k*64+c) (64 - c) (64 - c) b (top*64+c) (64 - c) (gm x (gi y)) (wk G top c (gi y) k) (fun i=>G (top*64+c+i)) _ hj (by exact h2) (wk_lt hG top c k) (fun j=>hG _) (by omega) (by omega) (by exact hk.out) (.inr (.inl (by omega)))).mono ?_;rintro e w' ⟨rfl,h9,h0⟩))
    all_goals
     have ha:=h9
     rw [hm.out] at ha
     have hp:wv.grownBy w' (some b):=grown_trans h6 ⟨h0.os,h0.tape,h0.output,h0.size,h0.block⟩
     clear h9 h0 h3 h4
     go_wp2
     go_roundw
     case rel=>exact ⟨k+1,by omega,by omega,by go_num,ha,hp⟩
     case measure=>simp [intOf];omega
  · have he:k=max n (top+1):=by omega
    rw [he] at h2
    clear he
    go_wp2
    go_end0
    exact ⟨rfl,h2,h6⟩
def gridOf (D:List (List Nat)) (x:Nat):Nat:=(D.getD (x / 64) []).getD (x % 64) 0
def gridTo (D:List (List Nat)) (k x:Nat):Nat:=if x / 64 < k then gridOf D x else 0
theorem Tryz.infoGrid:(Tryz.prog.info? 222).map (fun i=>(i.zero,i.size,i.bytes))=some (some (.agg (Array.replicate 4096 (.int .u8 0))),4096,4096):=by kernel_rfl
theorem Tryz.sizeGrid:(Tryz.prog.info? 222).map (fun i=>i.size)=some 4096:=by kernel_rfl
theorem zeroGrid (w:World):(zeroValue 222).run Tryz.prog w=.ok (.agg (Array.replicate 4096 (.int .u8 0))) w:=by
 obtain ⟨i0,h0,h1,_,_⟩:=info_parts Tryz.infoGrid
 simp [zeroValue,typeInfo,Sem.run_bind,h0,h1]
theorem zero4096 (w:World):(w.alloc (.cells (Array.replicate 4096 (.int .u8 0)) 222)).rowIs w.heap.size 222 4096 (fun _=>.int .u8 0):=by
 have h:=World.rowIs_alloc w (Array.replicate 4096 (.int .u8 0)) 222 (fun _=>.int .u8 0) (fun i hi=>by simp at hi;simp [hi])
 simpa using h
theorem row_heap {b t:Nat} {f:Nat→Value} (h:w.rowIs b t n f):w.heap[b]?=some (.cells ((List.range n).map f).toArray t (0,0)):=by
 obtain ⟨c,hc,hs,hg⟩:=h
 have:c=((List.range n).map f).toArray:=by
  apply Array.ext
  · simp [hs]
  · intro i h1 h2
    have:=hg i (by omega)
    rw [Array.getElem?_eq_getElem h1] at this
    simp at this
    simp [this]
 rw [← this];exact hc
theorem wpList_cpg {ops:Array Oper} {rest:List Oper} {o:Oper} {a:Act} {Q:Exit→Act→World→Prop} (h5:o.guard=none) (d s:Operand)
 (ho:o.op=.call { callee:=.builtin .copy,args:=#[d,s],argTypes:=#[33,33] }) (g off n cap N t:Nat) (v:Value) (hd:a.eval d=.slice (some ⟨g,off,none⟩) n cap) (hs:a.eval s=v)
 (F:Nat→Nat) (src:List Nat) (hB:w.rowIs g t N (tv F)) (hS:Bs w v src) (h8:src.length≤n) (hn:off+n≤N)
 (h:∀ w',w'.rowIs g t N (tv (fun x=>if off≤x∧x < off+src.length then src.getD (x - off) 0 else F x))→Below g w w'→wpList Tryz.prog ops Q rest (a.put o.dst (goInt src.length)) w'):wpList Tryz.prog ops Q (o :: rest) a w:=by
 obtain ⟨ao,c,rfl,h1,h2,h3,h4⟩:=hS
 refine wpList_copy_splice h5 d s 33 33 ho 5 Tryz.underlying33 (by kernel_rfl) (some ⟨g,off,none⟩) ao n cap src.length c hd hs g off _ t (row_heap hB) (src.map (fun x=>Value.int .u8 ((x:Nat):Int))) ?_ ?_ ?_ ?_ g w (Below.refl _ _) (Nat.le_refl _) ?_
 · rw [List.length_map]
   show src.length=min src.length n
   omega
 · intro hp
   rw [List.length_map] at hp
   obtain ⟨b,off,rfl,hc⟩:=h4 (by intro e;rw [e] at hp;simp at hp)
   refine ⟨rfl,_,rfl,fun j u hj=>?_⟩
   have h0:j < src.length:=by
    have:=List.getElem?_eq_some_iff.1 hj
    obtain ⟨q,_⟩:=this
    simpa using q
   rw [Addr.add_mid,hc j h0]
   simp [h0] at hj
   simp [h0,hj]
 · simp;omega
 · intro u hu
   obtain ⟨x,_,rfl⟩:=List.mem_map.1 hu
   rfl
 · intro w' h6 h7
   have hw:=h6.out
   rw [List.length_map]
   refine h w' ⟨_,hw,?_,fun i hi=>?_⟩ h7
   · rw [List.size_toArray,length_splice _ _ _ (by simp;omega)];simp
   · unfold splice
     rw [List.getElem?_toArray]
     by_cases q1:i < off
     · rw [List.getElem?_append_left (by simp;omega)]
       have q0:¬ (off≤i∧i < off+src.length):=by omega
       simp only [tv,if_neg q0]
       simp [q1,hi,tv]
     · rw [List.getElem?_append_right (by simp;omega)]
       have e0:(((List.range N).map (tv F)).take off).length=off:=by simp;omega
       rw [e0]
       by_cases q2:i < off+src.length
       · rw [List.getElem?_append_left (by simp;omega)]
         have q3:i - off < src.length:=by omega
         simp [q3,tv,q2,Nat.not_lt.1 q1]
       · rw [List.getElem?_append_right (by simp;omega)]
         simp only [List.length_map]
         rw [List.getElem?_drop]
         have e1:off+src.length+(i - off - src.length)=i:=by omega
         rw [e1]
         simp [hi,tv,q2]
def LyR (w:World) (B:Nat) (D:List (List Nat)) (i:Value) (wr:World):Prop:=
 ∃ k:Nat,k≤D.length∧i=.int .i64 (k:Nat)∧wr.rowIs (B+1) 222 4096 (tv (gridTo D k))∧wr.rowIs B 222 4096 (fun _=>.int .u8 0)∧Below B w wr
theorem gridTo_step (D:List (List Nat)) (k:Nat) (hk:k < D.length) (hl:(D[k]).length≤64):(fun x=>if k*64≤x∧x < k*64+(D[k]).length then (D[k]).getD (x - k*64) 0 else gridTo D k x)=gridTo D (k+1):=by
 have hg:D.getD k []=D[k]:=by simp [hk]
 funext x
 unfold gridTo gridOf
 by_cases h:k*64≤x∧x < k*64+(D[k]).length
 · rw [if_pos h,if_pos (by omega)]
   have e1:x / 64=k:=by omega
   have e2:x % 64=x - k*64:=by omega
   rw [e1,hg,e2]
 · rw [if_neg h]
   by_cases h2:x / 64 < k
   · rw [if_pos h2,if_pos (by omega)]
   · rw [if_neg h2]
     by_cases h3:x / 64=k
     · rw [if_pos (by omega),h3,hg,List.getD_eq_getElem?_getD,List.getElem?_eq_none (by omega)];rfl
     · rw [if_neg (by omega)]
theorem gridTo_end (D:List (List Nat)) (x:Nat):gridTo D D.length x=gridOf D x:=by
 unfold gridTo
 by_cases h:x / 64 < D.length
 · rw [if_pos h]
 · rw [if_neg h]
   unfold gridOf
   simp [List.getElem?_eq_none (Nat.not_lt.1 h)]
theorem one_cells2 {cs:Array Value} {N:Nat} {f:Nat→Nat} (hs:cs.size=N) (h:∀ j,j < N→cs[j]?=some (tv f j)):cs.all (fun v=>v.oneCell')=true:=by
 rw [Array.all_eq_true]
 intro i hi
 have:=h i (by omega)
 rw [Array.getElem?_eq_getElem hi] at this
 simp at this
 rw [this];rfl
theorem lay_any (vd:Value) (D:List (List Nat)) (w:World) (hd:Rd w vd D) (hf:FitG D) :
 Calls Tryz.prog 98 #[vd] w fun e w'=>∃ cs:Array Value,e=.returned (.agg cs)∧cs.size=4096∧(∀ j,j < 4096→cs[j]?=some (tv (gridOf D) j))∧Below w.heap.size w w':=by
 have HF:=hide hf
 have hh:=hf.1
 have hm:=hd
 obtain ⟨ao,c,rfl,hl,hc⟩:=hd
 have HC:=hide hc
 clear hc hf hm
 have hn:=zeroGrid
 go_enter Tryz.func98,Tryz.ntmps98
 go_wp2
 clear hn
 go_loopw [8] (fun i wr=>LyR w w.heap.size D i wr) (fun i _=>D.length - (intOf i).toNat)
 case atStart=>
  refine ⟨0,Nat.zero_le _,rfl,?_,?_,?_⟩
  · have h:=zero4096 (w.alloc (.cells (Array.replicate 4096 (.int .u8 0)) 222))
    rw [nblk_alloc] at h
    exact h.congr fun j hj=>by unfold tv gridTo;simp
  · exact (zero4096 w).alloc _
  · exact ((Below.refl _ _).alloc (Nat.le_refl _) _).alloc (by rw [nblk_alloc];omega) _
 case round=>
  rename World=>wo
  obtain ⟨k,hk,rfl,hR,hZ,hb⟩:=hrel
  by_cases h2:k < D.length
  · obtain ⟨b,off,rfl,h5⟩:=HC.out (by intro e;rw [e] at h2;simp at h2)
    obtain ⟨u,hu,h6⟩:=h5 k h2
    have hp:=h6.mono hb
    have h7:=HF.out.2 k h2
    have h8:=gridTo_step D k h2 h7
    have hx:wo.cell? ⟨b,off+k,none⟩=some u:=by rw [hb.cell (block_lt_of_cell hu)];exact hu
    have hq:=hide h8
    clear h5 h8 hu h6 HC
    generalize D[k]=l at *
    go_wp2_with (refine wpList_cpg rfl (.tmp 15) (.tmp 16) rfl (w.heap.size+1) (k*64) 64 64 4096 222 u rfl rfl (gridTo D k) l hR hp h7 (by omega) ?_;intro w2 h3 h9)
    rw [hq.out] at h3
    have hr:=World.rowIs.of_block hZ (h9.block w.heap.size (by omega))
    go_wp2
    go_roundw
    case rel=>exact ⟨k+1,by omega,by go_num,h3,hr,hb.trans (h9.mono (by omega))⟩
    case measure=>simp [intOf];omega
  · have ha:k=D.length:=by omega
    rw [ha] at hR
    clear ha
    have h3:=hR.congr (g:=tv (gridOf D)) (fun j hj=>by unfold tv;rw [gridTo_end])
    obtain ⟨cs,he,h4,h0⟩:=h3
    obtain ⟨zs,hg,hy,_⟩:=hZ
    have h1:=one_cells2 h4 h0
    have HG:=hide h0
    have hi:(Tryz.prog.info? 222).map (fun i=>i.size)=some cs.size:=by rw [Tryz.sizeGrid,h4]
    have HI:=hide hi
    have hs:=hide he
    have HZ:=hide hg
    clear h0 hR hi he hg
    go_wp2_with (first
     | refine wpList_load_row rfl 222 (.tmp 3) rfl (w.heap.size+1) rfl 222 cs (0,0) _ hs.out Tryz.underlying222 rfl HI.out ?_
     | refine wpList_store_row rfl 222 (.tmp 2) (.tmp 19) rfl w.heap.size cs rfl rfl 222 zs HZ.out HI.out (by omega) h1 ?_)
    exact bodyPost_ret (v:=.agg cs) (results_cell_row Tryz.results98 _ _ w.heap.size 222 cs (0,0) _ rfl (setRow_heap _ _ zs cs _ _ HZ.out) Tryz.underlying222 rfl HI.out) rfl ⟨cs,rfl,h4,HG.out,below_setRow hb (Nat.le_refl _) cs⟩
end Go.Proofs.YthcgahldacpolaaGreatDoor
