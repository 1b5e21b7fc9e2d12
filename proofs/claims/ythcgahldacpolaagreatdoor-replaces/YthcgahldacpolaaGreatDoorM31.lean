import Derived.Test.YthcgahldacpolaaGreatDoorM18
import Derived.BigRegion
set_option maxRecDepth 100000
set_option maxHeartbeats 8000000
namespace Go.Proofs.YthcgahldacpolaaGreatDoor
open Go.RowKit Go.Deep Gf
variable {C:Ck} {n b:Nat} {w:World}
def mid (f:Nat→Value) (g F:Nat→Nat) (c off k j:Nat):Value:=if off≤j∧j < off+k then .int .u8 ((g j^^^gm c (F (j - off)):Nat):Int) else f j
def AdM (w:World) (b t N off k c tb fb foff:Nat) (f:Nat→Value) (g F:Nat→Nat) (i:Value) (wr:World):Prop:=
 ∃ j:Nat,j≤k∧i=.int .i64 j∧wr.rowIs b t N (mid f g F c off j)∧TableAt wr tb c∧(∀ i,i < k→wr.cell? ⟨fb,foff+i,none⟩=some (.int .u8 ((F i:Nat):Int)))∧w.grownBy wr (some b)
theorem mid_step (f:Nat→Value) (g F:Nat→Nat) (c off j x:Nat):mid f g F c off (j+1) x=if x=off+j then .int .u8 ((g (off+j)^^^gm c (F j):Nat):Int) else mid f g F c off j x:=by
 unfold mid
 by_cases h:x=off+j
 · subst h
   rw [if_pos rfl,if_pos (by omega),Nat.add_sub_cancel_left]
 · rw [if_neg h]
   by_cases h2:off≤x∧x < off+j
   · rw [if_pos h2,if_pos (by omega)]
   · rw [if_neg h2,if_neg (by omega)]
theorem mid_zero (f:Nat→Value) (g F:Nat→Nat) (c off:Nat):mid f g F c off 0=f:=by
 funext j;unfold mid;rw [if_neg (by omega)]
theorem mid_none {f:Nat→Value} {g F:Nat→Nat} {off:Nat} (h0:∀ j,off≤j→j < off+n→f j=.int .u8 ((g j:Nat):Int)) (j:Nat):mid f g F 0 off n j=f j:=by
 unfold mid
 split
 · rename_i h;rw [zero_gm,Nat.xor_zero,h0 j h.1 h.2]
 · rfl
theorem addTimes_mid (b t N off n cap fb foff fcap c:Nat) (f:Nat→Value) (g F:Nat→Nat) (w:World) (hc:c < 256) (hr:w.rowIs b t N f) (h9:∀ j,off≤j→j < off+n→f j=.int .u8 ((g j:Nat):Int)) (hg:∀ j,g j < 256) (hF:∀ j,F j < 256) (hn:off+n≤N) (k6:n≤140737488355328)
 (he:∀ i,i < n→w.cell? ⟨fb,foff+i,none⟩=some (.int .u8 ((F i:Nat):Int))) (k7:fb≠b∨foff+n≤off∨off+n≤foff) :
 Calls Tryz.prog 111 #[.slice (some ⟨b,off,none⟩) n cap,.slice (some ⟨fb,foff,none⟩) n fcap,.int .u8 c] w fun e w'=>e=.returned (.tuple #[])∧w'.rowIs b t N (mid f g F c off n)∧w.grownBy w' (some b):=by
 by_cases h0:c=0
 · subst h0
   go_enter Tryz.func111,Tryz.ntmps111
   go_wp2
   exact bodyPost_ret (v:=.tuple #[]) (by simp [results,Tryz.results111]) rfl ⟨rfl,hr.congr (fun j _=>(mid_none h9 j).symm),World.grownBy.refl _ _⟩
 · have ke:((c:Int) == 0)=false:=by rw [beq_eq_false_iff_ne];omega
   clear h0
   go_enter Tryz.func111,Tryz.ntmps111
   go_wp2_with fail
   refine (tableOf_any c hc _).mono ?_
   rintro e w1 ⟨cs,rfl,k8,h5,h3⟩
   have k9:=h3.size
   go_wp2_with (refine wpList_tab _ rfl (.tmp 6) (.tmp 11) rfl w1.heap.size c cs _ rfl rfl (heap_alloc_last w1 _) rfl k8 h5 ?_;intro w2 hf h4)
   have hh:b < w.heap.size:=hr.lt
   have h2:w.grownBy w2 none:=by
    refine ⟨h4.os.trans h3.os,h4.tape.trans h3.tape,h4.output.trans h3.output,?_,fun k hk _=>?_⟩
    · have:=h4.size;rw [nblk_alloc] at this;omega
    · rw [h4.block k (by rw [nblk_alloc];omega) (by intro e;simp at e;omega),blk_alloc_lt _ _ _ (by omega),h3.block k hk]
   have hm:w2.rowIs b t N f:=hr.of_block (h2.block b hh (by simp))
   have hp:∀ i,i < n→w2.cell? ⟨fb,foff+i,none⟩=some (.int .u8 ((F i:Nat):Int)):=fun i hi=>by
    have:=he i hi
    exact h2.cell this (by simp)
   have hq:w.grownBy w2 (some b):=⟨h2.os,h2.tape,h2.output,h2.size,fun k hk _=>h2.block k hk (by simp)⟩
   have ka:w1.heap.size≠b:=by omega
   clear h4 h2 hr he h5 h3 k9 hh
   go_loopw [17] (fun i wr=>AdM w b t N off n c w1.heap.size fb foff f g F i wr) (fun i _=>n - (intOf i).toNat)
   case atStart=>exact ⟨0,Nat.zero_le _,rfl,by rw [mid_zero];exact hm,hf,hp,hq⟩
   case round=>
    clear hf hp hq hm
    obtain ⟨j,hj,rfl,h6,h7,h8,ha⟩:=hrel
    by_cases kb:j < n
    · have c1:=h6.cell (i:=off+j) (by omega)
      have f1:=h6.frozen (off+j)
      have c2:=h8 j kb
      have e1:mid f g F c off j (off+j)=.int .u8 ((g (off+j):Nat):Int):=by unfold mid;rw [if_neg (by omega)];exact h9 _ (by omega) (by omega)
      rw [e1] at c1
      have hx:=u8_xor (g (off+j)) (gm c (F j)) (hg _) (gm_lt _ hc)
      have hs:=(h6.set (off+j) (.int .u8 ((g (off+j)^^^gm c (F j):Nat):Int))).congr (fun x _=>(mid_step f g F c off j x).symm)
      have hy:=tableAt_set h7 (a:=⟨b,off+j,none⟩) ka (.int .u8 ((g (off+j)^^^gm c (F j):Nat):Int))
      have hz:=grown_set ha (off+j) (.int .u8 ((g (off+j)^^^gm c (F j):Nat):Int))
      have k0:∀ i,i < n→(wr.setCell ⟨b,off+j,none⟩ (.int .u8 ((g (off+j)^^^gm c (F j):Nat):Int))).cell? ⟨fb,foff+i,none⟩=some (.int .u8 ((F i:Nat):Int)):=fun i hi=>by
       rw [← h8 i hi]
       by_cases kc:fb=b
       · exact World.cell?_setCell_other _ _ _ _ (by intro e;have h1:off+j=foff+i:=congrArg Addr.off e;omega)
       · exact World.cell?_of_block (blk_setCell_other _ _ _ _ kc)
      have k5:=hF j
      have HH:=hide4 hs hy k0 hz
      have HT:=hide h7
      generalize F j=y at c2 hx k5 HH
      generalize g (off+j)=x at c1 hx HH
      clear e1 hs hy hz k0 h6 h7 h8 ha hg hF h9
      go_wp2
      go_region_with ((go_at_call 134;refine (times_any w1.heap.size c y hc k5 _ (by exact fun j hj=>HT.out j hj)).mono ?_;rintro e w' ⟨rfl,m,rfl⟩))
      all_goals
       go_wp2
       go_roundw
       case rel=>exact ⟨j+1,by omega,by go_num,HH.out.1,HH.out.2.1,HH.out.2.2.1,⟨HH.out.2.2.2.os,HH.out.2.2.2.tape,HH.out.2.2.2.output,HH.out.2.2.2.size,HH.out.2.2.2.block⟩⟩
       case measure=>simp [intOf];omega
    · have kd:j=n:=by omega
      subst kd
      clear h7 h8
      go_wp2
      go_end0
      exact ⟨rfl,h6,ha⟩
def ckV (C:Ck) (k:Nat):Value:=if k < 128 then .int .u8 ((C.m (k / 16) (k % 16):Nat):Int) else if k=128 then .int .i64 (C.told:Int) else .int .i64 (C.count:Int)
def CkAt (w:World) (b:Nat) (C:Ck):Prop:=w.rowIs b 273 130 (ckV C)
structure CkFit (C:Ck):Prop where
 byt:Byt C
 le:C.told≤C.count
 most:C.count≤8
theorem CkAt.at (h:CkAt w b C) (r i:Nat) (hr:r < 8) (hi:i < 16):w.cell? ⟨b,r*16+i,none⟩=some (.int .u8 ((C.m r i:Nat):Int)):=by
 have:=h.cell (i:=r*16+i) (by omega)
 rw [this];unfold ckV
 rw [if_pos (by omega),show (r*16+i) / 16=r by omega,show (r*16+i) % 16=i by omega]
theorem CkAt.toldC (h:CkAt w b C):w.cell? ⟨b,128,none⟩=some (.int .i64 (C.told:Int)):=h.cell (i:=128) (by decide)
theorem CkAt.countC (h:CkAt w b C):w.cell? ⟨b,129,none⟩=some (.int .i64 (C.count:Int)):=h.cell (i:=129) (by decide)
def CkSp (C:Ck) (i:Nat) (wo:World) (v:Value) (wr:World):Prop:=∃ r:Nat,v=.int .i64 r∧C.told≤r∧r≤C.count∧(∀ k,C.told≤k→k < r→C.m k i=0)∧wr=wo
def spV:Option Nat→Value
 | some r=>.tuple #[.int .i64 (r:Int),.bool true]
 | none=>.tuple #[.int .i64 0,.bool false]
theorem spare_any (b i:Nat) (C:Ck) (w:World) (hC:CkAt w b C) (hf:CkFit C) (hi:i < 16) :
 Calls Tryz.prog 159 #[.pointer (some ⟨b,0,none⟩),.int .i64 i] w fun e w'=>e=.returned (spV (spareAt C i))∧w'=w:=by
 have ct:=hC.toldC
 have cc:=hC.countC
 have h1:=hf.le
 have h2:=hf.most
 have h5:(i:Int) < 16:=by omega
 go_enter Tryz.func159,Tryz.ntmps159
 go_wp2
 go_loopw [6] (fun v wr=>CkSp C i w v wr) (fun v _=>C.count - (intOf v).toNat)
 case atStart=>exact ⟨C.told,rfl,Nat.le_refl _,h1,fun k a b=>absurd b (by omega),rfl⟩
 case round=>
  obtain ⟨r,rfl,r1,r2,hz,rfl⟩:=hrel
  by_cases h4:r < C.count
  · have c1:=hC.at r i (by omega) hi
    have hb:=hf.byt r i
    have HZ:=hide hz
    clear hz
    have h3:(r:Int) < C.count:=by omega
    have h6:(r:Int) < 8:=by omega
    by_cases h0:C.m r i=0
    · rw [h0] at c1
      go_wp2
      go_roundw
      case rel=>exact ⟨r+1,by go_num,by omega,by omega,fun k a b=>by
       by_cases e:k=r
       · rw [e];exact h0
       · exact HZ.out k a (by omega),rfl⟩
      case measure=>simp [intOf];omega
    · have h7:((C.m r i:Nat):Int)≠0:=by omega
      have hs:=spareAt_first r1 h4 h0 HZ.out
      have HS:=hide hs
      clear hs h0
      go_wp2
      refine bodyPost_ret (v:=.tuple #[.int .i64 (r:Int),.bool true]) (by simp [results,Tryz.results159]) rfl ?_
      rw [HS.out]
      exact ⟨rfl,rfl⟩
  · have h3:¬ (r:Int) < C.count:=by omega
    have hs:=spareAt_never (C:=C) (i:=i) (fun k a b=>hz k a (by omega))
    have HS:=hide hs
    clear hs hz
    go_wp2
    refine bodyPost_ret (v:=.tuple #[.int .i64 0,.bool false]) (by simp [results,Tryz.results159]) rfl ?_
    rw [HS.out]
    exact ⟨rfl,rfl⟩
def RdR (C:Ck) (i:Nat) (wo:World) (v:Value) (wr:World):Prop:=∃ r:Nat,v=.int .i64 r∧r≤C.told∧(∀ k,k < r→C.m k i=0)∧wr=wo
theorem reads_any (b i:Nat) (C:Ck) (w:World) (hC:CkAt w b C) (hf:CkFit C) (hi:i < 16) :
 Calls Tryz.prog 163 #[.pointer (some ⟨b,0,none⟩),.int .i64 i] w fun e w'=>e=.returned (.bool (readsB C i))∧w'=w:=by
 have ct:=hC.toldC
 have h1:=hf.le
 have h2:=hf.most
 have h5:(i:Int) < 16:=by omega
 go_enter Tryz.func163,Tryz.ntmps163
 go_wp2
 go_loopw [10] (fun v wr=>RdR C i w v wr) (fun v _=>C.told - (intOf v).toNat)
 case atStart=>exact ⟨0,rfl,Nat.zero_le _,fun k h=>absurd h (by omega),rfl⟩
 case round=>
  obtain ⟨r,rfl,r2,hz,rfl⟩:=hrel
  by_cases h4:r < C.told
  · have c1:=hC.at r i (by omega) hi
    have hb:=hf.byt r i
    have HZ:=hide hz
    clear hz
    have h3:(r:Int) < C.told:=by omega
    have h6:(r:Int) < 8:=by omega
    by_cases h0:C.m r i=0
    · rw [h0] at c1
      go_wp2
      go_roundw
      case rel=>exact ⟨r+1,by go_num,by omega,fun k b=>by
       by_cases e:k=r
       · rw [e];exact h0
       · exact HZ.out k (by omega),rfl⟩
      case measure=>simp [intOf];omega
    · have h7:((C.m r i:Nat):Int)≠0:=by omega
      have hs:=readsB_true h4 h0
      have HS:=hide hs
      clear hs h0
      go_wp2
      go_ret
      rw [HS.out]
      exact ⟨rfl,rfl⟩
  · have h3:¬ (r:Int) < C.told:=by omega
    have hs:=(readsB_false (C:=C) (i:=i)).2 (fun k a=>hz k (by omega))
    have HS:=hide hs
    clear hs hz
    go_wp2
    go_ret
    rw [HS.out]
    exact ⟨rfl,rfl⟩
def offC (C:Ck) (k r i:Nat):Ck:=⟨offF C.m k r i,C.told,C.count⟩
theorem offF_zero (m:Nat→Nat→Nat) (r i:Nat):offF m 0 r i=m:=by funext k j;unfold offF;rw [if_neg (by omega)]
theorem offF_self (m:Nat→Nat→Nat) (k r i:Nat):offF m k r i r=m r:=off_not (by omega)
theorem offF_next (m:Nat→Nat→Nat) (k r i:Nat):offF m k r i k=m k:=off_not (by omega)
theorem offF_skip (m:Nat→Nat→Nat) (r i:Nat):offF m (r+1) r i=offF m r r i:=by
 funext k j;unfold offF
 by_cases h:k < r∧k≠r
 · rw [if_pos h,if_pos (by omega)]
 · rw [if_neg h,if_neg (by omega)]
theorem off_step (C:Ck) (k r i:Nat) (hk:k≠r) (h0:k < 8) (x:Nat) :
 mid (ckV (offC C k r i)) (fun x=>offF C.m k r i (x / 16) (x % 16)) (fun j=>C.m r j) (gm (C.m k i) (gi (C.m r i))) (k*16) 16 x=ckV (offC C (k+1) r i) x:=by
 unfold mid
 by_cases h:k*16≤x∧x < k*16+16
 · rw [if_pos h]
   have e1:x / 16=k:=by omega
   have e2:x - k*16=x % 16:=by omega
   unfold ckV
   rw [if_pos (by omega)]
   show Value.int .u8 ((offF C.m k r i (x / 16) (x % 16)^^^gm _ (C.m r (x - k*16)):Nat):Int)=.int .u8 ((offF C.m (k+1) r i (x / 16) (x % 16):Nat):Int)
   rw [e1,e2,offF_next]
   have:offF C.m (k+1) r i k (x % 16)=C.m k (x % 16)^^^gm (gm (C.m k i) (gi (C.m r i))) (C.m r (x % 16)):=by unfold offF;rw [if_pos ⟨by omega,hk⟩]
   rw [this]
 · rw [if_neg h]
   unfold ckV
   by_cases h1:x < 128
   · rw [if_pos h1,if_pos h1]
     have:offF C.m k r i (x / 16) (x % 16)=offF C.m (k+1) r i (x / 16) (x % 16):=by
      unfold offF
      by_cases h2:x / 16 < k∧x / 16≠r
      · rw [if_pos h2,if_pos (by omega)]
      · rw [if_neg h2,if_neg (by omega)]
     show Value.int .u8 ((offF C.m k r i (x / 16) (x % 16):Nat):Int)=.int .u8 ((offF C.m (k+1) r i (x / 16) (x % 16):Nat):Int)
     rw [this]
   · rw [if_neg h1,if_neg h1];rfl
def OfR (w:World) (b r i:Nat) (C:Ck) (v:Value) (wr:World):Prop:=
 ∃ k:Nat,v=.int .i64 k∧k≤C.count∧CkAt wr b (offC C k r i)∧w.grownBy wr (some b)
theorem row_slice (w:World) (b o:Nat):(Instr.sliceAt 255 (.pointer (some ⟨b,o,none⟩)) none none none).run Tryz.prog w=.ok (.slice (some ⟨b,o,none⟩) 16 16) w:=by
 go_simp
theorem ckOff_any (b r i:Nat) (C:Ck) (w:World) (hC:CkAt w b C) (hf:CkFit C) (hr:r < 8) (hi:i < 16) :
 Calls Tryz.prog 161 #[.pointer (some ⟨b,0,none⟩),.int .i64 r,.int .i64 i] w fun e w'=>e=.returned (.tuple #[])∧CkAt w' b (offC C C.count r i)∧w.grownBy w' (some b):=by
 have cc:=hC.countC
 have c0:=hC.at r i hr hi
 have h2:=hf.most
 have hy:=hf.byt r i
 have k5:(i:Int) < 16:=by omega
 have k6:(r:Int) < 8:=by omega
 have H0:=hide (show CkAt w b (offC C 0 r i) by unfold offC;rw [offF_zero];exact hC)
 clear hC
 go_enter Tryz.func161,Tryz.ntmps161
 go_wp2_with fail
 refine (inv_any (C.m r i) hy _).mono ?_
 rintro e w1 ⟨rfl,hw⟩
 have hh:=hw.symm
 subst hh
 go_wp2
 go_loopw [21] (fun v wr=>OfR w b r i C v wr) (fun v _=>C.count - (intOf v).toNat)
 case atStart=>exact ⟨0,rfl,Nat.zero_le _,H0.out,World.grownBy.refl _ _⟩
 case round=>
  clear cc c0 H0
  rename World=>wo
  obtain ⟨k,rfl,hk,h0,h5⟩:=hrel
  by_cases k7:k < C.count
  · have h6:(k:Int) < C.count:=by omega
    by_cases h4:k=r
    · have h7:(k:Int)=(r:Int):=by omega
      have HK:=hide h4
      have HN:Hid (CkAt wo b (offC C (k+1) r i)):=hide (by unfold offC at *;rw [h4] at h0 ⊢;rw [offF_skip];exact h0)
      clear h4 h0
      go_wp2
      go_roundw
      case rel=>exact ⟨k+1,by go_num,by omega,HN.out,h5⟩
      case measure=>simp [intOf];omega
    · have h7:(k:Int)≠(r:Int):=by omega
      have k8:(k:Int) < 8:=by omega
      have c1:=h0.at k i (by omega) hi
      have e1:(offC C k r i).m k i=C.m k i:=by show offF C.m k r i k i=_;rw [offF_next]
      rw [e1] at c1
      have hx:=hf.byt k i
      have ha:∀ j,j < 16→wo.cell? ⟨b,r*16+j,none⟩=some (.int .u8 ((C.m r j:Nat):Int)):=fun j hj=>by
       have:=h0.at r j hr hj
       have e2:(offC C k r i).m r j=C.m r j:=by show offF C.m k r i r j=_;rw [offF_self]
       rwa [e2] at this
      have hm:gm (C.m k i) (gi (C.m r i)) < 256:=gm_lt _ hx
      have hc:=off_step C k r i h4 (by omega)
      have hn:∀ x,offF C.m k r i (x / 16) (x % 16) < 256:=fun x=>off_byte hf.byt _ _
      have hp:=hide ha
      have hq:=hide hc
      have hs:=hide h0
      clear ha hc e1 h0
      have h8:=fun w=>row_slice w b (k*16)
      have h9:=fun w=>row_slice w b (r*16)
      go_wp2
      go_region_with (first
       | (go_at_call 123;refine (mul_any (C.m k i) (gi (C.m r i)) hx (gi_lt hy) _).mono ?_;rintro e w' ⟨rfl,rfl⟩)
       | (go_at_call 111;refine (addTimes_mid b 273 130 (k*16) 16 16 b (r*16) 16 (gm (C.m k i) (gi (C.m r i))) (ckV (offC C k r i)) (fun x=>offF C.m k r i (x / 16) (x % 16)) (fun j=>C.m r j) _ hm (by exact hs.out) (fun j h1 h2=>by unfold ckV;rw [if_pos (by omega)];rfl) hn (fun j=>hf.byt r j) (by omega) (by omega) (by exact hp.out) (.inr (by omega))).mono ?_;rintro e w' ⟨rfl,he,h3⟩))
      all_goals
       have hz:CkAt w' b (offC C (k+1) r i):=he.congr (fun x _=>hq.out x)
       have k0:w.grownBy w' (some b):=grown_trans h5 ⟨h3.os,h3.tape,h3.output,h3.size,h3.block⟩
       clear he h3 h8 h9
       go_wp2
       go_roundw
       case rel=>exact ⟨k+1,by go_num,by omega,hz,k0⟩
       case measure=>simp [intOf];omega
  · have hg:k=C.count:=by omega
    rw [hg] at h0
    have h6:¬ (k:Int) < C.count:=by omega
    clear hg
    go_wp2
    go_end0
    exact ⟨rfl,h0,h5⟩
def scTo (m:Nat→Nat→Nat) (r i j:Nat):Nat→Nat→Nat:=fun k x=>if k=r∧x < j then gm (m r x) (gi (m r i)) else m k x
def scC (C:Ck) (r i j:Nat):Ck:=⟨scTo C.m r i j,C.told,C.count⟩
theorem scTo_zero (m:Nat→Nat→Nat) (r i:Nat):scTo m r i 0=m:=by funext k x;unfold scTo;rw [if_neg (by omega)]
theorem sc_step (C:Ck) (r i j:Nat) (hr:r < 8) (hj:j < 16) (x:Nat):ckV (scC C r i (j+1)) x=if x=r*16+j then .int .u8 ((gm (C.m r j) (gi (C.m r i)):Nat):Int) else ckV (scC C r i j) x:=by
 unfold ckV
 by_cases h:x=r*16+j
 · rw [if_pos h,if_pos (by omega)]
   show Value.int .u8 ((scTo C.m r i (j+1) (x / 16) (x % 16):Nat):Int)=_
   unfold scTo
   rw [if_pos (by omega),show x % 16=j by omega]
 · rw [if_neg h]
   by_cases h1:x < 128
   · rw [if_pos h1,if_pos h1]
     have:scTo C.m r i (j+1) (x / 16) (x % 16)=scTo C.m r i j (x / 16) (x % 16):=by
      unfold scTo
      by_cases h2:x / 16=r∧x % 16 < j
      · rw [if_pos h2,if_pos (by omega)]
      · rw [if_neg h2,if_neg (by omega)]
     show Value.int .u8 ((scTo C.m r i (j+1) (x / 16) (x % 16):Nat):Int)=.int .u8 ((scTo C.m r i j (x / 16) (x % 16):Nat):Int)
     rw [this]
   · rw [if_neg h1,if_neg h1];rfl
theorem sc_end (C:Ck) (r i x:Nat):ckV (scC C r i 16) x=ckV ⟨scaleF C.m r i,C.told,C.count⟩ x:=by
 unfold ckV
 by_cases h1:x < 128
 · rw [if_pos h1,if_pos h1]
   have:scTo C.m r i 16 (x / 16) (x % 16)=scaleF C.m r i (x / 16) (x % 16):=by
    unfold scTo scaleF
    by_cases h2:x / 16=r
    · rw [if_pos h2,if_pos (by omega)]
    · rw [if_neg h2,if_neg (by omega)]
   show Value.int .u8 ((scTo C.m r i 16 (x / 16) (x % 16):Nat):Int)=.int .u8 ((scaleF C.m r i (x / 16) (x % 16):Nat):Int)
   rw [this]
 · rw [if_neg h1,if_neg h1];rfl
theorem index_row (cs:List Value) (k:Nat) (v:Value) (hk:k < 16) (hv:cs[k]?=some v) (w:World):(Instr.index 255 (.agg cs.toArray) (.int .i64 (k:Int))).run Tryz.prog w=.ok v w:=by
 simp [Instr.index,run_underlying Tryz.underlying255,asIntOf,go_sem,part]
 rw [if_pos hk,hv];rfl
def rowL (f:Nat→Nat):List Value:=(List.range 16).map (fun j=>Value.int .u8 ((f j:Nat):Int))
theorem rowL_len (f:Nat→Nat):(rowL f).length=16:=by unfold rowL;rw [List.length_map,List.length_range]
theorem rowL_at (f:Nat→Nat) (j:Nat) (hj:j < 16):(rowL f)[j]?=some (.int .u8 ((f j:Nat):Int)):=by
 unfold rowL;rw [List.getElem?_map,List.getElem?_range hj];rfl
theorem rowL_range (h:CkAt w b C) (r:Nat) (hr:r < 8):w.rangeAt b (r*16) (rowL (C.m r)):=fun j v hv=>by
 have hj:j < 16:=by
  have:=(List.getElem?_eq_some_iff.1 hv).1
  rwa [rowL_len] at this
 rw [rowL_at _ _ hj] at hv
 rw [← hv];exact h.at r j hr hj
theorem Tryz.sizeArr16 (f:Nat→Nat):(Tryz.prog.info? 255).map (fun i=>i.size)=some (rowL f).length:=by rw [rowL_len];exact Tryz.infoArr16
def ScR (w:World) (b r i:Nat) (C:Ck) (v:Value) (wr:World):Prop:=
 ∃ k:Nat,v=.int .i64 k∧k≤16∧CkAt wr b (scC C r i k)∧w.grownBy wr (some b)
theorem ckScale_any (b r i:Nat) (C:Ck) (w:World) (hC:CkAt w b C) (hf:CkFit C) (hr:r < 8) (hi:i < 16) :
 Calls Tryz.prog 160 #[.pointer (some ⟨b,0,none⟩),.int .i64 r,.int .i64 i] w fun e w'=>e=.returned (.tuple #[])∧CkAt w' b ⟨scaleF C.m r i,C.told,C.count⟩∧w.grownBy w' (some b):=by
 have c0:=hC.at r i hr hi
 have hy:=hf.byt r i
 have h9:(i:Int) < 16:=by omega
 have hc:(r:Int) < 8:=by omega
 have H0:=hide (show CkAt w b (scC C r i 0) by unfold scC;rw [scTo_zero];exact hC)
 have HG:=hide (rowL_range hC r hr)
 have HA:Hid (∀ j,j < 16→(rowL (C.m r))[j]?=some (.int .u8 ((C.m r j:Nat):Int))):=hide (rowL_at (C.m r))
 have HL:=hide (rowL_len (C.m r))
 have HS:=hide (Tryz.sizeArr16 (C.m r))
 generalize rowL (C.m r)=cs at *
 clear hC
 go_enter Tryz.func160,Tryz.ntmps160
 go_wp2_with fail
 refine (inv_any (C.m r i) hy _).mono ?_
 rintro e w1 ⟨rfl,hw⟩
 have h8:=hw.symm
 subst h8
 go_wp2_with (refine wpList_load_mid rfl 255 (.tmp 22) rfl b (r*16) rfl cs _ HG.out Tryz.underlying255 rfl HS.out ?_)
 go_loopw [24] (fun v wr=>ScR w b r i C v wr) (fun v _=>16 - (intOf v).toNat)
 case atStart=>exact ⟨0,rfl,Nat.zero_le _,H0.out,World.grownBy.refl _ _⟩
 case round=>
  clear c0 H0 HG
  rename World=>wo
  obtain ⟨k,rfl,hk,h0,h2⟩:=hrel
  by_cases h1:k < 16
  · have h3:(k:Int) < 16:=by omega
    have ha:=HA.out k h1
    have hl:=HL.out
    have c1:=h0.at r k hr h1
    have f1:=h0.frozen (r*16+k)
    have hx:=hf.byt r k
    have h5:CkAt (wo.setCell ⟨b,r*16+k,none⟩ (.int .u8 ((gm (C.m r k) (gi (C.m r i)):Nat):Int))) b (scC C r i (k+1)):=
     (h0.set (r*16+k) (.int .u8 ((gm (C.m r k) (gi (C.m r i)):Nat):Int))).congr (fun x _=>(sc_step C r i k hr h1 x).symm)
    have h6:=grown_set h2 (r*16+k) (.int .u8 ((gm (C.m r k) (gi (C.m r i)):Nat):Int))
    have HH:=hide2 h5 h6
    clear h5 h6 h0 h2
    generalize (scC C r i k).m r k=z at c1
    have h4:=index_row cs k _ h1 ha
    clear ha hl
    go_wp2
    go_region_with ((go_at_call 123;refine (mul_any (C.m r k) (gi (C.m r i)) hx (gi_lt hy) _).mono ?_;rintro e w' ⟨rfl,rfl⟩))
    all_goals
     clear h4
     go_wp2
     go_roundw
     case rel=>exact ⟨k+1,by go_num,by omega,HH.out.1,⟨HH.out.2.os,HH.out.2.tape,HH.out.2.output,HH.out.2.size,HH.out.2.block⟩⟩
     case measure=>simp [intOf];omega
  · have h7:k=16:=by omega
    rw [h7] at h0
    have h3:¬ (k:Int) < 16:=by omega
    clear h7
    go_wp2
    go_end0
    exact ⟨rfl,h0.congr (fun x _=>sc_end C r i x),h2⟩
theorem ck_setCells {t:Nat}:∀ (vs:List Value) (o:Nat) (w:World) (f:Nat→Value),w.rowIs b t n f→(w.setCells b o vs).rowIs b t n (fun x=>if o≤x∧x < o+vs.length then vs.getD (x - o) undef else f x)
 | [],o,w,f,h=>h.congr (fun i _=>by rw [if_neg (by simp)])
 | v :: vs,o,w,f,h=>(ck_setCells vs (o+1) _ _ (h.set o v)).congr (fun i _=>by
  by_cases h1:i=o
  · subst h1
    rw [if_neg (by omega),if_pos rfl,if_pos (by simp)]
    simp
  · by_cases h2:o+1≤i∧i < o+1+vs.length
    · rw [if_pos h2,if_pos (by simp;omega),show i - o=(i - (o+1))+1 by omega]
      simp
    · rw [if_neg h2,if_neg h1,if_neg (by simp;omega)])
theorem ck_grown:∀ (vs:List Value) (o:Nat) (w w':World),w.grownBy w' (some b)→w.grownBy (w'.setCells b o vs) (some b)
 | [],_,_,_,h=>h
 | v :: vs,o,w,_,h=>ck_grown vs (o+1) w _ (grown_set h o v)
def putF (m:Nat→Nat→Nat) (q:Nat) (f:Nat→Nat):Nat→Nat→Nat:=fun k=>if k=q then f else m k
theorem put_row (h:CkAt w b C) (q:Nat) (hq:q < 8) (f:Nat→Nat):CkAt (w.setCells b (q*16) (rowL f)) b ⟨putF C.m q f,C.told,C.count⟩:=by
 refine (ck_setCells (rowL f) (q*16) w (ckV C) h).congr (fun x _=>?_)
 rw [rowL_len]
 unfold ckV
 by_cases h1:q*16≤x∧x < q*16+16
 · rw [if_pos h1,if_pos (by omega)]
   show (rowL f).getD (x - q*16) undef=.int .u8 ((putF C.m q f (x / 16) (x % 16):Nat):Int)
   have e:x / 16=q:=by omega
   unfold putF
   rw [if_pos e,List.getD_eq_getElem?_getD,rowL_at _ _ (by omega),show x - q*16=x % 16 by omega]
   rfl
 · rw [if_neg h1]
   by_cases h2:x < 128
   · rw [if_pos h2,if_pos h2]
     show _=Value.int .u8 ((putF C.m q f (x / 16) (x % 16):Nat):Int)
     unfold putF
     rw [if_neg (by omega)]
   · rw [if_neg h2,if_neg h2]
theorem rowL_one (f:Nat→Nat):(rowL f).toArray.all (fun v=>v.oneCell')=true:=by
 rw [Array.all_eq_true]
 intro i hi
 have h0:i < 16:=by simpa [rowL_len] using hi
 have:=rowL_at f i h0
 have e:(rowL f).toArray[i]?=some (.int .u8 ((f i:Nat):Int)):=by simpa using this
 rw [Array.getElem?_eq_getElem hi] at e
 simp only [Option.some.injEq] at e
 rw [e];rfl
theorem ck_there (h:CkAt w b C) (q:Nat) (hq:q < 8):w.there b (q*16) 16:=fun j hj=>⟨by rw [h.at q j hq hj];rfl,h.frozen _⟩
theorem count_set (h:CkAt w b C) (n:Nat):CkAt (w.setCell ⟨b,129,none⟩ (.int .i64 (n:Int))) b ⟨C.m,C.told,n⟩:=
 (h.set 129 (.int .i64 (n:Int))).congr (fun x hx=>by
  unfold ckV
  by_cases e:x=129
  · subst e;rw [if_pos rfl,if_neg (by decide),if_neg (by decide)]
  · rw [if_neg e]
    by_cases h2:x < 128
    · rw [if_pos h2,if_pos h2]
    · rw [if_neg h2,if_neg h2]
      by_cases h3:x=128
      · rw [if_pos h3,if_pos h3]
      · omega)
theorem told_set (h:CkAt w b C) (n:Nat):CkAt (w.setCell ⟨b,128,none⟩ (.int .i64 (n:Int))) b ⟨C.m,n,C.count⟩:=
 (h.set 128 (.int .i64 (n:Int))).congr (fun x hx=>by
  unfold ckV
  by_cases e:x=128
  · subst e;rw [if_pos rfl,if_neg (by decide),if_pos rfl]
  · rw [if_neg e]
    by_cases h2:x < 128
    · rw [if_pos h2,if_pos h2]
    · rw [if_neg h2,if_neg h2,if_neg e,if_neg e])
end Go.Proofs.YthcgahldacpolaaGreatDoor
