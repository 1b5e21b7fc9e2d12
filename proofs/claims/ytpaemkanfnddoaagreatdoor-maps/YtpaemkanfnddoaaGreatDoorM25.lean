import Derived.Test.YtpaemkanfnddoaaGreatDoorM24
set_option maxRecDepth 100000
set_option maxHeartbeats 8000000
namespace Go.Proofs.YtpaemkanfnddoaaGreatDoor
open Go.RowKit
variable {a a' : Act} {ops : Array Oper} {b : Bool} {Q : Exit → Act → World → Prop} {sh : List (Op × Option Nat × Option (Nat × Bool) × List Nat)} {l : List Nat} {D lo hi j d : Nat} {S : Nat → Prop} {o : Oper} {P : Program} {v : Value} {w w' : World}
section
open Go.Shelf Go.Deep Gf
def pageB (D : Nat) (P l : List Nat) (k : Nat) : List Nat := be (P.getD (k + 1) 0) 4 ++ (l.drop (k * (D * 44 - 4))).take (D * 44 - 4)
def Arr.pagesTo (A : Arr) (D L G : Nat) (P l : List Nat) : Nat → Arr
 | 0 => A
 | k + 1 => (Arr.pagesTo A D L G P l k).putAt (List.range A.n) (P.getD k 0) (fun i => (Rec.shard ((stripeL D L G (pageB D P l k)).getD i [])).blk)
theorem pagesTo_n (A : Arr) (D L G : Nat) (P l : List Nat) : ∀ k, (A.pagesTo D L G P l k).n = A.n ∧ (A.pagesTo D L G P l k).nb = A.nb ∧ (A.pagesTo D L G P l k).wait = A.wait ∧ (A.pagesTo D L G P l k).lost = A.lost
 | 0 => ⟨rfl, rfl, rfl, rfl⟩
 | k + 1 => pagesTo_n A D L G P l k
theorem pagesTo_fit {A : Arr} (h : A.fit) {D L G : Nat} (hD : D ≤ 12) (hG : G ≤ 4) (hn : A.n = D + L + G) (P l : List Nat) : ∀ k, (A.pagesTo D L G P l k).fit
 | 0 => h
 | k + 1 => (pagesTo_fit h hD hG hn P l k).putAt _ _ _ fun i hi => by
  rw [List.mem_range, hn] at hi
  have h0 : i < (stripeL D L G (pageB D P l k)).length := by rw [stripeL_len]; exact hi
  have e : (stripeL D L G (pageB D P l k)).getD i [] = (stripeL D L G (pageB D P l k))[i] := by simp [h0]
  have h1 : (Rec.shard ((stripeL D L G (pageB D P l k)).getD i [])).ok := by rw [e]; exact stripeL_row hD hG _ i h0
  exact ⟨blk_len h1, blk_lt h1⟩
theorem pageB_len (h0 : 1 ≤ D) (P l : List Nat) (k : Nat) : (pageB D P l k).length ≤ D * 44 := by
 unfold pageB
 rw [List.length_append, be_len, List.length_take]
 omega
theorem pageB_lt (hl : ∀ x ∈ l, x < 256) (P : List Nat) (k : Nat) : ∀ x ∈ pageB D P l k, x < 256 := by
 intro x hx
 unfold pageB at hx
 rw [List.mem_append] at hx
 rcases hx with hx | hx
 · exact be_lt _ _ x hx
 · exact hl x (List.mem_of_mem_drop (List.mem_of_mem_take hx))
theorem own_outside {base n : Nat} {e : TypeId} {size : Nat} {xs : List Value} (h : w.ownsRow base e size v n xs) (hO : Outside S w w') (hS : ∀ k, S k → k < base) : w'.ownsRow base e size v n xs := by
 refine ⟨h.1, ?_⟩
 rcases h.2 with h0 | ⟨g, cap, cur, e1, e2, e3, r⟩
 · exact .inl h0
 · exact .inr ⟨g, cap, cur, e1, e2, (hO.block g (Array.getElem?_eq_some_iff.1 e3).1 (fun q => by have := hS g q; omega)).trans e3, r⟩
theorem KpS.of_outside (h : Outside S w w') : KpS (fun k => ¬ S k) w w' := ⟨h.size, fun k hk hn => h.block k hk hn⟩
theorem ints_at {K : Nat → Prop} (h : Ints K w v l) (hl : l ≠ []) : ∃ b off c, v = .slice (some ⟨b, off, none⟩) l.length c ∧ ∀ i (hi : i < l.length), w.cell? ⟨b, off + i, none⟩ = some (.int .i64 ((l[i] : Nat) : Int)) := by
 obtain ⟨ao, c, rfl, _, h3⟩ := h
 obtain ⟨b, off, rfl, _, _, h4⟩ := h3 hl
 exact ⟨b, off, c, rfl, h4⟩
theorem Tryz.infoByteP : (Tryz.prog.info? 5).map (fun i => (i.zero, i.size, i.bytes)) = some (some (.int .u8 0), 1, 1) := by kernel_rfl
theorem writePages_any {ar v p L G ps ho D' L' G' t f nn : Nat} {pg ob : Value} {off : Bool} {A : Arr} {F : Foot} (hA : ArcAt w ar v D' L' G' t f nn pg ob off) (hV : Vol w v p D L G ps ho A F) (hF : Free F p A.n v) (qc : ¬ F.has p A.n ar) (hf : A.fit) (hn : A.n = D + L + G) (hr : rightB D L G = true) (kc : 1 ≤ D) (hD : D ≤ 12) (hL : 1 ≤ L) (qd : L ≤ 4) (hG : G ≤ 4) (kf : D % L = 0) (qe : D + L + G ≤ 16)
 (hw : A.wait < 0) (k0 : ∀ i, A.lost i = false) (g cap base : Nat) (l : List Nat) (h5 : w.ownsRow base 5 1 (.slice (some ⟨g, 0, none⟩) l.length cap) l.length (bts l)) (qf : ∀ x ∈ l, x < 256) (x1 : l.length ≤ 1000000) (k5 : ∀ k, F.has p A.n k → k < base)
 (vp : Value) (P : List Nat) (hP : Ints (fun k => ¬ F.has p A.n k) w vp P) (ko : ∀ x ∈ P, x < A.nb) (qg : ∀ k, k < P.length → k * (D * 44 - 4) ≤ l.length) :
 Calls Tryz.prog 105 #[.pointer (some ⟨ar, 0, none⟩), .slice (some ⟨g, 0, none⟩) l.length cap, vp] w fun e w' => e = .returned .nilIface ∧ ArrAt w' p (A.pagesTo D L G P l P.length) F ∧ Outside (F.has p A.n) w w' := by
 obtain ⟨i0, kp, kr, kv, kx⟩ := info_parts Tryz.infoByteP
 obtain ⟨pa, pc, rfl, ky, _⟩ := id hP
 have kg := pageSize_any hA hV.vol kc (by omega)
 obtain ⟨sz, kh⟩ : ∃ sz, D * 44 - 4 = sz := ⟨_, rfl⟩
 have qh : 40 ≤ sz ∧ sz ≤ 524 := by omega
 rw [kh] at kg
 have x2 := hf.nb
 have H0 := hide4 hA hV h5 hP
 clear hA hV h5 hP
 go_enter Tryz.func105, Tryz.ntmps105
 go_wp2_with fail
 refine kg.mono ?_
 rintro e w1 ⟨rfl, rfl⟩
 clear kg
 go_wp2
 go_loopw [17] (fun i wr => ∃ k : Nat, i = .int .i64 (k : Nat) ∧ k ≤ P.length ∧ ArrAt wr p (A.pagesTo D L G P l k) F ∧ Outside (F.has p A.n) w1 wr) (fun i _ => P.length - (intOf i).toNat)
 case atStart => exact ⟨0, rfl, Nat.zero_le _, H0.out.2.1.arr, Outside.refl _ _⟩
 case round =>
  obtain ⟨k, rfl, hk, k6, hO⟩ := hrel
  by_cases hs : k < P.length
  · obtain ⟨hA, hV, h5, hP⟩ := H0.out
    have kz := hP.keep (KpS.of_outside hO)
    obtain ⟨b, bo, c', e1, ki⟩ := ints_at kz (fun e => by rw [e] at hs; simp at hs)
    simp only [Value.slice.injEq] at e1
    obtain ⟨rfl, _, rfl⟩ := e1
    have c1 := ki k hs
    obtain ⟨y, hy⟩ : ∃ y, P[k] = y := ⟨_, rfl⟩
    rw [hy] at c1
    have kj : y < A.nb := by rw [← hy]; exact ko _ (List.getElem_mem hs)
    obtain ⟨nx, hx⟩ : ∃ nx, P.getD (k + 1) 0 = nx := ⟨_, rfl⟩
    have kk : (k + 1 < P.length ∧ wr.cell? ⟨b, bo + (k + 1), none⟩ = some (.int .i64 (nx : Nat))) ∨ (¬ k + 1 < P.length ∧ nx = 0) := by
     by_cases h1 : k + 1 < P.length
     · have := ki (k + 1) h1
       have e : P.getD (k + 1) 0 = P[k + 1] := by simp [h1]
       rw [← e, hx] at this
       exact .inl ⟨h1, this⟩
     · exact .inr ⟨h1, by rw [← hx]; simp [show P.length ≤ k + 1 by omega]⟩
    have qi : nx < 1000001 := by
     rcases Nat.lt_or_ge (k + 1) P.length with h1 | h1
     · have e : P.getD (k + 1) 0 = P[k + 1] := by simp [h1]
       rw [← hx, e]; have := ko _ (List.getElem_mem h1); omega
     · rw [← hx]; simp [h1]
    have q0 := pagesTo_n A D L G P l k
    have q9 : Vol wr v p D L G ps ho (A.pagesTo D L G P l k) F := hV.turn hF hO k6
    have hg := own_outside h5 hO k5
    have km := hA.keep (hO.block _ hA.lt qc)
    obtain ⟨ca, _⟩ := km.cells
    have H1 := hide8 k6 hO q9 hg q0 km hx hy
    clear k6 hO q9 hg q0 km hx hy ki kz hA hV h5 hP
    have kn := qg k hs
    rw [kh] at kn
    have qj : l.length ≤ cap := by
     rcases H1.out.2.2.2.1.2 with ⟨e, _⟩ | ⟨g', cap', cur, e, _, _, hc, _⟩
     · cases e
     · simp only [Value.slice.injEq] at e; omega
    have he : (k + 1) * sz = k * sz + sz := Nat.succ_mul k sz
    have qk : (k : Int) * (sz : Int) = ((k * sz : Nat) : Int) := by rw [Int.natCast_mul]
    have qm : ((k : Int) + 1) * (sz : Int) = (((k + 1) * sz : Nat) : Int) := by rw [Int.natCast_mul]; rfl
    obtain ⟨ks, kd⟩ : ∃ ks, k * sz = ks := ⟨_, rfl⟩
    obtain ⟨ks1, hm⟩ : ∃ ks1, (k + 1) * sz = ks1 := ⟨_, rfl⟩
    rw [kd] at qk he kn
    rw [hm] at qm he
    obtain ⟨bb, qa⟩ : ∃ bb, min ks1 l.length = bb := ⟨_, rfl⟩
    have x3 : ks ≤ bb := by omega
    have x4 : bb ≤ cap := by omega
    have hh : bb - ks ≤ 524 := by omega
    have hp : ((l.drop ks).take sz).length = bb - ks := by rw [List.length_take, List.length_drop]; omega
    have qn : ∀ ats ty w, (Builtin.min_ ats ty #[.int .i64 (ks1 : Nat), .int .i64 (l.length : Nat)]).run Tryz.prog w = .ok (.int .i64 (bb : Nat)) w := fun ats ty w => by
     rw [run_min_int]
     by_cases h1 : ((l.length : Nat) : Int) < ((ks1 : Nat) : Int)
     · rw [if_pos h1, show bb = l.length by omega]
     · rw [if_neg h1, show bb = ks1 by omega]
    have hi : ∀ W : World, W.ownsRow base 5 1 (.slice (some ⟨g, 0, none⟩) l.length cap) l.length (bts l) → Src Tryz.prog 1 31 (.slice (if cap = ks then some ⟨g, 0, none⟩ else some ⟨g, ks, none⟩) (bb - ks) (cap - ks)) (bb - ks) (bts ((l.drop ks).take sz)) W := fun W hW => by
     have qo : W.rangeAt g 0 (bts l) := fun j u hu => by have := hW.cells (g := g) rfl j u hu; rw [add0] at this; rw [Nat.zero_add]; exact this
     by_cases hz : cap = ks
     · have h0 : (l.drop ks).take sz = [] := List.eq_nil_of_length_eq_zero (by omega)
       rw [if_pos hz, h0, show bb - ks = 0 by omega]
       exact Src.ofSlice W Tryz.underlying31 ⟨g, 0, none⟩ 0 (cap - ks) (bts []) rfl (fun j u hu => by simp [bts] at hu) (fun u hu => by simp [bts] at hu)
     · rw [if_neg hz]
       have qb := range_take sz (range_drop ks qo)
       rw [Nat.zero_add] at qb
       exact Src.ofSlice W Tryz.underlying31 ⟨g, ks, none⟩ (bb - ks) (cap - ks) _ (by rw [bts_len, hp, Nat.mul_one]) (fun j u hu => by rw [Addr.add_mid]; exact qb j u hu) (fun u hu => by unfold bts at hu; rw [List.mem_map] at hu; obtain ⟨x, _, rfl⟩ := hu; rfl)
    have hj : ∀ (W : World) (u : Value), W.ownsRow wr.heap.size 5 1 u (0 + 4 + (bb - ks)) ([] ++ bts (be nx 4) ++ bts ((l.drop ks).take sz)) → Bs W u (pageB D P l k) := fun W u hu => by
     have e : [] ++ bts (be nx 4) ++ bts ((l.drop ks).take sz) = bts (pageB D P l k) := by
      unfold pageB
      rw [kh, kd, H1.out.2.2.2.2.2.2.1, bts_append, List.nil_append]
     rw [e] at hu
     exact Bs.of_owns hu (pageB_lt qf P k) (Nat.le_trans (pageB_len kc P l k) (by omega))
    have h6 : ∀ (W : World) (u : Value), Below wr.heap.size wr W → Bs W u (pageB D P l k) → Calls Tryz.prog 125 #[.pointer (some ⟨v, 0, none⟩), .int .i64 (y : Nat), u] W fun e w' => e = .returned .nilIface ∧ ArrAt w' p (A.pagesTo D L G P l (k + 1)) F ∧ Outside (F.has p A.n) w1 w' := fun W u hW hu => by
     obtain ⟨q1, q2, q3, q4, q5, q6, q7, q8⟩ := H1.out
     have qp := q3.below hW (Nat.le_refl _)
     have qq : Free F p (A.pagesTo D L G P l k).n v := by rw [q5.1]; exact hF
     have hc := writeStripe_ok qp qq (pagesTo_fit hf hD hG hn P l k) (by rw [q5.1]; exact hn) hr kc hD hL qd hG kf qe y (by rw [q5.2.1]; exact kj) (by rw [q5.2.2.1]; exact hw) (fun i => by rw [q5.2.2.2]; exact k0 i) u (pageB D P l k) hu (pageB_len kc P l k)
     rw [q5.1] at hc
     refine hc.mono ?_
     rintro e w' ⟨rfl, qs, qv⟩
     refine ⟨rfl, ?_, q2.trans ((Outside.of_all hW _).trans qv)⟩
     have ey : P.getD k 0 = y := by rw [← q8]; simp [hs]
     show ArrAt w' p ((A.pagesTo D L G P l k).putAt (List.range A.n) (P.getD k 0) (fun i => (Rec.shard ((stripeL D L G (pageB D P l k)).getD i [])).blk)) F
     rw [ey]; exact qs
    have ke := hide2 hj h6
    clear hj h6
    have HK := hide6 kd hm qa hp kn he
    have x5 : IntKind.u64.wrap (nx : Int) = (nx : Int) := by rw [IntKind.wrap_u64]; omega
    have qx : ks ≤ 1000000 ∧ ks1 ≤ 1000524 ∧ bb ≤ 1000000 := by omega
    clear kd hm qa hp he
    rcases kk with ⟨h1, c2⟩ | ⟨h1, qy⟩
    · have qz : (k : Int) + 1 < ((P.length : Nat) : Int) := by omega
      go_wp2_with fail
      refine (append_num wr.heap.size (.slice none 0 0) 0 [] nx 4 wr (World.ownsRow_nil _ _ _ _) (Nat.le_refl _) (by decide) (by decide)).mono ?_
      rintro e w2 ⟨v2, rfl, k7, h4, h7⟩
      have h3 : Below wr.heap.size wr w2 := ⟨h4.os, h4.tape, h4.output, h4.size, fun k hk => h4.block k hk (fun e => by simp [Value.ownBlock] at e)⟩
      have h2 := ownsRow_below H1.out.2.2.2.1 h3
      have h8 := H1.out.2.2.2.2.2.1.keep (h3.block _ H1.out.2.2.2.2.2.1.lt)
      obtain ⟨cb, _⟩ := h8.cells
      have h9 : Src Tryz.prog 1 31 (.slice (if cap = ks then some ⟨g, 0, none⟩ else some ⟨g, ks, none⟩) (bb - ks) (cap - ks)) (bb - ks) (bts ((l.drop ks).take sz)) w2 := hi w2 h2
      have H2 := hide5 k7 h3 h9 h2 h7
      clear k7 h4 h3 h9 h2 h7 h8
      go_wp2_with (
       at_builtin;
       refine wpList_append_from _ rfl (.tmp 35) (.tmp 47) 31 31 rfl wr.heap.size 5 i0 (.int .u8 0) 1 1 Tryz.underlying31 kp kr kv kx rfl v2 (0 + 4) ([] ++ bts (be nx 4)) (by rfl) (by exact H2.out.1) _ (by rfl) (bb - ks) (bts ((l.drop ks).take sz)) (by exact H2.out.2.2.1) (by unfold maxLen; omega) (by omega) (by exact H2.out.2.1.size) ?_;
       intro v3 w3 k8 k9 hq;
       have hh : Below wr.heap.size wr w3 := H2.out.2.1.grown k9 H2.out.2.1.size (fun k e => (H2.out.1.lt k e).1);
       have ha := H1.out.2.2.2.2.2.1.keep (hh.block _ H1.out.2.2.2.2.2.1.lt);
       obtain ⟨cc, _⟩ := ha.cells;
       have H3 := hide2 k8 hh;
       clear k8 hh k9 hq ha)
      all_goals
       refine (ke.out.2 w3 v3 H3.out.2 (ke.out.1 w3 v3 H3.out.1)).mono ?_
       rintro e w4 ⟨rfl, ka, kb⟩
       have H4 := hide2 ka kb
       clear ka kb
       go_wp2
       first
        | exact ⟨⟨k + 1, by go_num, by omega, H4.out.1, H4.out.2⟩, by simp only [intOf]; omega⟩
        | (have hz : cap = ks := by assumption
           subst hz
           go_roundw
           case rel => exact ⟨k + 1, by go_num, by omega, H4.out.1, H4.out.2⟩
           case measure =>
            show P.length - ((k : Int) + 1).toNat < P.length - ((k : Nat) : Int).toNat
            omega)
    · have qz : ¬ (k : Int) + 1 < ((P.length : Nat) : Int) := by omega
      subst qy
      go_wp2_with fail
      refine (append_num wr.heap.size (.slice none 0 0) 0 [] 0 4 wr (World.ownsRow_nil _ _ _ _) (Nat.le_refl _) (by decide) (by decide)).mono ?_
      rintro e w2 ⟨v2, rfl, k7, h4, h7⟩
      have h3 : Below wr.heap.size wr w2 := ⟨h4.os, h4.tape, h4.output, h4.size, fun k hk => h4.block k hk (fun e => by simp [Value.ownBlock] at e)⟩
      have h2 := ownsRow_below H1.out.2.2.2.1 h3
      have h8 := H1.out.2.2.2.2.2.1.keep (h3.block _ H1.out.2.2.2.2.2.1.lt)
      obtain ⟨cb, _⟩ := h8.cells
      have h9 : Src Tryz.prog 1 31 (.slice (if cap = ks then some ⟨g, 0, none⟩ else some ⟨g, ks, none⟩) (bb - ks) (cap - ks)) (bb - ks) (bts ((l.drop ks).take sz)) w2 := hi w2 h2
      have H2 := hide5 k7 h3 h9 h2 h7
      clear k7 h4 h3 h9 h2 h7 h8
      go_wp2_with (
       at_builtin;
       refine wpList_append_from _ rfl (.tmp 35) (.tmp 47) 31 31 rfl wr.heap.size 5 i0 (.int .u8 0) 1 1 Tryz.underlying31 kp kr kv kx rfl v2 (0 + 4) ([] ++ bts (be 0 4)) (by rfl) (by exact H2.out.1) _ (by rfl) (bb - ks) (bts ((l.drop ks).take sz)) (by exact H2.out.2.2.1) (by unfold maxLen; omega) (by omega) (by exact H2.out.2.1.size) ?_;
       intro v3 w3 k8 k9 hq;
       have hh : Below wr.heap.size wr w3 := H2.out.2.1.grown k9 H2.out.2.1.size (fun k e => (H2.out.1.lt k e).1);
       have ha := H1.out.2.2.2.2.2.1.keep (hh.block _ H1.out.2.2.2.2.2.1.lt);
       obtain ⟨cc, _⟩ := ha.cells;
       have H3 := hide2 k8 hh;
       clear k8 hh k9 hq ha)
      all_goals
       refine (ke.out.2 w3 v3 H3.out.2 (ke.out.1 w3 v3 H3.out.1)).mono ?_
       rintro e w4 ⟨rfl, ka, kb⟩
       have H4 := hide2 ka kb
       clear ka kb
       go_wp2
       first
        | exact ⟨⟨k + 1, by go_num, by omega, H4.out.1, H4.out.2⟩, by simp only [intOf]; omega⟩
        | (have hz : cap = ks := by assumption
           subst hz
           go_roundw
           case rel => exact ⟨k + 1, by go_num, by omega, H4.out.1, H4.out.2⟩
           case measure =>
            show P.length - ((k : Int) + 1).toNat < P.length - ((k : Nat) : Int).toNat
            omega)
  · have x0 : k = P.length := by omega
    subst x0
    have H1 := hide2 k6 hO
    clear k6 hO
    go_wp2
    go_ret
    exact ⟨rfl, H1.out.1, H1.out.2⟩
end
structure RegShapeG (ops : Array Oper) (lo hi : Nat) (sh : List (Op × Option Nat × Option (Nat × Bool) × List Nat)) : Prop where
 at_ : (List.range ops.size).map (fun i => ((ops[i]?.map fun o => (o.op, o.dst, o.guard)), depsOf ops i)) = sh.map (fun x => (some (x.1, x.2.1, x.2.2.1), x.2.2.2))
 early : ∀ i, i < sh.length → ∀ k ∈ (sh.getD i (.move (.const undef), none, none, [])).2.2.2, k < i
 slots : ∀ i j d, i < sh.length → j < sh.length → (sh.getD i (.move (.const undef), none, none, [])).2.1 = some d → (lo ≤ d ∧ d < hi) ∧ ((sh.getD j (.move (.const undef), none, none, [])).2.1 = some d → i = j)
def shOkG (lo hi : Nat) (sh : List (Op × Option Nat × Option (Nat × Bool) × List Nat)) : Bool := (List.range sh.length).all fun i => (sh.getD i (.move (.const undef), none, none, [])).2.2.2.all (fun k => decide (k < i)) && match (sh.getD i (.move (.const undef), none, none, [])).2.1 with
 | none => true
 | some d => decide (lo ≤ d) && decide (d < hi) && (List.range sh.length).all fun j => (sh.getD j (.move (.const undef), none, none, [])).2.1 != some d || i == j
theorem regShapeG (h1 : (List.range ops.size).map (fun i => ((ops[i]?.map fun o => (o.op, o.dst, o.guard)), depsOf ops i)) = sh.map (fun x => (some (x.1, x.2.1, x.2.2.1), x.2.2.2))) (h2 : shOkG lo hi sh = true) : RegShapeG ops lo hi sh := by
 unfold shOkG at h2
 rw [List.all_eq_true] at h2
 refine ⟨h1, fun i h0 k hk => ?_, fun i j d h0 hj hd => ?_⟩
 · have := h2 i (List.mem_range.2 h0)
   rw [Bool.and_eq_true_iff, List.all_eq_true] at this
   exact of_decide_eq_true (this.1 k hk)
 · have := (Bool.and_eq_true_iff.1 (h2 i (List.mem_range.2 h0))).2
   rw [hd] at this
   simp only [Bool.and_eq_true_iff, decide_eq_true_eq, List.all_eq_true] at this
   refine ⟨this.1, fun h3 => ?_⟩
   have q := this.2 j (List.mem_range.2 hj)
   rw [h3] at q
   simpa using q
theorem RegShapeG.size (h : RegShapeG ops lo hi sh) : ops.size = sh.length := by
 have := congrArg List.length h.at_
 simpa using this
theorem RegShapeG.get (h : RegShapeG ops lo hi sh) (i : Nat) (hi : i < sh.length) :
 ∃ o, ops[i]? = some o ∧ o.op = (sh.getD i (.move (.const undef), none, none, [])).1 ∧ o.dst = (sh.getD i (.move (.const undef), none, none, [])).2.1 ∧ o.guard = (sh.getD i (.move (.const undef), none, none, [])).2.2.1 ∧ depsOf ops i = (sh.getD i (.move (.const undef), none, none, [])).2.2.2 := by
 have hs := h.size
 have := congrArg (fun l => l[i]?) h.at_
 have h0 : i < ops.size := by omega
 simp only [List.getElem?_map, List.getElem?_range h0, Option.map_some, List.getElem?_eq_getElem hi, Option.some.injEq, Prod.mk.injEq, Option.map_eq_some_iff] at this
 obtain ⟨⟨o, h1, h2, h3, h4⟩, h5⟩ := this
 have e : sh.getD i (.move (.const undef), none, none, []) = sh[i] := by simp [hi]
 rw [e]
 exact ⟨o, h1, h2, h3, h4, h5⟩
abbrev shAtG (sh : List (Op × Option Nat × Option (Nat × Bool) × List Nat)) (i : Nat) : Op × Option Nat × Option (Nat × Bool) × List Nat := sh.getD i (.move (.const undef), none, none, [])
def ylG (sh : List (Op × Option Nat × Option (Nat × Bool) × List Nat)) (a : Act) (j : Nat) : Option Bool := match (shAtG sh j).2.1.bind (fun d => a.tmps[d]?) with
 | some (.bool b) => some b
 | _ => none
theorem ylG_at (hd : (shAtG sh j).2.1 = some d) (h : a.eval (.tmp d) = .bool b) : ylG sh a j = some b := by
 unfold ylG
 rw [hd]
 simp only [Option.bind_some]
 cases e : a.tmps[d]? with
 | none => simp [Act.eval, Array.getD_eq_getD_getElem?, e, undef] at h
 | some v =>
  have : v = .bool b := by simpa [Act.eval, Array.getD_eq_getD_getElem?, e] using h
  subst this; rfl
theorem wanted_free (h : o.guard = none) (f : Nat → Option Bool) : Region.wanted o f = true := by simp [Region.wanted, h]
theorem wanted_at {x : Bool} (hg : o.guard = some (j, x)) (hd : (shAtG sh j).2.1 = some d) (h : a.eval (.tmp d) = .bool b) : Region.wanted o (ylG sh a) = (b == x) := by
 simp only [Region.wanted, hg, ylG_at hd h]
 cases b <;> cases x <;> rfl
def StepOkG (P : Program) (Q : Exit → Act → World → Prop) (lo hi : Nat) (sh : List (Op × Option Nat × Option (Nat × Bool) × List Nat)) (a0 : Act) (V : Nat → Value → World → Prop) (B : (Nat → Bool) → World → Prop) (i : Nat) : Prop :=
 ∀ (o : Oper) (a : Act) (w : World) (D : Nat → Bool), o.guard = (shAtG sh i).2.2.1 → o.op = (shAtG sh i).1 → o.dst = (shAtG sh i).2.1 → Framed lo hi a0 a → D i = false → (∀ j, D j = true → j < sh.length ∧ ∀ k ∈ (shAtG sh j).2.2.2, D k = true) →
  (∀ k ∈ (shAtG sh i).2.2.2, D k = true) → B D w → (∀ j, D j = true → V j (slotD (shAtG sh j).2.1 a) w) →
  (Region.wanted o (ylG sh a) = true ∧ o.wp P a w (fun a' w' => ∃ v, a' = a.put o.dst v ∧ (o.dst = none → v = undef) ∧ B (upd D i) w' ∧ V i v w' ∧ ∀ j u, D j = true → V j u w → V j u w') Q) ∨
  (Region.wanted o (ylG sh a) = false ∧ B (upd D i) w ∧ V i undef w)
theorem RegShapeG.yl (h : RegShapeG ops lo hi sh) (a : Act) : yielded ops a.tmps = ylG sh a := by
 funext j
 unfold yielded ylG
 by_cases hj : j < sh.length
 · obtain ⟨o, h1, _, h3, _⟩ := h.get j hj
   rw [h1]
   simp only [Option.bind_some]
   rw [h3]
   rfl
 · have hs := h.size
   have e : ops[j]? = none := by simp; omega
   have e2 : shAtG sh j = (.move (.const undef), none, none, []) := by simp [shAtG, List.getD_eq_getElem?_getD, List.getElem?_eq_none (by omega : sh.length ≤ j)]
   rw [e, e2]
   rfl
theorem any_factsSG (h6 : RegShapeG ops lo hi sh) (a0 : Act) (hq : hi ≤ a0.tmps.size)
 (V : Nat → Value → World → Prop) (B : (Nat → Bool) → World → Prop) (ha : ∀ i, i < sh.length → StepOkG P Q lo hi sh a0 V B i)
 (hg : ∀ (a : Act) (w : World), Framed lo hi a0 a → (∀ s, (∀ i, i < sh.length → (shAtG sh i).2.1 ≠ some s) → a.eval (.tmp s) = a0.eval (.tmp s)) → (∃ D, (∀ i, i < sh.length → D i = true) ∧ B D w) → (∀ i, i < sh.length → V i (slotD (shAtG sh i).2.1 a) w) → Q .normal a w) :
 ∀ (f : Nat) (listed : Array Bool) (a : Act) (w : World), listed.size = sh.length → toCome listed = f → Framed lo hi a0 a → (∀ s, (∀ i, i < sh.length → (shAtG sh i).2.1 ≠ some s) → a.eval (.tmp s) = a0.eval (.tmp s)) → (∀ j, listed.getD j false = true → j < sh.length ∧ ∀ k ∈ (shAtG sh j).2.2.2, listed.getD k false = true) → B (fun j => listed.getD j false) w →
  (∀ i, listed.getD i false = true → V i (slotD (shAtG sh i).2.1 a) w) → wpAny P .any ops Q f listed a w := by
 have k7 := h6.size
 have h7 : ∀ listed : Array Bool, listed.size = sh.length → toCome listed ≠ 0 → Region.ready .any ops listed ≠ [] := by
  intro listed hl hc hr
  have hh : ∀ i, i < sh.length → listed.getD i false = true := by
   intro i
   induction i using Nat.strongRecOn with
   | ind i ih =>
    intro h0
    by_cases hd : listed.getD i false = true
    · exact hd
    · exfalso
      have hm : i ∈ Region.ready .any ops listed := ready_iff.2 ⟨by omega, by simpa [Array.getD_eq_getD_getElem?, show i < listed.size by omega] using hd, fun k hk => by
       obtain ⟨o, _, _, _, _, e⟩ := h6.get i h0
       rw [e] at hk
       have := h6.early i h0 k hk
       exact ih k this (by omega)⟩
      rw [hr] at hm
      cases hm
  apply hc
  unfold toCome
  rw [List.length_eq_zero_iff, List.filter_eq_nil_iff]
  intro b hb
  obtain ⟨i, h0, rfl⟩ := List.getElem_of_mem hb
  have hx : i < listed.size := by simpa using h0
  have := hh i (by omega)
  simp [Array.getD_eq_getD_getElem?, hx] at this
  simp [this]
 intro f
 induction f with
 | zero =>
  intro listed a w hl hc hk h4 hf hB hV
  refine ⟨?_, hg a w hk h4 ⟨_, fun i h0 => toCome_zero hc i (by omega), hB⟩ fun i h0 => hV i (toCome_zero hc i (by omega))⟩
  rw [List.eq_nil_iff_forall_not_mem]
  intro i hm
  obtain ⟨h1, h2, _⟩ := ready_iff.1 hm
  have := toCome_zero hc i (by omega)
  simp [Array.getD_eq_getD_getElem?, show i < listed.size by omega] at this h2
  rw [this] at h2
  cases h2
 | succ f ih =>
  intro listed a w hl hc hk h4 hf hB hV
  refine ⟨fun e => absurd e (h7 listed hl (by omega)), fun i hm => ?_⟩
  obtain ⟨h1, h2, h3⟩ := ready_iff.1 hm
  have h0 : i < sh.length := by omega
  have hn : i < listed.size := by omega
  obtain ⟨o, e1, e2, e3, e4, e5⟩ := h6.get i h0
  have hy : listed.getD i false = false := by simpa [Array.getD_eq_getD_getElem?, hn] using h2
  have h5 : ∀ j, (listed.setIfInBounds i true).getD j false = upd (fun j => listed.getD j false) i j := by
   intro j
   unfold upd
   by_cases ej : j = i
   · subst ej
     rw [if_pos rfl]
     simp [Array.getD_eq_getD_getElem?, hn]
   · rw [if_neg ej, Array.getD_eq_getD_getElem?, Array.getElem?_setIfInBounds, if_neg (fun q : i = j => ej q.symm), ← Array.getD_eq_getD_getElem?]
  have hp : ∀ a' w', (∃ v, a' = a.put o.dst v ∧ (o.dst = none → v = undef) ∧ B (upd (fun j => listed.getD j false) i) w' ∧ V i v w' ∧ ∀ j u, listed.getD j false = true → V j u w → V j u w') → wpAny P .any ops Q f (listed.setIfInBounds i true) a' w' := by
   intro a' w' h
   obtain ⟨v, rfl, hu, hz, k0, k5⟩ := h
   have he : ∀ d, o.dst = some d → lo ≤ d ∧ d < hi := fun d hd => by rw [e3] at hd; exact (h6.slots i i d h0 h0 hd).1
   refine ih _ _ _ (by simpa using hl) (by have := toCome_set h2; omega) (hk.put v he) (fun s hs => ?_) (fun j hj => ?_) ?_ fun j h8 => ?_
   · refine Eq.trans ?_ (h4 s hs)
     cases hd : o.dst with
     | none => rfl
     | some d => exact rf_other _ _ _ _ (fun e => hs i h0 (by rw [show (shAtG sh i).2.1 = o.dst from e3.symm, hd, e]))
   · rw [h5] at hj
     unfold upd at hj
     by_cases ej : j = i
     · subst ej
       refine ⟨h0, fun k h9 => ?_⟩
       rw [h5]; unfold upd
       by_cases ek : k = j
       · rw [if_pos ek]
       · rw [if_neg ek]; rw [← e5] at h9; exact h3 k h9
     · rw [if_neg ej] at hj
       obtain ⟨q1, q2⟩ := hf j hj
       refine ⟨q1, fun k h9 => ?_⟩
       rw [h5]; unfold upd
       by_cases ek : k = i
       · rw [if_pos ek]
       · rw [if_neg ek]; exact q2 k h9
   · have e : (fun j => (listed.setIfInBounds i true).getD j false) = upd (fun j => listed.getD j false) i := funext h5
     rw [e]; exact hz
   · rw [h5] at h8
     unfold upd at h8
     by_cases ej : j = i
     · subst ej
       have : slotD (shAtG sh j).2.1 (a.put o.dst v) = v := by
        show slotD (sh.getD j (.move (.const undef), none, none, [])).2.1 (a.put o.dst v) = v
        rw [← e3]
        cases hd : o.dst with
        | none => exact (hu hd).symm
        | some d => exact rf_same _ _ _ (Nat.lt_of_lt_of_le (he d hd).2 (by rw [hk.size]; exact hq))
       rw [this]; exact k0
     · rw [if_neg ej] at h8
       have : slotD (shAtG sh j).2.1 (a.put o.dst v) = slotD (shAtG sh j).2.1 a := by
        cases k6 : (shAtG sh j).2.1 with
        | none => rfl
        | some d' =>
         cases hd : o.dst with
         | none => rfl
         | some d =>
          refine rf_other _ _ _ _ fun q => ej ?_
          subst q
          rw [e3] at hd
          exact (h6.slots j i d (hf j h8).1 h0 k6).2 hd
       rw [this]
       exact k5 j _ h8 (hV j h8)
  unfold wpOp
  rw [e1]
  show if Region.wanted o (yielded ops a.tmps) = true then _ else _
  rw [h6.yl]
  rcases ha i h0 o a w (fun j => listed.getD j false) e4 e2 e3 hk hy hf (fun k h9 => h3 k (by rw [e5]; exact h9)) hB hV with ⟨q1, q2⟩ | ⟨q1, q2, q3⟩
  · rw [if_pos q1]
    exact .inl (Oper.wp_mono hp q2)
  · rw [if_neg (by rw [q1]; decide)]
    exact hp _ _ ⟨undef, rfl, fun _ => rfl, q2, q3, kq⟩
theorem region_factsSG {m : Nat} (hm : P.follows .mixedOrders = true) (h3 : RegShapeG ops lo hi sh) (a0 : Act) (w0 : World) (h4 : hi ≤ a0.tmps.size)
 (V : Nat → Value → World → Prop) (B : (Nat → Bool) → World → Prop) (hB : B (fun _ => false) w0.drew) (h1 : ∀ i, i < sh.length → StepOkG P Q lo hi sh a0 V B i)
 (h2 : ∀ (a : Act) (w : World), Framed lo hi a0 a → (∀ s, (∀ i, i < sh.length → (shAtG sh i).2.1 ≠ some s) → a.eval (.tmp s) = a0.eval (.tmp s)) → (∃ D, (∀ i, i < sh.length → D i = true) ∧ B D w) → (∀ i, i < sh.length → V i (slotD (shAtG sh i).2.1 a) w) → Q .normal a w) : (Code.region m ops true).wp P Q a0 w0 := by
 refine wp_region_any hm ?_
 have h5 := h3.size
 have h0 : ∀ i, (Array.replicate ops.size false).getD i false = false := fun i => by
  simp only [Array.getD_eq_getD_getElem?, Array.getElem?_replicate]
  split <;> rfl
 refine any_factsSG h3 a0 h4 V B h1 h2 _ _ a0 w0.drew (by simp [h5]) ?_ (Framed.refl _ _ _) (fun _ _ => rfl) (fun j hj => ?_) ?_ fun i h => ?_
 · unfold toCome
   simp
 · rw [h0] at hj; cases hj
 · have e : (fun j => (Array.replicate ops.size false).getD j false) = fun _ => false := funext h0
   rw [e]; exact hB
 · rw [h0] at h; cases h
def inTwo (ds : List (Option Nat)) (l1 n1 l2 n2 : Nat) : Bool := ds.all fun x => match x with
 | none => true
 | some d => (decide (l1 ≤ d) && decide (d < l1 + n1)) || (decide (l2 ≤ d) && decide (d < l2 + n2))
theorem out2 {l1 l2 : Nat} {vs1 vs2 : List Value} {ds : List (Option Nat)} (h1 : a'.tmps.size = a.tmps.size) (h2 : a'.defers = a.defers) (h0 : ∀ s, (∀ x ∈ ds, x ≠ some s) → a'.eval (.tmp s) = a.eval (.tmp s)) (h3 : inTwo ds l1 vs1.length l2 vs2.length = true)
 (h7 : l1 + vs1.length ≤ l2) (hs : l2 + vs2.length ≤ a.tmps.size) (h4 : ∀ i, i < vs1.length → a'.eval (.tmp (l1 + i)) = vs1.getD i undef) (h5 : ∀ i, i < vs2.length → a'.eval (.tmp (l2 + i)) = vs2.getD i undef) : a' = Act.putFrom (Act.putFrom a l1 vs1) l2 vs2 := by
 obtain ⟨p1, p2⟩ := putFrom_size vs1 a l1
 obtain ⟨q1, q2⟩ := putFrom_size vs2 (Act.putFrom a l1 vs1) l2
 refine act_ext (h1.trans (q1.trans p1).symm) (h2.trans (q2.trans p2).symm) fun s _ => ?_
 rw [putFrom_eval vs2 _ l2 s (by rw [p1]; exact hs)]
 by_cases e : l2 ≤ s ∧ s < l2 + vs2.length
 · rw [if_pos e]
   have := h5 (s - l2) (by omega)
   rwa [show l2 + (s - l2) = s by omega] at this
 · rw [if_neg e, putFrom_eval vs1 a l1 s (by omega)]
   by_cases e1 : l1 ≤ s ∧ s < l1 + vs1.length
   · rw [if_pos e1]
     have := h4 (s - l1) (by omega)
     rwa [show l1 + (s - l1) = s by omega] at this
   · rw [if_neg e1]
     refine h0 s fun x hx h6 => ?_
     unfold inTwo at h3
     rw [List.all_eq_true] at h3
     have := h3 x hx
     rw [h6] at this
     simp at this
     omega
theorem same_ds {sh : List (Op × Option Nat × List Nat)} (h : ∀ s, (∀ i, i < sh.length → (shAt sh i).2.1 ≠ some s) → a'.eval (.tmp s) = a.eval (.tmp s)) : ∀ s, (∀ x ∈ sh.map (fun x => x.2.1), x ≠ some s) → a'.eval (.tmp s) = a.eval (.tmp s) := fun s hs => h s fun i hi e => hs _ (List.mem_map.2 ⟨sh[i], List.getElem_mem hi, rfl⟩) (by
 have : shAt sh i = sh[i] := by simp [shAt, hi]
 rw [← this]; exact e)
end Go.Proofs.YtpaemkanfnddoaaGreatDoor
