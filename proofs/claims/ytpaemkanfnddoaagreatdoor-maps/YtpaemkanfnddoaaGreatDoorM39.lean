import Derived.Test.YtpaemkanfnddoaaGreatDoorM38
import Derived.Sort.QuietIn
import Derived.Sort.QuietTacIn
set_option maxRecDepth 100000
set_option maxHeartbeats 8000000
namespace Go.Proofs.YtpaemkanfnddoaaGreatDoor
open Go.RowKit Go.Deep
variable {os : List Ob} {xs : List Value} {base g n D : Nat} {K : Nat → Prop} {u v : Value} {w : World}
theorem own_block_ge (ho : w.ownsRow base 114 3 u n xs) (hg : g < base) : u.ownBlock ≠ some g := fun e => by
 rcases ho.2 with ⟨rfl, _⟩ | ⟨g', cap, cur, rfl, h0, _⟩
 · cases e
 · have e' : g' = g := by simpa [Value.ownBlock] using e
   omega
theorem own_block_lt (ho : w.ownsRow base 114 3 u n xs) (hg : w.heap.size ≤ g) : u.ownBlock ≠ some g := fun e => by
 rcases ho.2 with ⟨rfl, _⟩ | ⟨g', cap, cur, rfl, h0, h, _⟩
 · cases e
 · have e' : g' = g := by simpa [Value.ownBlock] using e
   have := (Array.getElem?_eq_some_iff.1 h).1
   omega
theorem own_alloc (ho : w.ownsRow base 114 3 u n xs) (o : Obj) : (w.alloc o).ownsRow base 114 3 u n xs := by
 refine ⟨ho.1, ?_⟩
 rcases ho.2 with h | ⟨g, cap, cur, rfl, h0, h, hr⟩
 · exact .inl h
 · exact .inr ⟨g, cap, cur, rfl, h0, (Below.heap_alloc w o g (Array.getElem?_eq_some_iff.1 h).1).trans h, hr⟩
def WiPost (K : Nat → Prop) (w : World) (os : List Ob) (e : Ending) (w' : World) : Prop := ∃ u, e = .returned u ∧ Cat K w' u os ∧ Below w.heap.size w w'
theorem catWith_any (hC : Cat K w v os) (k8 : os.length ≤ 9999) (hK : ∀ k, w.heap.size ≤ k → K k) {i : Nat} (hi : i ≤ os.length) (o : Ob) (sv : Value) (hc : Ints K w sv o.stripes) :
 Calls Tryz.prog 89 #[v, .int .i64 (i : Nat), .agg #[.string o.name, .int .i64 (o.size : Nat), sv]] w (WiPost K w (os.take i ++ o :: os.drop i)) := by
 obtain ⟨nm, hg⟩ : ∃ nm, o.name = nm := ⟨_, rfl⟩
 obtain ⟨sz, hh⟩ : ∃ sz : Int, ((o.size : Nat) : Int) = sz := ⟨_, rfl⟩
 have hj : ∀ u ∈ ob3 (o, sv), u.oneCell' = true := by
  obtain ⟨ao, c, e, _⟩ := hc
  exact ob3_one ⟨ao, _, c, e⟩
 have hm : (ob3 (o, sv)).toArray = #[.string nm, .int .i64 sz, sv] := by rw [← hg, ← hh]; rfl
 have hn : ∀ W, Below w.heap.size w W → Calls Tryz.prog 100 #[v] W fun e w' => ∃ u L, e = .returned u ∧ L.map (·.1) = os ∧ Sts K W L ∧ w'.ownsRow W.heap.size 114 3 u L.length (obc L) ∧ Below W.heap.size W w' := fun W hb => catClone_any (hC.keep (KpS.of_below hb)) (by omega)
 have hp : ∀ (W W1 : World) (u : Value) (L : List (Ob × Value)) (base vb : Nat), Below w.heap.size w W → Below W.heap.size W W1 → L.map (·.1) = os → Sts K W L → W1.ownsRow base 114 3 u L.length (obc L) → w.heap.size ≤ base → W.heap.size ≤ base → base ≤ W1.heap.size → W1.heap[vb]? = some (.cells #[.string nm, .int .i64 sz, sv] 114 (0, 0)) → u.ownBlock ≠ some vb →
  Calls Tryz.prog 126 #[u, .int .i64 (i : Nat), .slice (some ⟨vb, 0, none⟩) 1 1] W1 (WiPost K w (os.take i ++ o :: os.drop i)) := fun W W1 u L base vb hb hz hL h1 ho k9 k0 k5 hx k6 => by
  have ka : L.length = os.length := by rw [← hL, List.length_map]
  refine (insert_any ho k5 h1.one hj (by omega) (by rw [hm]; exact hx) k6 (by omega)).mono ?_
  rintro e w' ⟨u', rfl, hq, k7⟩
  have h3 : Below W.heap.size W w' := hz.trans (k7.mono k0)
  have h5 : Below w.heap.size w w' := hb.trans (h3.mono hb.size)
  have h6 : L.length + 1 = (L.take i ++ (o, sv) :: L.drop i).length := by simp; omega
  rw [h6] at hq
  refine ⟨u', rfl, ?_, h5⟩
  have h0 := cat_of_row (K := K) (L := L.take i ++ (o, sv) :: L.drop i) hq (by rw [← h6]; omega) (fun k hk => hK k (by omega)) (fun y hy => by
   rw [List.mem_append, List.mem_cons] at hy
   rcases hy with h | h | h
   · exact (h1 y (List.mem_of_mem_take h)).keep (KpS.of_below h3)
   · subst h; exact hc.keep (KpS.of_below h5)
   · exact (h1 y (List.mem_of_mem_drop h)).keep (KpS.of_below h3))
  have e : (L.take i ++ (o, sv) :: L.drop i).map (·.1) = os.take i ++ o :: os.drop i := by rw [List.map_append, List.map_cons, List.map_take, List.map_drop, hL]
  rwa [e] at h0
 rw [hg, hh]
 have HC := hide hn
 have HI := hide hp
 clear hn hp hC hc hj hm hK
 go_enter Tryz.func89, Tryz.ntmps89
 have h9 : Below w.heap.size w (w.alloc (.cells #[.string nm, .int .i64 sz, sv] 114)).drew := ((Below.refl _ w).alloc (Nat.le_refl _) _).drew
 have hs : Below w.heap.size w ((w.alloc (.cells #[.string nm, .int .i64 sz, sv] 114)).drew.alloc (.cells #[.string nm, .int .i64 sz, sv] 114)) := h9.alloc h9.size _
 have HB := hide2 h9 hs
 have h2 := heap_alloc_last w (.cells #[.string nm, .int .i64 sz, sv] 114)
 have hr : RowC (w.alloc (.cells #[.string nm, .int .i64 sz, sv] 114)).drew w.heap.size 114 [.string nm, .int .i64 sz, sv] := h2
 have g0 := hr.cell (j := 0) (u := .string nm) rfl
 have g1 := hr.cell (j := 1) (u := .int .i64 sz) rfl
 have g2 := hr.cell (j := 2) (u := sv) rfl
 have g3 := hr.lt
 have h7 : (w.alloc (.cells #[.string nm, .int .i64 sz, sv] 114)).drew.heap.size = w.heap.size + 1 := by show (w.alloc _).heap.size = _; exact nblk_alloc _ _
 have he : ((w.alloc (.cells #[.string nm, .int .i64 sz, sv] 114)).drew.alloc (.cells #[.string nm, .int .i64 sz, sv] 114)).heap[w.heap.size + 1]? = some (.cells #[.string nm, .int .i64 sz, sv] 114) := by rw [← h7]; exact heap_alloc_last _ _
 have hf := hide2 he (show w.heap.size + 1 < ((w.alloc (.cells #[.string nm, .int .i64 sz, sv] 114)).drew.alloc (.cells #[.string nm, .int .i64 sz, sv] 114)).heap.size from (Array.getElem?_eq_some_iff.1 he).1)
 have ha := hide4 g3 g0 g1 g2
 clear h9 hs g3 g0 g1 g2 h2 hr he h7
 go_wp2_with fail
 go_region_with (first
  | (go_at_call 100; first
   | (refine (HC.out (w.alloc (.cells #[.string nm, .int .i64 sz, sv] 114)).drew HB.out.1).mono ?_; rintro e w1 ⟨u, L, rfl, hL, h1, ho, h4⟩; have b0 := fun j => h4.cell (p := ⟨w.heap.size, j, none⟩) (ha.out.1); have c0 : w1.cell? ⟨w.heap.size, 0, none⟩ = some (.string nm) := (b0 0).trans ha.out.2.1; have c1 : w1.cell? ⟨w.heap.size, 1, none⟩ = some (.int .i64 sz) := (b0 1).trans ha.out.2.2.1; have c2 : w1.cell? ⟨w.heap.size, 2, none⟩ = some sv := (b0 2).trans ha.out.2.2.2; clear b0; have HH := hide4 hL h1 ho h4; clear hL h1 ho h4)
   | (refine (HC.out ((w.alloc (.cells #[.string nm, .int .i64 sz, sv] 114)).drew.alloc (.cells #[.string nm, .int .i64 sz, sv] 114)) HB.out.2).mono ?_; rintro e w1 ⟨u, L, rfl, hL, h1, ho, h4⟩; have HH := hide4 hL h1 ho h4; clear hL h1 ho h4))
  | (go_at_call 126; first
   | (refine (HI.out (w.alloc (.cells #[.string nm, .int .i64 sz, sv] 114)).drew (w1.alloc (.cells #[.string nm, .int .i64 sz, sv] 114)) u L (w.alloc (.cells #[.string nm, .int .i64 sz, sv] 114)).drew.heap.size w1.heap.size HB.out.1 (HH.out.2.2.2.alloc HH.out.2.2.2.size _) HH.out.1 HH.out.2.1 (own_alloc HH.out.2.2.1 _) HB.out.1.size (Nat.le_refl _) (HH.out.2.2.2.alloc HH.out.2.2.2.size _).size (heap_alloc_last w1 _) (own_block_lt HH.out.2.2.1 (Nat.le_refl _))).mono ?_; rintro e w2 ⟨u2, rfl, h0, h8⟩; have HF := hide2 h0 h8; clear h0 h8)
   | (refine (HI.out ((w.alloc (.cells #[.string nm, .int .i64 sz, sv] 114)).drew.alloc (.cells #[.string nm, .int .i64 sz, sv] 114)) w1 u L ((w.alloc (.cells #[.string nm, .int .i64 sz, sv] 114)).drew.alloc (.cells #[.string nm, .int .i64 sz, sv] 114)).heap.size (w.heap.size + 1) HB.out.2 HH.out.2.2.2 HH.out.1 HH.out.2.1 HH.out.2.2.1 HB.out.2.size (Nat.le_refl _) HH.out.2.2.2.size ((HH.out.2.2.2.block _ hf.out.2).trans hf.out.1) (own_block_ge HH.out.2.2.1 hf.out.2)).mono ?_; rintro e w2 ⟨u2, rfl, h0, h8⟩; have HF := hide2 h0 h8; clear h0 h8)))
 all_goals (go_wp2; go_ret; exact ⟨_, rfl, HF.out.1, HF.out.2⟩)
theorem step_app_at {ops : Array Oper} {o : Oper} {a : Act} {K : Act → World → Prop} {Q : Exit → Act → World → Prop} {E : Prop} (hg : o.guard = none) (d x : Operand) (dT sT : TypeId) (h0 : o.op = Op.call { callee := Callee.builtin Builtin.append, args := #[d, x], argTypes := #[dT, sT] })
 (v u : Value) (hd : a.eval d = v) (hx : a.eval x = u) {v' : Value} {w' : World} (hr : (Builtin.append_ #[dT, sT] o.type #[v, u]).run Tryz.prog w = .ok v' w') (hK : K (a.put o.dst v') w') : if Region.wanted o (yielded ops a.tmps) = true then Oper.wp Tryz.prog o a w K Q else E := by
 rw [if_pos (by simp [Region.wanted, hg])]
 unfold Oper.wp
 simp [execOp, h0, resolve, invoke, builtin, hd, hx, hr, Result.andThen]
 exact hK
theorem obc_less (cur : List Value) (L : List (Ob × Value)) (i N : Nat) (hN : L.length = N + 1) (hi : i ≤ N) (h0 : cur.take (L.length * 3) = obc L) (hl : (N + 1) * 3 ≤ cur.length) (zs : List Value) (hz : zs.length = 3) :
 ((cur.take (i * 3) ++ (obc L).drop ((i + 1) * 3) ++ cur.drop (i * 3 + ((obc L).drop ((i + 1) * 3)).length)).take (N * 3) ++ zs ++ (cur.take (i * 3) ++ (obc L).drop ((i + 1) * 3) ++ cur.drop (i * 3 + ((obc L).drop ((i + 1) * 3)).length)).drop (N * 3 + zs.length)).take (N * 3) = obc (L.take i ++ L.drop (i + 1)) ∧
 ((cur.take (i * 3) ++ (obc L).drop ((i + 1) * 3) ++ cur.drop (i * 3 + ((obc L).drop ((i + 1) * 3)).length)).take (N * 3) ++ zs ++ (cur.take (i * 3) ++ (obc L).drop ((i + 1) * 3) ++ cur.drop (i * 3 + ((obc L).drop ((i + 1) * 3)).length)).drop (N * 3 + zs.length)).length = cur.length := by
 have hd : ((obc L).drop ((i + 1) * 3)).length = (N - i) * 3 := by rw [List.length_drop, obc_len, hN]; omega
 have e1 : cur.take (i * 3) = obc (L.take i) := by
  rw [← obc_take, ← h0, List.take_take, Nat.min_eq_left (by omega)]
 have h1 : (cur.take (i * 3) ++ (obc L).drop ((i + 1) * 3)).length = N * 3 := by rw [List.length_append, List.length_take, hd]; omega
 have e2 : (cur.take (i * 3) ++ (obc L).drop ((i + 1) * 3) ++ cur.drop (i * 3 + ((obc L).drop ((i + 1) * 3)).length)).take (N * 3) = cur.take (i * 3) ++ (obc L).drop ((i + 1) * 3) := by
  conv => lhs; rw [← h1]
  exact List.take_left
 constructor
 · rw [e2, List.append_assoc, List.take_append_of_le_length (by omega), List.take_of_length_le (by omega), e1, obc_drop, obc_append]
 · rw [e2]
   simp only [List.length_append, List.length_drop, List.length_take, obc_len, hz, hN]
   omega
theorem delete_one {cap i N : Nat} {cur : Array Value} {L : List (Ob × Value)} (hg : w.heap[g]? = some (.cells cur 114 (0, 0))) (hx : base ≤ g) (hy : cur.size = cap * 3) (h0 : cur.toList.take (L.length * 3) = obc L) (h9 : ∀ u ∈ obc L, u.oneCell' = true) (hN : L.length = N + 1) (hi : i ≤ N) (hz : L.length ≤ cap) (kc : cap ≤ 9223372036854775807) (hl : L.length ≤ 10000) :
 Calls Tryz.prog 99 #[.slice (some ⟨g, 0, none⟩) L.length cap, .int .i64 (i : Nat), .int .i64 ((i : Int) + 1)] w fun e w' => e = .returned (.slice (some ⟨g, 0, none⟩) N cap) ∧ Below base w w' ∧ ∃ cur', RowC w' g 114 cur' ∧ cur'.length = cap * 3 ∧ cur'.take (N * 3) = obc (L.take i ++ L.drop (i + 1)) := by
 obtain ⟨io, hm, ha, h3, hn⟩ := info_parts Tryz.infoObj48
 have hR : RowC w g 114 cur.toList := by unfold RowC; exact hg
 have h8 : cur.toList.length = cap * 3 := by simpa using hy
 have hd : ((obc L).drop ((i + 1) * 3)).length = (N - i) * 3 := by rw [List.length_drop, obc_len, hN]; omega
 have h4 : ∀ u ∈ (obc L).drop ((i + 1) * 3), u.oneCell' = true := fun u hu => h9 u (List.mem_of_mem_drop hu)
 have h5 : ∀ j u, (obc L)[j]? = some u → w.drew.cell? ⟨g, j, none⟩ = some u := fun j u hj => by
  have h2 : w.cell? ⟨g, j, none⟩ = some u := by
   refine hR.cell ?_
   have ka : j < L.length * 3 := by obtain ⟨q, _⟩ := List.getElem?_eq_some_iff.1 hj; rwa [obc_len] at q
   rw [← h0, List.getElem?_take_of_lt ka] at hj
   exact hj
  exact h2
 have he : ∀ sc, Src Tryz.prog 3 110 (.slice (some ⟨g, if cap = i + 1 then 0 else (i + 1) * 3, none⟩) (N - i) sc) (N - i) ((obc L).drop ((i + 1) * 3)) w.drew := fun sc => by
  refine Src.ofSlice w.drew Tryz.underlying110 _ (N - i) sc _ hd (fun j u hj => ?_) h4
  rw [Addr.add_mid]
  split
  · rename_i hc
    have : N - i = 0 := by omega
    rw [this] at hd
    have := List.eq_nil_of_length_eq_zero (by omega : ((obc L).drop ((i + 1) * 3)).length = 0)
    rw [this] at hj
    simp at hj
  · rw [List.getElem?_drop] at hj
    exact h5 _ _ hj
 have h6 : ∀ ty sc, (Builtin.append_ #[110, 110] ty #[.slice (some ⟨g, 0, none⟩) i cap, .slice (some ⟨g, if cap = i + 1 then 0 else (i + 1) * 3, none⟩) (N - i) sc]).run Tryz.prog w.drew = .ok (.slice (some ⟨g, 0, none⟩) N cap) (w.drew.setCells g (i * 3) ((obc L).drop ((i + 1) * 3))) := fun ty sc => by
  have hs : Src Tryz.prog io.size 110 (.slice (some ⟨g, if cap = i + 1 then 0 else (i + 1) * 3, none⟩) (N - i) sc) (N - i) ((obc L).drop ((i + 1) * 3)) w.drew := by rw [h3]; exact he sc
  have h := run_append_room_src (P := Tryz.prog) (w := w.drew) 110 110 ty 114 io Tryz.underlying110 hm g 0 i cap _ (N - i) _ hs (by omega) (fun j hj => by
   rw [h3]
   have := hR.cell (List.getElem?_eq_getElem (by rw [h8]; rw [hd] at hj; omega : 0 + i * 3 + j < cur.toList.length))
   show (w.cell? _).isSome = true
   rw [this]; rfl) (fun j hj => hR.thaw _)
  rw [h3, Nat.zero_add, show i + (N - i) = N by omega] at h
  exact h
 have hf : RowC (w.drew.setCells g (i * 3) ((obc L).drop ((i + 1) * 3))) g 114 _ := RowC.set (w := w.drew) hR (i * 3) ((obc L).drop ((i + 1) * 3)) (by rw [hd, h8]; omega)
 obtain ⟨W1, hp⟩ : ∃ W1, w.drew.setCells g (i * 3) ((obc L).drop ((i + 1) * 3)) = W1 := ⟨_, rfl⟩
 have hq : Below base w W1 := by rw [← hp]; exact (Below.refl base w).drew.grown (grown_setCellsA _ _ _ _) (by show base ≤ w.heap.size; have := hR.lt; omega) (fun k e => by cases e; exact hx)
 rw [hp] at h6 hf
 obtain ⟨c1, hr⟩ : ∃ c1, cur.toList.take (i * 3) ++ (obc L).drop ((i + 1) * 3) ++ cur.toList.drop (i * 3 + ((obc L).drop ((i + 1) * 3)).length) = c1 := ⟨_, rfl⟩
 obtain ⟨zs, hh, hk, k0⟩ : ∃ zs, (Builtin.zeroCells (Value.agg #[.string ByteArray.empty, .int .i64 0, .slice none 0 0]).cells 1).toList = zs ∧ zs.length = 3 ∧ ∀ u ∈ zs, u.oneCell' = true := by
  refine ⟨[.string ByteArray.empty, .int .i64 0, .slice none 0 0], by kernel_rfl, rfl, ?_⟩
  intro u hu
  simp only [List.mem_cons, List.not_mem_nil, or_false] at hu
  rcases hu with rfl | rfl | rfl <;> rfl
 have h1 := obc_less cur.toList L i N hN hi h0 (by rw [h8]; omega) zs hk
 rw [hr] at hf h1
 have h7 : c1.length = cap * 3 := by rw [← hr]; simp only [List.length_append, List.length_drop, List.length_take, obc_len, h8]; omega
 have kb : ∀ ty c, (Builtin.clear_ #[110] ty #[.slice (some ⟨g, N * 3, none⟩) 1 c]).run Tryz.prog W1 = .ok (.tuple #[]) (W1.setCells g (N * 3) zs) := fun ty c => by
  have h := run_clear_wide (P := Tryz.prog) W1 110 114 ty g (N * 3) 1 c 114 c1 Tryz.underlying110 (z := .agg #[.string ByteArray.empty, .int .i64 0, .slice none 0 0]) (fun w => by simp [zeroValue, typeInfo, hm, ha]) (by omega) hf (by rw [hh, hk, h7]; omega) (by rw [hh]; exact k0)
  rw [hh] at h
  exact h
 have k8 := hf.set (N * 3) zs (by rw [hk, h7]; omega)
 have k9 : Below base w (W1.setCells g (N * 3) zs) := hq.grown (grown_setCellsA _ _ _ _) (Nat.le_trans (by have := hR.lt; omega) hq.size) (fun k e => by cases e; exact hx)
 have H := hide4 k8 k9 h1 h8
 have HA := hide h6
 rw [hN] at hz hl ⊢
 have kd : ¬ (i : Int) = (i : Int) + 1 := by omega
 have k1 : (0 : Int) ≤ (i : Int) + 1 := by omega
 have k2 : ((i : Int) + 1).toNat = i + 1 := by omega
 have k3 : ¬ cap = N := by omega
 have k4 : i ≤ N + 1 := by omega
 have k5 : (i : Int) ≤ (N : Int) + 1 := by omega
 clear hR h8 hd h4 h5 he h6 hf hp hq hr hh hk k0 h1 h7 k8 k9 hg hy h0 h9 hm ha h3 hn
 by_cases hc : cap = i + 1
 · rw [if_pos hc] at HA
   obtain rfl : i = N := by omega
   subst hc
   rw [Nat.sub_self] at HA
   clear hz hi k3
   go_enter Tryz.func99, Tryz.ntmps99
   go_wp2
   go_region_law (refine step_app_at rfl _ _ 110 110 rfl _ _ (by simp [Act.eval, Act.put]) (by simp [Act.eval, Act.put]) (HA.out _ 0) ?_)
   go_wp2
   go_ret
   exact ⟨rfl, H.out.2.1, _, H.out.1, H.out.2.2.1.2.trans H.out.2.2.2, H.out.2.2.1.1⟩
 · rw [if_neg hc] at HA
   have k6 : i ≤ cap := by omega
   have k7 : (i : Int) ≤ (cap : Int) := by omega
   go_enter Tryz.func99, Tryz.ntmps99
   go_wp2
   go_region_law (refine step_app_at rfl _ _ 110 110 rfl _ _ (by simp [Act.eval, Act.put]) (by simp [Act.eval, Act.put]) (HA.out _ (cap - (i + 1))) ?_)
   go_wp2
   go_ret
   exact ⟨rfl, H.out.2.1, _, H.out.1, H.out.2.2.1.2.trans H.out.2.2.2, H.out.2.2.1.1⟩
theorem catWithout_any (hC : Cat K w v os) (hp : os.length ≤ 9999) (hK : ∀ k, w.heap.size ≤ k → K k) {i : Nat} (hi : i < os.length) :
 Calls Tryz.prog 67 #[v, .int .i64 (i : Nat)] w (WiPost K w (os.take i ++ os.drop (i + 1))) := by
 have ha := catClone_any hC (by omega)
 have hc : ∀ (W : World) (u : Value) (L : List (Ob × Value)), L.map (·.1) = os → Sts K w L → W.ownsRow w.heap.size 114 3 u L.length (obc L) → Below w.heap.size w W → Calls Tryz.prog 99 #[u, .int .i64 (i : Nat), .int .i64 ((i : Int) + 1)] W (WiPost K w (os.take i ++ os.drop (i + 1))) := fun W u L hL h6 ho hb => by
  have hq : L.length = os.length := by rw [← hL, List.length_map]
  rcases ho.2 with ⟨rfl, h0⟩ | ⟨g, cap, cur, rfl, he, hg, hj, hk, hm, h7⟩
  · omega
  · have h8 : cap ≤ 9223372036854775807 := by unfold maxLen at hk; omega
    obtain ⟨N, hN⟩ : ∃ N, L.length = N + 1 := ⟨L.length - 1, by omega⟩
    refine (delete_one hg he hm h7 h6.one hN (by omega) hj h8 (by omega)).mono ?_
    rintro e w' ⟨rfl, hn, cur', h1, h2, h3⟩
    have h4 : Below w.heap.size w w' := hb.trans hn
    have h5 : N = (L.take i ++ L.drop (i + 1)).length := by simp; omega
    refine ⟨_, rfl, ?_, h4⟩
    have hf := row_own h1 he h5 (by omega) h8 h2 h3
    have e2 : (L.take i ++ L.drop (i + 1)).map (·.1) = os.take i ++ os.drop (i + 1) := by rw [List.map_append, List.map_take, List.map_drop, hL]
    rw [← e2, h5]
    rw [h5] at hf
    refine cat_of_row hf (by omega) hK (fun y hy => ?_)
    rw [List.mem_append] at hy
    rcases hy with h | h
    · exact (h6 y (List.mem_of_mem_take h)).keep (KpS.of_below h4)
    · exact (h6 y (List.mem_of_mem_drop h)).keep (KpS.of_below h4)
 have HD := hide hc
 clear hc hC hK
 go_enter Tryz.func67, Tryz.ntmps67
 go_wp2_with fail
 refine ha.mono ?_
 rintro e w1 ⟨u, L, rfl, hL, h6, ho, hb⟩
 have hd := HD.out w1 u L hL h6 ho hb
 clear ha hL h6 ho hb
 go_wp2_with fail
 refine hd.mono ?_
 rintro e w2 ⟨u2, rfl, h9, hh⟩
 have HF := hide2 h9 hh
 clear h9 hh hd
 go_wp2
 go_ret
 exact ⟨_, rfl, HF.out.1, HF.out.2⟩
section
open Gf
structure Pars (D L G : Nat) : Prop where
 r : rightB D L G = true
 d1 : 1 ≤ D
 d : D ≤ 12
 l1 : 1 ≤ L
 l4 : L ≤ 4
 g : G ≤ 4
 div : D % L = 0
 s : D + L + G ≤ 16
structure Live (w : World) (ar v p ps D L G t : Nat) (pg ob : Value) (P : List Nat) (xs : Obs) (A : Arr) (F : Foot) : Prop where
 arc : ArcAt w ar v D L G t (P.getD 0 0) (packL xs.os).length pg ob false
 vol : Vol w v p D L G ps 0 A F
 free : Free F p A.n v
 nar : ¬ F.has p A.n ar
 vne : v ≠ ar
 arK : 3 ≤ ar
 fit : A.fit
 par : Pars D L G
 disk : OnDisk A D L G t P xs
 pgs : Ints (fun k => ar < k ∧ ¬ F.has p A.n k) w pg P
 cat : Cat (fun k => ar < k ∧ ¬ F.has p A.n k) w ob xs.os
 nb : A.nb ≤ 1000
 turn : t ≤ 1000000
theorem Ints.any {l : List Nat} (h : Ints K w v l) : Ints (fun k => k < w.heap.size) w v l := by
 obtain ⟨ao, c, h1, h2, h3⟩ := h
 refine ⟨ao, c, h1, h2, fun hl => ?_⟩
 obtain ⟨b, off, q1, q2, q3, q4⟩ := h3 hl
 exact ⟨b, off, q1, q3, q3, q4⟩
theorem Cat.any (h : Cat K w v os) : Cat (fun k => k < w.heap.size) w v os := by
 obtain ⟨ao, c, h1, h2, h3⟩ := h
 refine ⟨ao, c, h1, h2, fun hl => ?_⟩
 obtain ⟨b, off, q1, q2, q3, q4⟩ := h3 hl
 refine ⟨b, off, q1, q3, q3, fun i hi => ?_⟩
 obtain ⟨sv, r1, r2, r3, r4⟩ := q4 i hi
 exact ⟨sv, r1, r2, r3, r4.any⟩
theorem allSt_ge : ∀ {xs : Obs}, (∀ x ∈ xs, ObFit D x) → xs.os.length ≤ (allSt xs.os).length
 | [], _ => Nat.le_refl _
 | x :: xs, h => by
  have ih := allSt_ge (xs := xs) (fun y hy => h y (by simp [hy]))
  have hx := (h x (by simp)).st
  have h1 : 1 ≤ x.1.stripes.length := by rw [hx]; exact Nat.le_max_left _ _
  have e : allSt (Obs.os (x :: xs)) = x.1.stripes ++ allSt (Obs.os xs) := by simp [allSt, Obs.os]
  have e2 : (Obs.os (x :: xs)).length = (Obs.os xs).length + 1 := by simp [Obs.os]
  rw [e, e2, List.length_append]
  omega
section
variable {w : World} {ar v p ps D L G t : Nat} {pg ob : Value} {P : List Nat} {xs : Obs} {A : Arr} {F : Foot}
theorem Live.n0 (h : Live w ar v p ps D L G t pg ob P xs A F) : 0 < A.n := by have := h.disk.n; have := h.par.d1; omega
theorem Live.few (h : Live w ar v p ps D L G t pg ob P xs A F) : xs.os.length ≤ 1000 ∧ (allSt xs.os).length ≤ 1000 ∧ P.length ≤ 1000 := by
 have h1 := allSt_ge h.disk.fits
 have h2 := h.disk.room
 have h3 := h.nb
 omega
theorem Live.packL_le (h : Live w ar v p ps D L G t pg ob P xs A F) : (packL xs.os).length ≤ 1000000 := by
 have h1 := packL_bound h.par.d1 h.disk.fits
 have h2 := h.few.1
 have e : xs.os.length = xs.length := by simp [Obs.os]
 have h3 : 1500 / (D * 44) ≤ 34 := by
  have := h.par.d1
  have : 1500 / (D * 44) ≤ 1500 / 44 := Nat.div_le_div_left (by omega) (by decide)
  omega
 have h4 : xs.length * (19 + 4 * (1500 / (D * 44) + 1)) ≤ 1000 * (19 + 4 * (34 + 1)) := Nat.mul_le_mul (by omega) (by omega)
 omega
theorem Live.below (h : Live w ar v p ps D L G t pg ob P xs A F) {w' : World} (hb : Below w.heap.size w w') : Live w' ar v p ps D L G t pg ob P xs A F :=
 ⟨h.arc.keep (hb.block _ h.arc.lt), h.vol.below hb (Nat.le_refl _), h.free, h.nar, h.vne, h.arK, h.fit, h.par, h.disk, h.pgs.keep (KpS.of_below hb), h.cat.keep (KpS.of_below hb), h.nb, h.turn⟩
theorem names_os (xs : Obs) : namesOf xs.os = xs.names := by simp [namesOf, Obs.os, Obs.names]
theorem Live.find (h : Live w ar v p ps D L G t pg ob P xs A F) (x : ByteArray) :
 Calls Tryz.prog 59 #[ob, .string x] w fun e w' => e = .returned (.tuple #[.int .i64 (placeN xs.names x : Nat), .bool (isIn xs.os x)]) ∧ Below w.heap.size w w' := by
 have hu : Up (namesOf xs.os) := by rw [names_os]; exact h.disk.up
 have := find_any h.cat.any (by have := h.few.1; omega) hu x
 rwa [names_os] at this
theorem Live.there (h : Live w ar v p ps D L G t pg ob P xs A F) {x : ByteArray} (hx : x ∈ xs.names) : isIn xs.os x = true := by
 have hu : Up (namesOf xs.os) := by rw [names_os]; exact h.disk.up
 exact (isIn_iff hu x).2 (by rw [names_os]; exact hx)
theorem Live.notThere (h : Live w ar v p ps D L G t pg ob P xs A F) {x : ByteArray} (hx : x ∉ xs.names) : isIn xs.os x = false := by
 have hu : Up (namesOf xs.os) := by rw [names_os]; exact h.disk.up
 cases hi : isIn xs.os x
 · rfl
 · exact absurd ((isIn_iff hu x).1 hi) (by rw [names_os]; exact hx)
end
end
theorem few_any (a b c : Int) (w : World) : Calls Tryz.prog 5 #[.int .i64 a, .int .i64 b, .int .i64 c] w fun e w' => ∃ D L G : Nat, e = .returned (.agg #[.int .i64 D, .int .i64 L, .int .i64 G]) ∧ Pars D L G ∧ D ≤ 6 ∧ Below w.heap.size w w' := by
 obtain ⟨ka, h3, eka⟩ := rem_key a 6 (by decide) (by decide)
 obtain ⟨kb, h4, ekb⟩ := rem_key b 3 (by decide) (by decide)
 obtain ⟨kc, h8, ekc⟩ := rem_key c 4 (by decide) (by decide)
 have eka' : wrap64 ((IntKind.u64.wrap a).tmod 6) = (ka : Int) := by simpa using eka
 have ekb' : wrap64 ((IntKind.u64.wrap b).tmod 3) = (kb : Int) := by simpa using ekb
 have ekc' : wrap64 ((IntKind.u64.wrap c).tmod 4) = (kc : Int) := by simpa using ekc
 obtain ⟨D, hD⟩ : ∃ D, ka + 1 = D := ⟨_, rfl⟩
 obtain ⟨l0, h5⟩ : ∃ l0, kb + 1 = l0 := ⟨_, rfl⟩
 have eD : wrap64 (1 + (ka : Int)) = (D : Int) := by unfold wrap64; omega
 have el : wrap64 (1 + (kb : Int)) = (l0 : Int) := by unfold wrap64; omega
 clear eka ekb ekc
 have h9 : 1 ≤ D ∧ D ≤ 6 := by omega
 have h2 : 1 ≤ l0 ∧ l0 ≤ 3 := by omega
 clear hD h5 h3 h4
 go_enter Tryz.func5, Tryz.ntmps5
 go_wp2
 go_loopw [8] (fun v wr => ∃ l : Nat, 1 ≤ l ∧ l ≤ 3 ∧ v = .int .i64 (l : Nat) ∧ wr = w.alloc (.cells #[.int .i64 0, .int .i64 0, .int .i64 0] 25)) (fun v _ => (intOf v).toNat)
 case atStart => exact ⟨l0, h2.1, h2.2, by rw [el], rfl⟩
 case round =>
  obtain ⟨l, h6, h7, rfl, rfl⟩ := hrel
  have ha : ¬ (l : Int) = 0 := by omega
  have hm : Int.tmod (D : Int) (l : Int) = ((D % l : Nat) : Int) := by rw [Int.tmod_eq_emod_of_nonneg (by omega), Int.natCast_emod]
  obtain ⟨m, h1⟩ : ∃ m, D % l = m := ⟨_, rfl⟩
  rw [h1] at hm
  by_cases h0 : m = 0
  · subst h0
    have HP : Hid (Pars D l kc) := hide ⟨by unfold rightB; apply decide_eq_true; refine ⟨by omega, by omega, by omega, by omega, by omega, by omega, ?_, by omega⟩; rw [← Int.natCast_emod, h1]; rfl, by omega, by omega, h6, by omega, by omega, h1, by omega⟩
    clear h1
    go_wp2
    have hR : RowC (w.alloc (.cells #[.int .i64 (D : Nat), .int .i64 (l : Nat), .int .i64 (kc : Nat)] 25)) w.heap.size 25 [.int .i64 (D : Nat), .int .i64 (l : Nat), .int .i64 (kc : Nat)] := heap_alloc_last w _
    have x0 := hR.cell (j := 0) (u := .int .i64 (D : Nat)) rfl
    have x1 := hR.cell (j := 1) (u := .int .i64 (l : Nat)) rfl
    have x2 := hR.cell (j := 2) (u := .int .i64 (kc : Nat)) rfl
    refine bodyPost_ret (v := .agg #[.int .i64 (D : Nat), .int .i64 (l : Nat), .int .i64 (kc : Nat)]) (by simp [results, Tryz.results5, go_sem, x0, x1, x2]) rfl ?_
    exact ⟨D, l, kc, rfl, HP.out, by omega, (Below.refl _ w).alloc (Nat.le_refl _) _⟩
  · have hc : 2 ≤ l := by
     rcases Nat.lt_or_ge l 2 with h | h
     · have : l = 1 := by omega
       subst this
       rw [Nat.mod_one] at h1
       omega
     · exact h
    have he : ¬ (m : Int) = 0 := by omega
    have hw : IntKind.i64.wrap ((l : Int) - 1) = (l : Int) - 1 := by rw [IntKind.wrap_i64]; omega
    clear h1
    go_wp2
    refine ⟨⟨l - 1, by omega, by omega, by rw [show ((l - 1 : Nat) : Int) = (l : Int) - 1 by omega], trivial⟩, ?_⟩
    show ((l : Int) - 1).toNat < ((l : Int)).toNat
    omega
structure Stp where
 kind : Int
 a : Int
 s : ByteArray
 d : List Nat
def Scr (w : World) (v : Value) (l : List Stp) : Prop :=
 ∃ ao c, v = .slice ao l.length c ∧ (l ≠ [] → ∃ b off, ao = some ⟨b, off, none⟩ ∧ b < w.heap.size ∧ ∀ i (hi : i < l.length), ∃ dv, w.cell? ⟨b, off + i * 4, none⟩ = some (.int .i64 l[i].kind) ∧ w.cell? ⟨b, off + i * 4 + 1, none⟩ = some (.int .i64 l[i].a) ∧ w.cell? ⟨b, off + i * 4 + 2, none⟩ = some (.string l[i].s) ∧ w.cell? ⟨b, off + i * 4 + 3, none⟩ = some dv ∧ Bs w dv l[i].d)
def scrLen (l : List Stp) : Nat := (l.map fun x => x.s.size + x.d.length).sum
theorem scrLen_take (l : List Stp) (k : Nat) (hk : k < l.length) : scrLen (l.take (k + 1)) = scrLen (l.take k) + (l[k].s.size + l[k].d.length) := by
 have e : l.take (k + 1) = l.take k ++ [l[k]] := by rw [List.take_add_one, List.getElem?_eq_getElem hk]; rfl
 rw [e]
 unfold scrLen
 rw [List.map_append, List.sum_append]
 simp only [List.map_cons, List.map_nil, List.sum_cons, List.sum_nil, Nat.add_zero]
theorem scrLen_mono (l : List Stp) (k : Nat) : scrLen (l.take k) ≤ scrLen l := by
 unfold scrLen
 have h : l.map (fun x => x.s.size + x.d.length) = (l.take k).map (fun x => x.s.size + x.d.length) ++ (l.drop k).map (fun x => x.s.size + x.d.length) := by rw [← List.map_append, List.take_append_drop]
 rw [h, List.sum_append]
 omega
def ScR (w : World) (l : List Stp) (vn vi : Value) (wr : World) : Prop := ∃ k : Nat, k ≤ l.length ∧ vi = .int .i64 (k : Nat) ∧ vn = .int .i64 (scrLen (l.take k) : Nat) ∧ scrLen (l.take k) ≤ 100000 ∧ Below w.heap.size w wr
def ScPost (w : World) (l : List Stp) (e : Ending) (w' : World) : Prop := ∃ bb, e = .returned (.bool bb) ∧ (bb = true → l.length ≤ 200 ∧ scrLen l ≤ 100000) ∧ Below w.heap.size w w'
theorem small_any {l : List Stp} (h : Scr w v l) (hs : ∀ x ∈ l, x.s.size ≤ 140737488355328 ∧ x.d.length ≤ 140737488355328) :
 Calls Tryz.prog 4 #[v] w (ScPost w l) := by
 obtain ⟨ao, c, rfl, hc⟩ := h
 by_cases he : 200 < l.length
 · have hi : (200 : Int) < (l.length : Int) := by omega
   clear hc
   go_enter Tryz.func4, Tryz.ntmps4
   go_wp2
   go_ret
   exact ⟨false, rfl, fun e => (by cases e), Below.refl _ _⟩
 · have hi : ¬ (200 : Int) < (l.length : Int) := by omega
   have HC := hide hc
   clear hc
   go_enter Tryz.func4, Tryz.ntmps4
   go_wp2
   go_loopw [3, 4] (fun vn vi wr => ScR w l vn vi wr) (fun _ vi _ => l.length - (intOf vi).toNat)
   case atStart => exact ⟨0, Nat.zero_le _, rfl, rfl, by simp [scrLen], Below.refl _ _⟩
   case round =>
    obtain ⟨k, hk, rfl, rfl, h3, h0⟩ := hrel
    by_cases h2 : k < l.length
    · obtain ⟨b, off, rfl, h8, h9⟩ := HC.out (fun e => by rw [e] at h2; simp at h2)
      obtain ⟨dv, r1, r2, r3, r4, r5⟩ := h9 k h2
      obtain ⟨da, dc, rfl, _⟩ := id r5
      have h1 := scrLen_take l k h2
      have hb := hs l[k] (List.getElem_mem h2)
      obtain ⟨s, h4⟩ : ∃ s, l[k].s = s := ⟨_, rfl⟩
      obtain ⟨dl, h5⟩ : ∃ dl, l[k].d.length = dl := ⟨_, rfl⟩
      rw [h4, h5] at h1 hb
      rw [h4] at r3
      rw [h5] at r4
      obtain ⟨p0, h6⟩ : ∃ p0, scrLen (l.take k) = p0 := ⟨_, rfl⟩
      rw [h6] at h1 h3 ⊢
      obtain ⟨ss, hf⟩ : ∃ ss, s.size = ss := ⟨_, rfl⟩
      have h7 : (k : Int) < (l.length : Int) := by omega
      have hh : IntKind.i64.wrap ((p0 : Int) + (s.size : Int)) = (p0 : Int) + (s.size : Int) := by rw [IntKind.wrap_i64]; omega
      have hj : IntKind.i64.wrap ((p0 : Int) + (s.size : Int) + (dl : Int)) = (p0 : Int) + (s.size : Int) + (dl : Int) := by rw [IntKind.wrap_i64]; omega
      have hm : IntKind.i64.wrap ((k : Int) + 1) = (k : Int) + 1 := by rw [IntKind.wrap_i64]; omega
      have q3 := (h0.cell (p := ⟨b, off + k * 4 + 2, none⟩) h8).trans r3
      have q4 := (h0.cell (p := ⟨b, off + k * 4 + 3, none⟩) h8).trans r4
      have HK := hide3 h1 h6 h0
      clear h1 h6 h0 r1 r2 r3 r4 r5 h9 h4 h5 hf
      go_wp2
      go_quiet (fail)
      have HB : Hid (Below w.heap.size w (wr.drewN nq)) := hide (HK.out.2.2.trans ⟨rfl, rfl, rfl, Nat.le_refl _, fun _ _ => rfl⟩)
      by_cases hg : (100000 : Int) < (p0 : Int) + (s.size : Int) + (dl : Int)
      · go_wp2
        go_ret
        exact ⟨false, rfl, fun e => (by cases e), HB.out⟩
      · go_wp2
        have h1 := HK.out.1
        refine ⟨⟨k + 1, by omega, by go_num, ?_, by omega, HB.out⟩, ?_⟩
        · rw [h1, show ((p0 + (s.size + dl) : Nat) : Int) = (p0 : Int) + (s.size : Int) + (dl : Int) by omega]
        · simp only [intOf]; omega
    · have ha : k = l.length := by omega
      have h7 : ¬ (k : Int) < (l.length : Int) := by omega
      have HK : Hid (l.length ≤ 200 ∧ scrLen l ≤ 100000) := hide ⟨by omega, by rw [ha, List.take_length] at h3; exact h3⟩
      have HB := hide h0
      clear ha h3 h0
      go_wp2
      go_ret
      exact ⟨true, rfl, fun _ => HK.out, HB.out⟩
section
open Go.Shelf Gf
attribute [local go_sem] Oper.semAt_some
theorem catStripes_stops (K : Nat → Prop) (n b1 : Nat) (v : Value) (os : List Ob) (w : World) (h3 : b1 < w.heap.size) (h1 : w.cell? ⟨b1, 0, none⟩ = some v) (hC : Cat K w v os) :
 SeqStopsK Fence.wide n Tryz.prog 134 #[.pointer (some ⟨b1, 0, none⟩)] encN (KpS K) (fun ys => ys = allSt os) (fun pre => pre <+: allSt os) (allSt os).length w := fun l J Jx W hW hJ _ hY h0 => by
 refine (catStripes1_in K n l b1 v os J Jx (fun pre A B h hb => hJ pre A B none h ⟨hb.os, hb.tape, hb.output, hb.size, fun k hk _ => hb.block k hk⟩ (fun r e => by cases e)) (allSt os).length hY [] (by simp) W ((hW.cell (p := ⟨b1, 0, none⟩) h3).trans h1) (hC.keep (KpS.of_below hW)) h0).mono ?_
 rintro e W' ⟨h1, h2⟩
 refine ⟨h1, ?_⟩
 rcases h2 with h | ⟨pre, q1, q2⟩
 · exact .inl ⟨_, rfl, by simpa using h⟩
 · exact .inr ⟨pre, q1, by simpa using q2⟩
structure RmI (w : World) (B : Nat) (pre : List Nat) (X : World) : Prop where
 box : Boxed X w.heap.size 3 (.int .i64 (pre.length : Nat))
 below : Below w.heap.size w X
 size : B ≤ X.heap.size
theorem RmI.own' {B : Nat} (hB : w.heap.size < B) : OwnFrom B (RmI w B) := by
 rintro pre X Y row ⟨h1, h2, h3⟩ hg hr
 have hk : ∀ k, k < B → Y.heap[k]? = X.heap[k]? := fun k hk => hg.block k (by omega) (fun e => by have := (hr k e.symm).1; omega)
 exact ⟨(hk _ (by omega)).trans h1, h2.grown hg h2.size (fun k e => by have := (hr k e).1; omega), Nat.le_trans h3 hg.size⟩
theorem roomFor_any {ar v p L G ps ho D' L' G' t f nn : Nat} {pg ob : Value} {off : Bool} {A : Arr} {F : Foot} (hA : ArcAt w ar v D' L' G' t f nn pg ob off) (hV : VolAt w v p D L G ps ho) (h : ArrAt w p A F) (hf : A.fit) (hn : 0 < A.n) (os : List Ob) (hC : Cat (fun k => k < w.heap.size) w ob os) (hq : (allSt os).length ≤ 1000000) (count pages : Nat) (he : count ≤ 1000000) (hg : pages ≤ 1000000) :
 Calls Tryz.prog 86 #[.pointer (some ⟨ar, 0, none⟩), .int .i64 (count : Nat), .int .i64 (pages : Nat)] w fun e w' => e = .returned (.bool (decide ((allSt os).length + count + 2 * pages + 2 ≤ A.nb))) ∧ Below w.heap.size w w' := by
 obtain ⟨n, HN⟩ : ∃ n : Nat, Hid (9 ≤ n) := ⟨9, Nat.le_refl _⟩
 obtain ⟨c0, _, _, _, c8⟩ := hA.cells
 obtain ⟨oo, oc, rfl, k7, _⟩ := id hC
 have H0 := hide4 hA hV h hC
 clear hA hV h hC
 refine (callsIn_wide (n := n)).1 ?_
 refine callsIn_of_wp_marks Tryz.func86 rfl trivial ?_ rfl
 simp only [Tryz.ntmps86, List.size_toArray, List.length_cons, List.length_nil, Nat.reduceAdd, Nat.reduceSub, Array.replicate_succ, Array.replicate_zero, List.push_toArray, List.append_toArray, List.nil_append, List.cons_append]
 have h3 : Below w.heap.size w (w.alloc (.cells #[.int .i64 0] 3)) := (Below.refl _ w).alloc (Nat.le_refl _) _
 have d8 := (h3.cell (p := ⟨ar, 8, none⟩) H0.out.1.lt).trans c8
 have h4 : Boxed (w.alloc (.cells #[.int .i64 0] 3)) w.heap.size 3 (.int .i64 0) := Boxed.new w _ _
 have h5 : (w.alloc (.cells #[.int .i64 0] 3)).heap.size = w.heap.size + 1 := by simp
 have HA := hide3 h3 h4 h5
 clear h3 h4 h5
 gi_wp2
 refine at_wide (catStripes_any oo os.length oc (w.alloc (.cells #[.int .i64 0] 3))) ?_
 rintro e w' ⟨rfl, rfl⟩
 obtain ⟨w1, hr⟩ : ∃ w1, w.alloc (.cells #[.int .i64 0] 3) = w1 := ⟨_, rfl⟩
 rw [hr] at HA d8 ⊢
 have hc : Below w1.heap.size w1 (w1.alloc (.cells #[.slice oo os.length oc] 110)) := (Below.refl _ w1).alloc (Nat.le_refl _) _
 have cc : (w1.alloc (.cells #[.slice oo os.length oc] 110)).cell? ⟨w1.heap.size, 0, none⟩ = some (.slice oo os.length oc) := (Boxed.new w1 _ _).cell
 have hh : (w1.alloc (.cells #[.slice oo os.length oc] 110)).heap.size = w1.heap.size + 1 := by simp
 obtain ⟨w2, hs⟩ : ∃ w2, w1.alloc (.cells #[.slice oo os.length oc] 110) = w2 := ⟨_, rfl⟩
 rw [hs] at hc cc hh ⊢
 obtain ⟨h3, h4, h5⟩ := HA.out
 have h1 : Below w.heap.size w w2 := h3.trans (hc.mono h3.size)
 have hI : RmI w w2.heap.size [] w2 := ⟨(hc.block _ (by omega)).trans h4, h1, Nat.le_refl _⟩
 have hy : Cat (fun k => k < w.heap.size) w2 (.slice oo os.length oc) os := H0.out.2.2.2.keep (KpS.of_below h1)
 have hz := catStripes_stops (fun k => k < w.heap.size) (n - 1) w1.heap.size _ os w2 (by omega) cc hy
 have HI := hide3 hI hz h1
 have h6 : w1.heap.size = w.heap.size + 1 := h5
 have h7 : w2.heap.size = w.heap.size + 2 := by omega
 have HZ := hide2 h6 h7
 clear hI hz h1 hy h3 h4 h5 hc cc hh hs hr d8 h6 h7 HA c8
 gi_wp2
 obtain ⟨kf, hh⟩ := HZ.out
 refine wpIn_rangeFunc_ownG rfl (by have := HN.out; omega) (gf := 134) (lb := #[.pointer (some ⟨w1.heap.size, 0, none⟩)]) rfl trivial (enters_of Tryz.func134 (by kernel_rfl) rfl)
  HI.out.2.1 (fun h k => h.trans k) (fun W l o o' hl _ _ _ => ⟨by simp [World.putObj], fun k _ hk => World.putObj_heap_other (by omega)⟩) (Below.refl _ _) (fun _ => rfl)
  (RmI w w2.heap.size) (fun _ _ _ => False) (RmI.own' (by omega)) (fun _ _ _ _ _ h _ _ => h.elim) HI.out.1
  (fun x => { tmps := #[.pointer (some ⟨ar, 0, none⟩), .int .i64 (count : Nat), .int .i64 (pages : Nat), undef, undef, undef, .bool false, .pointer (some ⟨w.heap.size, 0, none⟩), .pointer (some ⟨ar, 0, none⟩), .pointer (some ⟨ar, 0, none⟩), .pointer (some ⟨ar, 8, none⟩), .slice oo os.length oc, .func (.func 134) #[] #[.pointer (some ⟨w1.heap.size, 0, none⟩)], .int .i64 (x : Nat), undef, undef, undef, undef, undef, undef, undef, undef, undef, undef, undef, undef, undef, undef, undef], defers := [] }) ?assign ?body ?done ?stop
 case assign =>
  intro l2 x X Kk hK
  unfold encN
  gi_wp2
  simpa using hK
 case body =>
  rintro l2 pre x X hi h8
  have c1 := hi.box.cell
  have f1 := hi.box.frozen
  obtain ⟨pl, h9⟩ : ∃ pl, pre.length = pl := ⟨_, rfl⟩
  rw [h9] at c1 h8
  have k8 : pl ≤ 1000000 := by omega
  have HX := hide2 hi h9
  clear hi h9 h8 hq k7
  gi_wp2
  obtain ⟨hi, h9⟩ := HX.out
  have ha : ((pre ++ [x]).length : Nat) = pl + 1 := by rw [List.length_append, h9]; rfl
  have k0 : ∀ k, k ≠ w.heap.size → (X.setCell ⟨w.heap.size, 0, none⟩ (.int .i64 ((pl : Int) + 1))).heap[k]? = X.heap[k]? := fun k hk => blk_setCell_other _ _ _ _ hk
  refine ⟨⟨by simp [World.setCell], fun k o hk ho _ => ?_⟩, ⟨by simp [World.setCell], fun k hk hK => ?_⟩, ?_, ?_, ?_⟩
  · exact (k0 k (by omega)).trans ho
  · exact k0 k (by omega)
  · rw [ha]; exact hi.box.set _
  · exact Below.setCell (p := ⟨w.heap.size, 0, none⟩) hi.below (Nat.le_refl _) _
  · have := hi.size; simp [World.setCell]; omega
 case done =>
  rintro D1 xs X k9 k5 hi hK
  have hj : xs = allSt os := k5
  subst hj
  have c1 := hi.box.cell
  obtain ⟨xl, hm⟩ : ∃ xl, (allSt os).length = xl := ⟨_, rfl⟩
  rw [hm] at c1 hq
  have HL := hide hm
  clear hm
  have h0 := hi.below
  obtain ⟨hA, hV, h, hC⟩ := H0.out
  have cX := (h0.cell (p := ⟨ar, 0, none⟩) hA.lt).trans c0
  have h2 : ∀ W, Below w.heap.size w W → Calls Tryz.prog 123 #[.pointer (some ⟨v, 0, none⟩)] W fun e w' => e = .returned (.int .i64 A.nb) ∧ w' = W := fun W hb => volBlocks_any (hV.keep (hb.block _ hV.lt)) (h.below hb (Nat.le_refl _)) hf hn
  have HX := hide4 hi hK h2 h0
  obtain ⟨nb, hp⟩ : ∃ nb, A.nb = nb := ⟨_, rfl⟩
  have ka := hf.nb
  rw [hp] at HX ka
  have kb := hide hp
  clear hp
  clear hi hK k5 h2 h0 hA hV h hC c0
  gi_wp2
  have k1 : IntKind.i64.wrap ((xl : Int) + (count : Int)) = (xl : Int) + (count : Int) := by rw [IntKind.wrap_i64]; omega
  have k2 : IntKind.i64.wrap (2 * (pages : Int)) = 2 * (pages : Int) := by rw [IntKind.wrap_i64]; omega
  have k3 : IntKind.i64.wrap ((xl : Int) + (count : Int) + 2 * (pages : Int)) = (xl : Int) + (count : Int) + 2 * (pages : Int) := by rw [IntKind.wrap_i64]; omega
  have k4 : IntKind.i64.wrap ((nb : Int) - 2) = (nb : Int) - 2 := by rw [IntKind.wrap_i64]; omega
  refine wpIn_region_quiet_lit rfl (by kernel_rfl) (by kernel_rfl) ?_
  repeat (quiet_step_in (fail))
  refine wpQuietIn_step (by go_simp; intros; trivial) (fun K hK => ?_)
  go_simp
  refine ⟨.int .i64 (nb : Nat), fun a => ⟨fun h => (by cases h), CallsIn.quiet_of_same (callsIn_wide.2 (HX.out.2.2.1 _ (HX.out.2.2.2.trans ⟨rfl, rfl, rfl, Nat.le_refl _, fun _ _ => rfl⟩)))⟩, hK _ ?_⟩
  clear hK K
  repeat (quiet_step_in (fail))
  refine wpQuietIn_nil ?_
  intro _ kc
  obtain ⟨nq, rfl⟩ := kc
  gi_wp2
  obtain ⟨hi, hK, _, h0⟩ := HX.out
  have k6 : (X.drewN nq).heap[D1]? = some (.deferred (some [])) := hK
  have kd : Below w.heap.size w (X.drewN nq) := h0.trans ⟨rfl, rfl, rfl, Nat.le_refl _, fun _ _ => rfl⟩
  refine end_tmp (t := 6) (x := .bool (decide ((xl : Int) + (count : Int) + 2 * (pages : Int) ≤ (nb : Int) - 2))) Tryz.results86 rfl rfl k6 ⟨?_, ?_⟩
  · rw [HL.out, kb.out]
    congr 2
    exact decide_eq_decide.2 ⟨fun h => by omega, fun h => by omega⟩
  · exact Below.putObj' kd (by omega) (Array.getElem?_eq_some_iff.1 k6).1 _
 case stop =>
  rintro D1 cc pre X k9 ke hx hK
  exact hx.elim
end
end Go.Proofs.YtpaemkanfnddoaaGreatDoor
