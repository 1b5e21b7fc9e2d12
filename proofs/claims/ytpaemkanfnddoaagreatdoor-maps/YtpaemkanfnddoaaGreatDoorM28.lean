import Derived.Test.YtpaemkanfnddoaaGreatDoorM27
import Derived.OwnWalk
import Derived.Laws.BytesString
set_option maxRecDepth 100000
set_option maxHeartbeats 8000000
namespace Go.Proofs.YtpaemkanfnddoaaGreatDoor
open Go.RowKit Go.Deep Gf
variable {off : Bool} {F : Foot} {page l : List Nat} {os : List Ob} {xs : List Value} {base n size t D pb po sk L G p D1 L1 G1 t1 ar ps D' L' G' f nn : Nat} {K : Nat → Prop} {e : TypeId} {v pg ob : Value} {w w' : World}
theorem own_slice (h : w.ownsRow base e size v n xs) : ∃ pa pc, v = .slice pa n pc := by
 rcases h.2 with ⟨h0, h1⟩ | ⟨g, cap, cur, e1, _⟩
 · exact ⟨none, 0, by rw [h0, h1]⟩
 · exact ⟨_, _, e1⟩
theorem own_type (h : w.ownsRow base e size v n xs) {k : Nat} (hk : v.ownBlock = some k) : ∃ cur, w.heap[k]? = some (.cells cur e (0, 0)) := by
 rcases h.2 with ⟨h0, _⟩ | ⟨g, cap, cur, e1, _, e3, _⟩
 · rw [h0] at hk; simp [Value.ownBlock] at hk
 · rw [e1] at hk
   simp [Value.ownBlock] at hk
   subst hk
   exact ⟨cur, e3⟩
theorem own_apart {t : TypeId} (h : w.ownsRow base e size v n xs) {k : Nat} {cs : Array Value} (hk : w.heap[k]? = some (.cells cs t (0, 0))) (h0 : e ≠ t) : v.ownBlock ≠ some k := by
 intro q
 obtain ⟨cur, hc⟩ := own_type h q
 rw [hk] at hc
 injection hc with hc
 injection hc with h1 h2
 exact h0 h2.symm
theorem own_keepO {S : Nat → Prop} (h : w.ownsRow base e size v n xs) (hO : Outside S w w') (hS : ∀ k, v.ownBlock = some k → ¬ S k) : w'.ownsRow base e size v n xs := by
 refine ⟨h.1, ?_⟩
 rcases h.2 with h0 | ⟨g, cap, cur, e1, e2, e3, r⟩
 · exact .inl h0
 · exact .inr ⟨g, cap, cur, e1, e2, (hO.block g (Array.getElem?_eq_some_iff.1 e3).1 (hS g (by rw [e1]; rfl))).trans e3, r⟩
theorem pgs_mul (h3 : 1 ≤ D) {k : Nat} (hk : k < pgs D n) : k * (D * 44 - 4) ≤ n := by
 unfold pgs at hk
 by_cases h0 : k = 0
 · subst h0; omega
 · have h1 : k < (n + (D * 44 - 4) - 1) / (D * 44 - 4) := by omega
   have hs : 0 < D * 44 - 4 := by omega
   have h2 := (Nat.le_div_iff_mul_le hs).1 (Nat.succ_le_of_lt h1)
   rw [Nat.succ_mul] at h2
   omega
theorem pgs_end (h0 : 1 ≤ D) : n ≤ pgs D n * (D * 44 - 4) := by
 have hs : 0 < D * 44 - 4 := by omega
 have h1 : (n + (D * 44 - 4) - 1) / (D * 44 - 4) ≤ pgs D n := Nat.le_max_right _ _
 have h2 := Nat.mul_le_mul_right (D * 44 - 4) h1
 have h3 := Nat.div_add_mod (n + (D * 44 - 4) - 1) (D * 44 - 4)
 have h4 := Nat.mod_lt (n + (D * 44 - 4) - 1) hs
 rw [Nat.mul_comm] at h3
 omega
theorem pageB_len' (P l : List Nat) (k : Nat) : (pageB D P l k).length = 4 + min (l.length - k * (D * 44 - 4)) (D * 44 - 4) := by
 unfold pageB
 rw [List.length_append, be_len, List.length_take, List.length_drop, Nat.min_comm]
def PgC (w : World) (pb po n : Nat) (page : List Nat) : Prop := ∀ q, q < n → w.cell? ⟨pb, po + q, none⟩ = some (.int .u8 ((page.getD q 0 : Nat) : Int))
theorem PgC.grown {row : Option Nat} (h : PgC w pb po n page) (hg : w.grownBy w' row) (h0 : row ≠ some pb) : PgC w' pb po n page := fun q hq => hg.cell (h q hq) (fun e => h0 e.symm)
theorem PgC.alloc (h : PgC w pb po n page) (o : Obj) : PgC (w.alloc o) pb po n page := h.grown (World.grownBy_alloc w o none) (fun e => by cases e)
theorem PgC.src (h : PgC w pb po (4 + sk) page) (hl : page.length = 4 + sk) : Src Tryz.prog 1 31 (.slice (some ⟨pb, po + 4, none⟩) sk sk) sk (bts (page.drop 4)) w := by
 refine Src.ofSlice w Tryz.underlying31 ⟨pb, po + 4, none⟩ sk sk (bts (page.drop 4)) (by rw [bts_len, List.length_drop, hl]; omega) (fun q u hq => ?_) (fun u hu => by obtain ⟨x, _, rfl⟩ := List.mem_map.1 hu; rfl)
 have h3 : q < sk := by
  have := (List.getElem?_eq_some_iff.1 hq).1
  rw [bts_len, List.length_drop, hl] at this
  omega
 have h1 := h (4 + q) (by omega)
 have h2 : (Value.int .u8 ((page.getD (4 + q) 0 : Nat) : Int)) = u := by
  unfold bts at hq
  rw [List.getElem?_map, List.getElem?_drop, List.getElem?_eq_getElem (by omega)] at hq
  simp at hq
  rw [← hq]
  simp [List.getD_eq_getElem?_getD, show 4 + q < page.length by omega]
 have h9 : w.cell? ⟨pb, po + 4 + q, none⟩ = some u := by rw [← h2, Nat.add_assoc]; exact h1
 unfold Addr.add
 split
 · rename_i h0; subst h0; exact h9
 · exact h9
theorem PgC.src0 : Src Tryz.prog 1 31 (.slice (some ⟨pb, po, none⟩) 0 0) 0 [] w := Src.ofSlice w Tryz.underlying31 ⟨pb, po, none⟩ 0 0 [] rfl (fun q u hq => by simp at hq) (fun u hu => by cases hu)
theorem PgC.head {c x : Nat} (h : PgC w pb po n page) (hn : 4 ≤ n) (hc : 4 ≤ c) (hp : page.take 4 = be x 4) : Bs w (.slice (some ⟨pb, po, none⟩) 4 c) (be x 4) := by
 refine ⟨some ⟨pb, po, none⟩, c, by rw [be_len], by rw [be_len]; exact hc, by rw [be_len]; decide, be_lt _ _, fun _ => ⟨pb, po, rfl, fun q hq => ?_⟩⟩
 rw [be_len] at hq
 rw [h q (by omega), ← hp]
 have : (page.take 4).getD q 0 = page.getD q 0 := by
  rw [List.getD_eq_getElem?_getD, List.getD_eq_getElem?_getD, List.getElem?_take_of_lt hq]
 rw [this]
def Arr.rd (A : Arr) (r : Nat → Int) : Arr := { A with reads := r }
structure RpI (w : World) (q D L G v p r g N sz n1 : Nat) (A : Arr) (F : Foot) (P l : List Nat) (D1 L1 G1 t1 f1 : Nat) (k : Nat) (up uq : Value) (wr : World) : Prop where
 pk : wr.ownsRow w.heap.size 5 1 up (min (k * sz) n1) (bts (l.take (k * sz)))
 pg : wr.ownsRow w.heap.size 3 1 uq k (ivs (P.take k))
 rd : ∃ b gone sp, RdAt wr r v b g N gone sp
 row : ∃ f, wr.rowIs g 31 N f
 arr : ∃ rs, ArrAt wr p (A.rd rs) F
 out : Outside (F.has p A.n) w wr
 box : wr.heap[q]? = some (.cells (rootA D1 L1 G1 t1 f1 n1) 107 (0, 0))
theorem rp_step {w4 w5 w6 w7 : World} {v r g sz n1 : Nat} {A : Arr} {P : List Nat} {f1 k pl nx m b : Nat} {rs : Nat → Int} {up uq u v6 v7 : Value} {news : List Value} {o : Obj} 
 (hc : DtPost w4 r v b g A.n p (A.rd rs) F page m u w5) (he : w5.ownsRow w.heap.size 3 1 uq k (ivs (P.take k))) (h6 : w5.heap[w.heap.size]? = some (.cells (rootA D1 L1 G1 t1 f1 n1) 107 (0, 0))) (hk : Outside (F.has p A.n) w w5)
 (hi : w6.ownsRow w.heap.size 3 1 v6 (k + 1) (ivs (P.take k) ++ [.int .i64 (nx : Int)])) (h5 : (w5.alloc o).grownBy w6 uq.ownBlock) (h0 : w6.ownsRow w.heap.size 5 1 up pl (bts (l.take pl))) (hm : w7.ownsRow w.heap.size 5 1 v7 (pl + sk) (bts (l.take pl) ++ news)) (h3 : w6.grownBy w7 up.ownBlock)
 (hn : ∀ k, F.has p A.n k → k < w.heap.size) (hz : w.heap.size < w5.heap.size) (hj : k < P.length) (hp : P.getD k 0 = nx) (hx : D * 44 - 4 = sz) (hr : k * sz = pl) (hy : min (n1 - pl) (D * 44 - 4) = sk) (k0 : pl ≤ n1)
 (h7 : bts (l.take pl) ++ news = bts (l.take pl) ++ bts ((l.drop pl).take sz)) : RpI w w.heap.size D L G v p r g A.n sz n1 A F P l D1 L1 G1 t1 f1 (k + 1) v7 v6 w7 := by
 have k5 : w5.heap.size + 1 ≤ w6.heap.size := by have := h5.size; simp at this; omega
 have h9 := he.alloc o
 have h4 : ∀ {q : Nat} {cs : Array Value} {T : TypeId}, w5.heap[q]? = some (.cells cs T (0, 0)) → 3 ≠ T → 5 ≠ T → w7.heap[q]? = w5.heap[q]? := by
  intro q cs T hq h1 h2
  have hs : q < w5.heap.size := (Array.getElem?_eq_some_iff.1 hq).1
  have e1 : (w5.alloc o).heap[q]? = w5.heap[q]? := blk_alloc_lt _ _ _ hs
  have e2 : w6.heap[q]? = (w5.alloc o).heap[q]? := h5.block q (by simp; omega) (fun e => own_apart h9 (e1.trans hq) h1 e.symm)
  exact (h3.block q (by omega) (fun e => own_apart h0 ((e2.trans e1).trans hq) h2 e.symm)).trans (e2.trans e1)
 have ha : ∀ q, q < w.heap.size → w7.heap[q]? = w5.heap[q]? := fun q hq => by
  have e1 : (w5.alloc o).heap[q]? = w5.heap[q]? := blk_alloc_lt _ _ _ (by omega)
  have e2 : w6.heap[q]? = (w5.alloc o).heap[q]? := h5.block q (by simp; omega) (fun e => by have := own_ge h9 e.symm; omega)
  exact (h3.block q (by omega) (fun e => by have := own_ge h0 e.symm; omega)).trans (e2.trans e1)
 have hf : (k + 1) * sz = pl + sz := by rw [Nat.succ_mul, hr]
 refine ⟨?_, ?_, ?_, ?_, ?_, ?_, ?_⟩
 · rw [hf, List.take_add, bts_append, ← h7, show min (pl + sz) n1 = pl + sk by omega]
   exact hm
 · have e : ivs (P.take (k + 1)) = ivs (P.take k) ++ [.int .i64 (nx : Int)] := by
    have hg : P.getD k 0 = P[k] := by simp [List.getD_eq_getElem?_getD, hj]
    rw [List.take_add_one, List.getElem?_eq_getElem hj, ← hp, hg]
    unfold ivs
    rw [List.map_append]
    rfl
   rw [e]
   refine hi.kept h3 ?_
   cases h8 : v6.ownBlock with
   | none => exact .inl rfl
   | some q =>
    refine .inr fun e => ?_
    obtain ⟨cur, hh⟩ := own_type hi h8
    exact own_apart h0 hh (by decide) e.symm
 · exact ⟨b, 0, 0, hc.rd.keep (h4 hc.rd (by decide) (by decide))⟩
 · obtain ⟨f, cs, h1, h2⟩ := hc.row
   exact ⟨f, cs, (h4 h1 (by decide) (by decide)).trans h1, h2⟩
 · exact ⟨_, hc.arr.keep fun q hq => ha q (hn q hq)⟩
 · exact hk.later (T := fun q => w.heap.size ≤ q) ⟨h3.os.trans (h5.os.trans rfl), h3.tape.trans (h5.tape.trans rfl), h3.output.trans (h5.output.trans rfl), by have := h3.size; omega, fun q _ k6 => ha q (by omega)⟩ (fun q h1 h2 => by omega)
 · exact (h4 h6 (by decide) (by decide)).trans h6
def RpR (w : World) (q D L G v p r g N sz n1 : Nat) (A : Arr) (F : Foot) (P l : List Nat) (D1 L1 G1 t1 f1 : Nat) (up uq nx i : Value) (wr : World) : Prop := ∃ k : Nat, k ≤ P.length ∧ i = .int .i64 k ∧ nx = .int .i64 ((P.getD k 0 : Nat) : Int) ∧ RpI w q D L G v p r g N sz n1 A F P l D1 L1 G1 t1 f1 k up uq wr
structure RpPost (w : World) (p : Nat) (A : Arr) (F : Foot) (P l : List Nat) (up uq : Value) (w' : World) : Prop where
 pk : Bs w' up l
 pg : Ints (fun k => w.heap.size ≤ k) w' uq P
 arr : ∃ rs, ArrAt w' p (A.rd rs) F
 out : Outside (F.has p A.n) w w'
theorem readPages_ok {v : Nat} {A : Arr} (hA : ArcAt w ar v D' L' G' t f nn pg ob off) (hV : Vol w v p D L G ps 0 A F) (hF : Free F p A.n v) (xz : ¬ F.has p A.n ar) (hf : A.fit) (hn : A.n = D + L + G) (qd : 1 ≤ D) (hD : D ≤ 12) (y0 : L ≤ 4) (hG : G ≤ 4) (yc : D + L + G ≤ 16)
 (hw : A.wait ≠ 0) (kn : ∀ i, A.lost i = false) (P l : List Nat) (x7 : ∀ x ∈ l, x < 256) (x8 : l.length ≤ 1000000) (ko : P.length = pgs D l.length) (x9 : ∀ x ∈ P, x < A.nb) (yd : P.length ≤ A.nb) (ye : P.length ≤ 1000000) (qk : ∀ x ∈ P, ∀ i, A.bad i x = false)
 (qm : ∀ k, k < P.length → ∀ i, i < A.n → A.blk i (P.getD k 0) = (Rec.shard ((stripeL D L G (pageB D P l k)).getD i [])).blk) :
 Calls Tryz.prog 144 #[.pointer (some ⟨ar, 0, none⟩), .agg (rootA D1 L1 G1 t1 (P.getD 0 0) l.length)] w fun e w' => ∃ up uq, e = .returned (.tuple #[up, uq, .nilIface]) ∧ RpPost w p A F P l up uq w' := by
 obtain ⟨ib, xa, kp, kr, ks⟩ := info_parts Tryz.infoByteC
 obtain ⟨ii, xb, kv, kx, ky⟩ := info_parts Tryz.infoIntT
 have qn := hf.nb
 have yf := hV.vol.lt
 have qo := hA.lt
 have xc := hV.room
 have kz := hV.laid
 have qp := hV.tab
 have ka : ∀ k, F.has p A.n k → k < w.heap.size := fun k hk => hV.arr.has_lt hk
 obtain ⟨c0, _⟩ := hA.cells
 obtain ⟨n1, qq⟩ : ∃ n1, l.length = n1 := ⟨_, rfl⟩
 obtain ⟨f1, xd⟩ : ∃ f1, P.getD 0 0 = f1 := ⟨_, rfl⟩
 rw [qq] at x8 ko ⊢
 rw [xd]
 have k7 : (w.alloc (.cells (rootA D1 L1 G1 t1 f1 n1) 107)).heap[w.heap.size]? = some (.cells (rootA D1 L1 G1 t1 f1 n1) 107 (0, 0)) := blk_alloc_new _ _
 have k8 : Below w.heap.size w (w.alloc (.cells (rootA D1 L1 G1 t1 f1 n1) 107)) := (Below.refl _ w).alloc (Nat.le_refl _) _
 have qe : (w.alloc (.cells (rootA D1 L1 G1 t1 f1 n1) 107)).heap.size = w.heap.size + 1 := by simp
 obtain ⟨w1, qs⟩ : ∃ w1, w.alloc (.cells (rootA D1 L1 G1 t1 f1 n1) 107) = w1 := ⟨_, rfl⟩
 rw [qs] at k7 k8 qe
 have cl : w1.cell? ⟨w.heap.size, 5, none⟩ = some (.int .i64 n1) := by simp [World.cell?, k7, rootA]
 have k0 := hA.keep (k8.block _ hA.lt)
 have k5 := hV.below k8 (Nat.le_refl _)
 obtain ⟨d0, _⟩ := k0.cells
 have qf := pagesOf_any k0 k5.vol qd (by omega) n1 (by omega)
 rw [← ko] at qf
 have qv := volBlocks_any k5.vol k5.arr hf (by omega)
 obtain ⟨K, hK⟩ : ∃ K, P.length = K := ⟨_, rfl⟩
 obtain ⟨NB, qg⟩ : ∃ NB, A.nb = NB := ⟨_, rfl⟩
 have yg : K ≤ NB := by omega
 have y1 : NB ≤ 1000000000 := by omega
 rw [hK] at qf
 rw [qg] at qv
 have H1 := hide9 k0 k5 k7 k8 qe qf qv hK qg
 have y2 : w.alloc (.cells #[.int .i64 D1, .int .i64 L1, .int .i64 G1, .int .u64 t1, .int .i64 f1, .int .i64 n1] 107) = w1 := qs
 have HV := hide2 hA hV
 clear hA hV k7 k8 k0 k5 qf qv qe qs c0 hK qg qn kz qp
 unfold rootA
 go_enter Tryz.func144, Tryz.ntmps144
 go_wp2_with fail
 refine H1.out.2.2.2.2.2.1.mono ?_
 rintro e w2 ⟨rfl, hh⟩
 obtain rfl : w1 = w2 := hh.symm
 clear hh
 go_wp2_with fail
 refine H1.out.2.2.2.2.2.2.1.mono ?_
 rintro e w2 ⟨rfl, hh⟩
 obtain rfl : w1 = w2 := hh.symm
 clear hh
 go_wp2_with fail
 obtain ⟨k0, k5, k7, k8, qe, y3, y4, hK, qg⟩ := H1.out
 clear y3 y4
 refine readPages_region4 k5.vol hD y0 hG hn k0 rfl k7 (by kernel_rfl) rfl rfl rfl ?_
 intro w3 kh kb hj
 have xe := k0.keep (kh.block _ k0.lt)
 have qx := k5.below kh (Nat.le_refl _)
 have q0 := (kh.block _ (by omega)).trans k7
 have xf : Outside (F.has p A.n) w w3 := Outside.of_all (k8.trans (kh.mono (by omega))) _
 obtain ⟨r, xg⟩ : ∃ r, w1.heap.size + 2 = r := ⟨_, rfl⟩
 obtain ⟨g, xh⟩ : ∃ g, w1.heap.size + 1 = g := ⟨_, rfl⟩
 rw [xg, xh] at kb
 rw [xh] at hj
 rw [xg]
 have y5 : r ≠ g := by omega
 have yh : w.heap.size + 1 < g := by omega
 have yi : w.heap.size + 1 < r := by omega
 obtain ⟨sz, k9⟩ : ∃ sz, D * 44 - 4 = sz := ⟨_, rfl⟩
 have xi : RpI w w.heap.size D L G v p r g A.n sz n1 A F P l D1 L1 G1 t1 f1 0 (.slice none 0 0) (.slice none 0 0) w3 :=
  ⟨by rw [Nat.zero_mul, Nat.zero_min, List.take_zero]; exact World.ownsRow_nil _ _ _ _, World.ownsRow_nil _ _ _ _, ⟨0, 0, 0, kb⟩, ⟨_, hj⟩, ⟨A.reads, qx.arr⟩, xf, q0⟩
 have H3 := hide4 xi xe qx kh
 clear k0 k5 k7 k8 kb hj xe qx q0 xf kh xi cl d0
 rename_i q1
 refine q1 _ _ ?_
 clear q1
 simp only [Act.putFrom, Act.put, List.setIfInBounds_toArray, List.set_cons_succ, List.set_cons_zero]
 rw [decide_eq_false (show ¬ NB < K by omega)]
 go_wp2_with fail
 go_loopw [4, 5, 8, 33] (fun up uq nx i wr => RpR w w.heap.size D L G v p r g A.n sz n1 A F P l D1 L1 G1 t1 f1 up uq nx i wr) (fun _ _ _ i _ => K - (intOf i).toNat)
 case atStart => exact ⟨0, Nat.zero_le _, rfl, by rw [xd], H3.out.1⟩
 case round =>
  obtain ⟨k, y6, rfl, rfl, hI⟩ := hrel
  rw [hK] at y6
  by_cases yj : k < K
  · have qh : k < P.length := by omega
    have qi : k * sz ≤ n1 := by
     have := pgs_mul (n := n1) qd (k := k) (by omega)
     rw [k9] at this
     exact this
    obtain ⟨pa, pc, xj⟩ := own_slice hI.pk
    rw [show min (k * sz) n1 = k * sz by omega] at xj
    subst xj
    obtain ⟨pl, q2⟩ : ∃ pl, k * sz = pl := ⟨_, rfl⟩
    obtain ⟨nx, q3⟩ : ∃ nx, P.getD k 0 = nx := ⟨_, rfl⟩
    have q4 : nx ∈ P := by rw [← q3]; simp [List.getD_eq_getElem?_getD, qh]
    have qy := x9 _ q4
    obtain ⟨rs, hm⟩ := hI.arr
    obtain ⟨b0, gone, sp, ki⟩ := hI.rd
    obtain ⟨fr, he⟩ := hI.row
    have hp : ArcAt wr ar v D' L' G' t f nn pg ob off := HV.out.1.keep (hI.out.block _ qo xz)
    have kj : Vol wr v p D L G ps 0 (A.rd rs) F := HV.out.2.turn hF hI.out hm
    have HI := hide6 hI hm ki he hp kj
    rw [q2] at qi ⊢
    rw [q3]
    clear hI hm ki he hp kj
    go_wp2_with fail
    obtain ⟨hI, hm, ki, he, hp, kj⟩ := HI.out
    refine readPages_region7 hp kj.vol qd hD hI.box x8 qi (by kernel_rfl) rfl rfl rfl rfl ?_
    intro w4 qj
    obtain ⟨sk, q5⟩ : ∃ sk, min (n1 - pl) (D * 44 - 4) = sk := ⟨_, rfl⟩
    rw [q5]
    have kk : Below wr.heap.size wr w4 := by rw [qj]; exact (Below.refl _ wr).drew
    have h6 : w4.ownsRow w.heap.size 5 1 (.slice pa pl pc) pl (bts (l.take pl)) := by
     have h1 := hI.pk
     rw [q2, show min pl n1 = pl by omega] at h1
     rw [qj]; exact h1
    have h7 : w4.ownsRow w.heap.size 3 1 u5 k (ivs (P.take k)) := by rw [qj]; exact hI.pg
    have xk := kj.below kk (Nat.le_refl _)
    have ha := ki.keep (kk.block _ ki.lt)
    have h4 := he.of_block (kk.block _ he.lt)
    have hg := (kk.block _ (Array.getElem?_eq_some_iff.1 hI.box).1).trans hI.box
    have km : Outside (F.has p A.n) w w4 := hI.out.trans (Outside.of_all kk _)
    have qz : 4 + sk ≤ D * 44 := by omega
    have q6 := data_ok (b := nx) xk hF ⟨hf.n, hf.nb, hf.len, hf.byt⟩ ha h4 (by show 0 < A.n; omega) qy hw (4 + sk) ((4 + sk + 43) / 44) rfl (by omega) (by show (4 + sk + 43) / 44 ≤ A.n; omega) (by omega) (fun i _ => kn i) (fun i _ => qk _ q4 i) (fun i => (stripeL D L G (pageB D P l k)).getD i [])
     (fun i hi => ?ok) (fun i hi => by have := qm k qh i (by omega); rw [q3] at this; exact this) (fun q => by have := ka _ q; omega) (fun q => by have := ka _ q; omega) y5 (by omega) (by omega) (by omega) (by omega)
    case ok =>
     have xm : i < (stripeL D L G (pageB D P l k)).length := by rw [stripeL_len]; omega
     have e : (stripeL D L G (pageB D P l k)).getD i [] = (stripeL D L G (pageB D P l k))[i] := by simp [xm]
     rw [e]; exact stripeL_row hD hG _ i xm
    have h5 : (pageB D P l k).length = 4 + sk := by rw [pageB_len', k9, q2, qq, ← q5, k9]
    rw [data_take rfl (by omega) (by rw [h5]; exact qz) (pageB_lt x7 P k) (by rw [h5]; exact Nat.le_refl _), List.take_of_length_le (by rw [h5]; exact Nat.le_refl _)] at q6
    have H4 := hide8 q6 h6 h7 ha h4 hg km h5
    clear q6 h6 h7 ha h4 hg km h5 xk hI hm ki he hp kj kk qj
    rename_i q1
    refine q1 _ _ ?_
    clear q1
    simp only [Act.putFrom, Act.put, List.setIfInBounds_toArray, List.set_cons_succ, List.set_cons_zero]
    go_wp2_with fail
    rw [show (4 : Int) + (sk : Int) = ((4 + sk : Nat) : Int) by omega]
    refine H4.out.1.mono ?_
    rintro e w5 ⟨u, rfl, hz⟩
    obtain ⟨q6, h6, h7, ha, h4, hg, km, h5⟩ := H4.out
    clear q6
    obtain ⟨ao, uc, hu, xn, _, _, hc⟩ := hz.bytes
    rw [h5] at hu xn hc
    obtain ⟨pb, po, rfl, hr⟩ := hc (fun e => by rw [e] at h5; have h0 : (0 : Nat) = 4 + sk := h5; omega)
    subst hu
    have y7 : w4.heap.size ≤ pb := hz.fresh pb rfl
    have yk := km.size
    have ym := hz.out.size
    have yn : pb < w5.heap.size := block_lt_of_cell (hr 0 (by omega))
    have kc : w5.ownsRow w.heap.size 5 1 (.slice pa pl pc) pl (bts (l.take pl)) := own_keepO h6 hz.out fun q hq h => by
     rcases h with h | h | h
     · subst h; exact own_apart h6 ha (by decide) hq
     · subst h; obtain ⟨cs, x0, _⟩ := h4; exact own_apart h6 x0 (by decide) hq
     · have h1 := ka q h; have h2 := own_ge h6 hq; omega
    have kd : w5.ownsRow w.heap.size 3 1 u5 k (ivs (P.take k)) := own_keepO h7 hz.out fun q hq h => by
     rcases h with h | h | h
     · subst h; exact own_apart h7 ha (by decide) hq
     · subst h; obtain ⟨cs, x0, _⟩ := h4; exact own_apart h7 x0 (by decide) hq
     · have h1 := ka q h; have h2 := own_ge h7 hq; omega
    have q7 : w5.heap[w.heap.size]? = some (.cells (rootA D1 L1 G1 t1 f1 n1) 107 (0, 0)) := (hz.out.block _ (Array.getElem?_eq_some_iff.1 hg).1 (fun h => by
     rcases h with h | h | h
     · omega
     · omega
     · have h1 := ka _ h; omega)).trans hg
    have xo : Outside (F.has p A.n) w w5 := km.later (T := fun q => q = r ∨ q = g ∨ F.has p A.n q) hz.out fun q hq h => by
     rcases h with h | h | h
     · omega
     · omega
     · exact h
    have q8 : ∀ q, Value.ownBlock (.slice pa pl pc) = some q → q ≠ pb := fun q hq e => by
     obtain ⟨cur, hs⟩ := own_type h6 hq
     have := (Array.getElem?_eq_some_iff.1 hs).1
     omega
    have q9 : ∀ q, Value.ownBlock u5 = some q → q ≠ pb := fun q hq e => by
     obtain ⟨cur, hs⟩ := own_type h7 hq
     have := (Array.getElem?_eq_some_iff.1 hs).1
     omega
    have x1 : uc = 4 + sk := by
     obtain ⟨ao', n', y8⟩ := hz.cap
     injection y8 with h1 h2 h3
     omega
    subst x1
    have hx : PgC w5 pb po (4 + sk) (pageB D P l k) := hr
    have x2 : (pageB D P l k).take 4 = be (P.getD (k + 1) 0) 4 := by unfold pageB; rw [List.take_append_of_le_length (by rw [be_len]; exact Nat.le_refl _), List.take_of_length_le (by rw [be_len]; exact Nat.le_refl _)]
    have xp : (pageB D P l k).drop 4 = (l.drop pl).take sz := by
     unfold pageB
     rw [List.drop_append_of_le_length (by rw [be_len]; exact Nat.le_refl _), List.drop_of_length_le (by rw [be_len]; exact Nat.le_refl _), k9, q2]; rfl
    obtain ⟨nx', k6⟩ : ∃ nx', P.getD (k + 1) 0 = nx' := ⟨_, rfl⟩
    rw [k6] at x2
    have xq : nx' < 4294967296 := by
     rw [← k6]
     by_cases h9 : k + 1 < P.length
     · have h8 : P.getD (k + 1) 0 ∈ P := by simp [List.getD_eq_getElem?_getD, h9]
       have := x9 _ h8
       have := hf.nb
       omega
     · simp [List.getD_eq_getElem?_getD, List.getElem?_eq_none (by omega : P.length ≤ k + 1)]
    have qa : ofB (be nx' 4) = nx' := ofB_be nx' 4 (by omega) (by omega)
    have xs : l.take pl ++ (l.drop pl).take sz = l.take (pl + sz) := (List.take_add ..).symm
    have xv : (Value.slice pa pl pc).ownBlock = none ∨ (Value.slice pa pl pc).ownBlock ≠ u5.ownBlock := by
     cases h8 : (Value.slice pa pl pc).ownBlock with
     | none => exact .inl rfl
     | some q =>
      refine .inr fun e => ?_
      obtain ⟨cur, hs⟩ := own_type kc h8
      exact own_apart kd hs (by decide) e.symm
    have xx : u5.ownBlock ≠ some pb := fun e => q9 pb e rfl
    have xy : (Value.slice pa pl pc).ownBlock ≠ some pb := fun e => q8 pb e rfl
    have H5 := hide15 hz kc kd q7 xo hx h5 x2 xp xv xx xy k6 xs q2
    clear hz kc kd q7 xo q8 q9 hr h5 h6 h7 ha h4 hg km hx x2 xp xv xx xy xn hc k6 xs
    have yo : k ≤ 1000000 := by omega
    have y9 : sk ≤ 1000000 := by omega
    by_cases ya : sk = 0
    · subst ya
      go_wp2_with (first
       | (show wpList _ _ _ ({ dst := some 57, op := _, type := _, pos := _, after := _, guard := _ } :: _) _ _; refine wpList_append_own_at _ rfl (.tmp 54) (.tmp 56) 108 rfl w.heap.size 3 ii (.int .i64 0) 1 8 Tryz.underlying108 xb kv kx ky rfl (by decide) u5 k (ivs (P.take k)) rfl (by exact H5.out.2.2.1.alloc _) ⟨w5.heap.size, 0, none⟩ 1 1 _ rfl rfl (one_made w5 _ _) (by intro u hu; simp at hu; subst hu; rfl) (by unfold maxLen; omega) (by omega) (by simp; omega) ?_; intro v6 w6 qb hy x3 ke; have H6 := hide4 qb hy ((H5.out.2.1.alloc _).kept hy H5.out.2.2.2.2.2.2.2.2.2.1) ((H5.out.2.2.2.2.2.1.alloc _).grown hy H5.out.2.2.2.2.2.2.2.2.2.2.1); have x4 := hy.size; clear qb hy x3 ke)
       | (show wpList _ _ _ ({ dst := some 61, op := _, type := _, pos := _, after := _, guard := _ } :: _) _ _; refine wpList_append_from _ rfl (.tmp 58) (.tmp 60) 31 31 rfl w.heap.size 5 ib (.int .u8 0) 1 1 Tryz.underlying31 xa kp kr ks rfl (.slice pa pl pc) pl (bts (l.take pl)) (by rfl) (by exact H6.out.2.2.1) _ (by rfl) 0 ([]) (by exact PgC.src0) (by unfold maxLen; omega) (by omega) (by simp at x4; omega) ?_; intro v7 w7 qc kf kg; have H7 := hide3 qc kf (H6.out.2.2.2.grown kf H5.out.2.2.2.2.2.2.2.2.2.2.2.1); clear qc kf kg))
      refine (of_num _ (be nx' 4) w7 (H7.out.2.2.head (by omega) (by omega) H5.out.2.2.2.2.2.2.2.1)).mono ?_
      rintro e w8 ⟨rfl, hh⟩
      obtain rfl : w7 = w8 := hh.symm
      clear hh
      rw [qa]
      go_wp2
      go_roundw
      case rel => exact ⟨k + 1, by omega, by go_num, by rw [H5.out.2.2.2.2.2.2.2.2.2.2.2.2.1], rp_step H5.out.1 H5.out.2.2.1 H5.out.2.2.2.1 H5.out.2.2.2.2.1 H6.out.1 H6.out.2.1 H6.out.2.2.1 H7.out.1 H7.out.2.1 ka (by omega) qh q3 k9 H5.out.2.2.2.2.2.2.2.2.2.2.2.2.2.2 q5 qi (by rw [show (l.drop pl).take sz = [] from List.length_eq_zero_iff.1 (by rw [List.length_take, List.length_drop, qq, Nat.min_comm, ← k9]; exact q5)]; rfl)⟩
      case measure => simp [intOf]; omega
    · have yp : ¬ 4 + sk - 4 = 0 := by omega
      go_wp2_with (first
       | (show wpList _ _ _ ({ dst := some 57, op := _, type := _, pos := _, after := _, guard := _ } :: _) _ _; refine wpList_append_own_at _ rfl (.tmp 54) (.tmp 56) 108 rfl w.heap.size 3 ii (.int .i64 0) 1 8 Tryz.underlying108 xb kv kx ky rfl (by decide) u5 k (ivs (P.take k)) rfl (by exact H5.out.2.2.1.alloc _) ⟨w5.heap.size, 0, none⟩ 1 1 _ rfl rfl (one_made w5 _ _) (by intro u hu; simp at hu; subst hu; rfl) (by unfold maxLen; omega) (by omega) (by simp; omega) ?_; intro v6 w6 qb hy x3 ke; have H6 := hide4 qb hy ((H5.out.2.1.alloc _).kept hy H5.out.2.2.2.2.2.2.2.2.2.1) ((H5.out.2.2.2.2.2.1.alloc _).grown hy H5.out.2.2.2.2.2.2.2.2.2.2.1); have x4 := hy.size; clear qb hy x3 ke)
       | (show wpList _ _ _ ({ dst := some 61, op := _, type := _, pos := _, after := _, guard := _ } :: _) _ _; refine wpList_append_from _ rfl (.tmp 58) (.tmp 60) 31 31 rfl w.heap.size 5 ib (.int .u8 0) 1 1 Tryz.underlying31 xa kp kr ks rfl (.slice pa pl pc) pl (bts (l.take pl)) (by rfl) (by exact H6.out.2.2.1) _ (by rfl) sk (bts ((pageB D P l k).drop 4)) (by exact H6.out.2.2.2.src H5.out.2.2.2.2.2.2.1) (by unfold maxLen; omega) (by omega) (by simp at x4; omega) ?_; intro v7 w7 qc kf kg; have H7 := hide3 qc kf (H6.out.2.2.2.grown kf H5.out.2.2.2.2.2.2.2.2.2.2.2.1); clear qc kf kg))
      refine (of_num _ (be nx' 4) w7 (H7.out.2.2.head (by omega) (by omega) H5.out.2.2.2.2.2.2.2.1)).mono ?_
      rintro e w8 ⟨rfl, hh⟩
      obtain rfl : w7 = w8 := hh.symm
      clear hh
      rw [qa]
      go_wp2
      go_roundw
      case rel => exact ⟨k + 1, by omega, by go_num, by rw [H5.out.2.2.2.2.2.2.2.2.2.2.2.2.1], rp_step H5.out.1 H5.out.2.2.1 H5.out.2.2.2.1 H5.out.2.2.2.2.1 H6.out.1 H6.out.2.1 H6.out.2.2.1 H7.out.1 H7.out.2.1 ka (by omega) qh q3 k9 H5.out.2.2.2.2.2.2.2.2.2.2.2.2.2.2 q5 qi (by rw [H5.out.2.2.2.2.2.2.2.2.1])⟩
      case measure => simp [intOf]; omega
  · have yb : k = K := by omega
    have HI := hide hI
    clear hI
    go_wp2
    go_ret3
    have hI := HI.out
    have x5 := pgs_end (n := n1) qd
    rw [← ko, hK, ← yb, k9] at x5
    refine ⟨_, _, rfl, ?_, ?_, hI.arr, hI.out⟩
    · have h1 := hI.pk
      rw [List.take_of_length_le (by omega)] at h1
      exact Bs.of_owns h1 x7 (by omega)
    · have h1 := hI.pg
      rw [List.take_of_length_le (by omega)] at h1
      have x6 : P ≠ [] := fun e => by
       have h2 : 1 ≤ pgs D n1 := Nat.le_max_left _ _
       rw [e] at ko
       simp at ko
       omega
      exact (own_ints h1 x6 (by omega) (K := fun k => w.heap.size ≤ k) (fun k hk => hk)).choose_spec.choose_spec.2
theorem convert_none (ao : Option Addr) (a : Nat) (w : World) : (convert 31 9 (.slice ao 0 a)).run Tryz.prog w = .ok (.string ByteArray.empty) w := by
 rw [run_convert_bytes_string w 31 9 5 ao 0 a Tryz.underlying31 Tryz.underlying5 Tryz.underlying9]
 cases ao <;> simp [Conv.bytesToString, loadCells, loadCellsFrom]
theorem Ints.ltS (h : Ints K w v l) : Ints (fun k => k < w.heap.size) w v l := by
 obtain ⟨ao, c, h1, h2, h3⟩ := h
 refine ⟨ao, c, h1, h2, fun hl => ?_⟩
 obtain ⟨b, off, q1, _, q3, q4⟩ := h3 hl
 exact ⟨b, off, q1, q3, q3, q4⟩
theorem Cat.ltS (h : Cat K w v os) : Cat (fun k => k < w.heap.size) w v os := by
 obtain ⟨ao, c, h1, h2, h3⟩ := h
 refine ⟨ao, c, h1, h2, fun hl => ?_⟩
 obtain ⟨b, off, q1, _, q3, q4⟩ := h3 hl
 refine ⟨b, off, q1, q3, q3, fun i hi => ?_⟩
 obtain ⟨sv, r1, r2, r3, r4⟩ := q4 i hi
 exact ⟨sv, r1, r2, r3, r4.ltS⟩
theorem Cat.weaken {K' : Nat → Prop} (h : Cat K w v os) (hk : ∀ k, K k → K' k) : Cat K' w v os := by
 obtain ⟨ao, c, h1, h2, h3⟩ := h
 refine ⟨ao, c, h1, h2, fun hl => ?_⟩
 obtain ⟨b, off, q1, q2, q3, q4⟩ := h3 hl
 refine ⟨b, off, q1, hk _ q2, q3, fun i hi => ?_⟩
 obtain ⟨sv, r1, r2, r3, r4⟩ := q4 i hi
 exact ⟨sv, r1, r2, r3, r4.weaken hk⟩
def UnpackOk (D : Nat) (l : List Nat) (os : List Ob) : Prop := ∀ (w : World) (v : Value), Bs w v l → Calls Tryz.prog 145 #[v, .int .i64 ((D * 44 : Nat) : Int)] w fun e w' => ∃ o, e = .returned (.tuple #[o, .bool true]) ∧ Cat (fun k => w.heap.size ≤ k) w' o os ∧ Below w.heap.size w w'
structure LcPost (w : World) (ar v p D1 L1 G1 t1 : Nat) (off : Bool) (A : Arr) (F : Foot) (P l : List Nat) (os : List Ob) (u o : Value) (w' : World) : Prop where
 arc : ArcAt w' ar v D1 L1 G1 t1 (P.getD 0 0) l.length u o off
 pg : Ints (fun k => w.heap.size ≤ k) w' u P
 cat : Cat (fun k => w.heap.size ≤ k) w' o os
 arr : ∃ rs, ArrAt w' p (A.rd rs) F
 out : Outside (fun k => k = ar ∨ F.has p A.n k) w w'
theorem loadCatalog_ok {v : Nat} {A : Arr} (hA : ArcAt w ar v D' L' G' t f nn pg ob off) (hV : Vol w v p D L G ps 0 A F) (hF : Free F p A.n v) (kb : ¬ F.has p A.n ar) (hf : A.fit) (hn : A.n = D + L + G) (q2 : 1 ≤ D) (hD : D ≤ 12) (q3 : L ≤ 4) (hG : G ≤ 4) (q4 : D + L + G ≤ 16)
 (hw : A.wait ≠ 0) (hs : ∀ i, A.lost i = false) (P l : List Nat) (q5 : ∀ x ∈ l, x < 256) (q6 : l.length ≤ 1000000) (kc : P.length = pgs D l.length) (q7 : ∀ x ∈ P, x < A.nb) (q8 : P.length ≤ A.nb) (q9 : P.length ≤ 1000000) (kd : ∀ x ∈ P, ∀ i, A.bad i x = false)
 (ke : ∀ k, k < P.length → ∀ i, i < A.n → A.blk i (P.getD k 0) = (Rec.shard ((stripeL D L G (pageB D P l k)).getD i [])).blk) (os : List Ob) (hU : UnpackOk D l os) (qa : (tk A.nb (P ++ allSt os)).2 = true) (kf : v ≠ ar) :
 Calls Tryz.prog 119 #[.pointer (some ⟨ar, 0, none⟩), .agg (rootA D1 L1 G1 t1 (P.getD 0 0) l.length)] w fun e w' => e = .returned .nilIface ∧ ∃ u o, LcPost w ar v p D1 L1 G1 t1 off A F P l os u o w' := by
 have kv : ∀ k, F.has p A.n k → k < w.heap.size := fun k hk => hV.arr.has_lt hk
 have qb := hA.lt
 obtain ⟨n1, k7⟩ : ∃ n1, l.length = n1 := ⟨_, rfl⟩
 obtain ⟨f1, k8⟩ : ∃ f1, P.getD 0 0 = f1 := ⟨_, rfl⟩
 have hq : (w.alloc (.cells (rootA D1 L1 G1 t1 f1 n1) 107)).heap[w.heap.size]? = some (.cells (rootA D1 L1 G1 t1 f1 n1) 107 (0, 0)) := blk_alloc_new _ _
 have hg : Below w.heap.size w (w.alloc (.cells (rootA D1 L1 G1 t1 f1 n1) 107)) := (Below.refl _ w).alloc (Nat.le_refl _) _
 have k9 : (w.alloc (.cells (rootA D1 L1 G1 t1 f1 n1) 107)).heap.size = w.heap.size + 1 := by simp
 obtain ⟨w1, kg⟩ : ∃ w1, w.alloc (.cells (rootA D1 L1 G1 t1 f1 n1) 107) = w1 := ⟨_, rfl⟩
 rw [kg] at hq hg k9
 have hh := hA.keep (hg.block _ hA.lt)
 have hr := hV.below hg (Nat.le_refl _)
 have kh := readPages_ok (D1 := D1) (L1 := L1) (G1 := G1) (t1 := t1) hh hr hF kb hf hn q2 hD q3 hG q4 hw hs P l q5 q6 kc q7 q8 q9 kd ke
 rw [k8, k7] at kh
 rw [k7, k8]
 have H1 := hide6 hh hr hq hg k9 kh
 have qd : w.alloc (.cells #[.int .i64 D1, .int .i64 L1, .int .i64 G1, .int .u64 t1, .int .i64 f1, .int .i64 n1] 107) = w1 := kg
 have HV := hide2 hA hV
 have HN := hide3 k7 kc k8
 clear hA hV hq hg hh hr k9 kg kh k7 kc k8
 show Calls Tryz.prog 119 #[.pointer (some ⟨ar, 0, none⟩), .agg #[.int .i64 D1, .int .i64 L1, .int .i64 G1, .int .u64 t1, .int .i64 f1, .int .i64 n1]] w _
 go_enter Tryz.func119, Tryz.ntmps119
 go_wp2_with (show wpList _ _ _ ({ dst := some 14, op := _, type := _, pos := _, after := _, guard := _ } :: _) _ _; refine rt_load (D := D1) (L := L1) (G := G1) (t := t1) (f := f1) (n := n1) (b := w.heap.size) rfl (.tmp 3) rfl rfl (by rfl) (by exact H1.out.2.2.1) ?_)
 refine H1.out.2.2.2.2.2.mono ?_
 rintro e w2 ⟨up, uq, rfl, h0⟩
 obtain ⟨hh, hr, hq, hg, k9, hx⟩ := H1.out
 clear hx
 obtain ⟨rs, h1⟩ := h0.arr
 have hi := hh.keep (h0.out.block _ hh.lt kb)
 have h9 : Vol w2 v p D L G ps 0 (A.rd rs) F := hr.turn hF h0.out h1
 have h6 := (h0.out.block _ (by omega) (fun q => by have := kv _ q; omega)).trans hq
 obtain ⟨d0, _⟩ := hi.cells
 have ki := stripeSize_any h9.vol (by omega)
 have kj := hU w2 up h0.pk
 obtain ⟨D44, kk⟩ : ∃ D44, D * 44 = D44 := ⟨_, rfl⟩
 rw [kk] at ki kj
 have qk := h0.out.size
 have hy : Outside (F.has p A.n) w w2 := (Outside.of_all hg _).trans h0.out
 obtain ⟨uao, uc, hz, _⟩ := h0.pk
 obtain ⟨qao, qc, k0, _⟩ := id h0.pg
 rw [HN.out.1] at hz
 obtain ⟨KP, km⟩ : ∃ KP, P.length = KP := ⟨_, rfl⟩
 rw [km] at k0
 have qm := hide km
 have H2 := hide8 hi h9 h6 ki kj h0.pg hy h1
 clear hh hr hq hg h0 hi h9 h6 ki kj hy h1 km
 subst hz
 subst k0
 go_wp2_with fail
 refine H2.out.2.2.2.1.mono ?_
 rintro e w3 ⟨rfl, kx⟩
 obtain rfl : w2 = w3 := kx.symm
 clear kx
 go_wp2_with fail
 refine H2.out.2.2.2.2.1.mono ?_
 rintro e w3 ⟨o, rfl, h7, ha⟩
 obtain ⟨hi, h9, h6, kn, ko, hc, hy, h1⟩ := H2.out
 clear kn ko
 obtain ⟨oao, oc, qe, _⟩ := id h7
 have kp := hi.keep (ha.block _ hi.lt)
 have k5 := (ha.block _ (Array.getElem?_eq_some_iff.1 h6).1).trans h6
 have k6 : Outside (F.has p A.n) w w3 := hy.trans (Outside.of_all ha _)
 have ky := kp.there
 have hj := arc_root (D := D1) (L := L1) (G := G1) (t := t1) (f := f1) (n := n1) kp
 have h8 : Outside (fun k => k = ar) w3 (w3.setCells ar 1 (rootA D1 L1 G1 t1 f1 n1).toList) := Outside.setCells _ ar 1 _ rfl
 obtain ⟨w8, kr⟩ : ∃ w8, w3.setCells ar 1 (rootA D1 L1 G1 t1 f1 n1).toList = w8 := ⟨_, rfl⟩
 rw [kr] at hj h8
 obtain ⟨c7, f7, c8, f8⟩ := hj.tail
 have kz := ha.size
 have H3 := hide11 hj h8 ky k5 kr k6 h7 hc h9 h1 ha
 clear hi h9 h6 hc hy h1 kp k5 k6 ky hj h8 kr h7 ha d0
 subst qe
 go_wp2_with (first | (show wpList _ _ _ ({ dst := some 38, op := _, type := _, pos := _, after := _, guard := _ } :: _) _ _; refine rt_load (D := D1) (L := L1) (G := G1) (t := t1) (f := f1) (n := n1) (b := w.heap.size) rfl (.tmp 3) rfl rfl (by rfl) (by exact H3.out.2.2.2.1) ?_) | (show wpList _ _ _ ({ dst := none, op := Op.store 107 (.tmp 42) (.tmp 38), type := _, pos := _, after := _, guard := _ } :: _) _ _; refine wpList_store_mid rfl 107 (.tmp 42) (.tmp 38) rfl ar 1 (rootA D1 L1 G1 t1 f1 n1) (by rfl) (by rfl) (by exact H3.out.2.2.1) (rootA_info _ _ _ _ _ _) (rootA_one _ _ _ _ _ _) ?_; rw [H3.out.2.2.2.2.1]))
 obtain ⟨hj, h8, kn, ko, qf, k6, h7, hc, h9, h1, ha⟩ := H3.out
 clear kn ko qf
 have hm := hj.late (.slice qao KP qc) (.slice oao os.length oc)
 have h2 : Outside (fun k => k = ar) w3 ((w8.setCell ⟨ar, 7, none⟩ (.slice qao KP qc)).setCell ⟨ar, 8, none⟩ (.slice oao os.length oc)) := (h8.trans (Outside.setCell _ _ _ rfl)).trans (Outside.setCell _ _ _ rfl)
 obtain ⟨w9, q0⟩ : ∃ w9, (w8.setCell ⟨ar, 7, none⟩ (.slice qao KP qc)).setCell ⟨ar, 8, none⟩ (.slice oao os.length oc) = w9 := ⟨_, rfl⟩
 rw [q0] at hm h2 ⊢
 have q1 : VolAt w9 v p D L G ps 0 := (h9.vol.keep (ha.block _ h9.vol.lt)).keep (h2.block _ (Nat.lt_of_lt_of_le h9.vol.lt kz) kf)
 have h3 : ArrAt w9 p (A.rd rs) F := (h1.below ha (Nat.le_refl _)).keep fun k hk => h2.block k (by have := kv k hk; omega) (fun e => kb (e ▸ hk))
 have he : Ints (fun k => w.heap.size ≤ k) w9 (.slice qao KP qc) P := (hc.weaken fun k hk => by omega).keep ⟨Nat.le_trans kz h2.size, fun k hk qg => (h2.block k (by omega) (fun e => by omega)).trans (ha.block k hk)⟩
 have h4 : Cat (fun k => w.heap.size ≤ k) w9 (.slice oao os.length oc) os := (h7.weaken fun k hk => by omega).keep ⟨h2.size, fun k hk qg => h2.block k hk (fun e => by omega)⟩
 have ka : Outside (fun k => k = ar ∨ F.has p A.n k) w w9 := (k6.mono fun _ _ q => .inr q).trans (h2.mono fun _ _ q => .inl q)
 have hp := taken_any hm q1 h3 ⟨hf.n, hf.nb, hf.len, hf.byt⟩ (by show 0 < A.n; omega) P os he.ltS h4.ltS
 rw [show (A.rd rs).nb = A.nb from rfl, qa] at hp
 have H9 := hide6 hp hm h3 he h4 ka
 clear hj h8 k6 h7 hc h9 h1 ha hm h2 q0 q1 h3 he h4 ka hp c7 f7 c8 f8
 refine H9.out.1.mono ?_
 rintro e w10 ⟨gt, rfl, qh, ks, h5⟩
 have qi := hide h5
 clear h5 ks qh
 obtain ⟨NB, qj⟩ : ∃ NB, A.nb = NB := ⟨_, rfl⟩
 rw [qj]
 go_wp2
 go_ret
 obtain ⟨hx, hm, h3, he, h4, ka⟩ := H9.out
 have h5 := qi.out
 refine ⟨rfl, _, _, ⟨by rw [HN.out.1, HN.out.2.2]; exact hm.keep (h5.block _ hm.lt), he.keep (KpS.of_below h5), h4.keep (KpS.of_below h5), ⟨_, h3.below h5 (Nat.le_refl _)⟩, ka.trans (Outside.of_all h5 _)⟩⟩
theorem eqIn_iface (d : Nat) (tx : TypeId) (vx vy : Value) (i : TypeInfo) (hi : Tryz.prog.info? tx = some i) (hc : i.comparable = true) (w : World) : (Op.equalIn (d + 1) 202 (.iface tx vx) (.iface tx vy)).run Tryz.prog w = (Op.equalIn d tx vx vy).run Tryz.prog w := by
 simp [Op.equalIn, run_underlying Tryz.underlying202, typeInfo, hi, hc]
theorem eqParams (D L G D' L' G' : Int) (w : World) : (Op.equalIn 10000 25 (.agg #[.int .i64 D, .int .i64 L, .int .i64 G]) (.agg #[.int .i64 D', .int .i64 L', .int .i64 G'])).run Tryz.prog w = .ok (decide (D = D' ∧ L = L' ∧ G = G')) w := by
 by_cases h1 : D = D'
 · by_cases h2 : L = L'
   · by_cases h3 : G = G'
     · subst h1 h2 h3
       go_simp
     · have : (G == G') = false := by simp [h3]
       subst h1 h2
       go_simp
   · have : (L == L') = false := by simp [h2]
     subst h1
     go_simp
 · have : (D == D') = false := by simp [h1]
   go_simp
theorem eqRoot_same (D L G t f n : Nat) (w : World) : (Op.equalIn 9999 107 (.agg (rootA D L G t f n)) (.agg (rootA D L G t f n))).run Tryz.prog w = .ok true w := by
 unfold rootA
 go_simp
theorem infoRoot : ∃ i : TypeInfo, Tryz.prog.info? 107 = some i ∧ i.comparable = true := by
 have : (Tryz.prog.info? 107).map (fun i => i.comparable) = some true := by kernel_rfl
 rw [Option.map_eq_some_iff] at this
 exact this
theorem eqRec_same (D L G t f n : Nat) (w : World) : (Op.equalIn 10000 202 (recV (.root D L G t f n)) (recV (.root D L G t f n))).run Tryz.prog w = .ok true w := by
 obtain ⟨i, h1, h2⟩ := infoRoot
 exact (eqIn_iface 9999 107 _ _ i h1 h2 w).trans (eqRoot_same D L G t f n w)
end Go.Proofs.YtpaemkanfnddoaaGreatDoor
