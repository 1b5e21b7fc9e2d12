import Derived.Test.YthhommjlomphdabDoorChecksFor
import Derived.Test.YthhommjlomphdabDoorWrite
import Derived.Test.YthhommjlomphdabDoorPart15
import Derived.Laws.BitsAllLaws
/-
  The program's Compile.
-/
namespace Go.Proofs.YthhommjlomphdabDoor
open Go.RowKit Go.Shelf Go.Deep Gf

/-- what lies in the blocks of Compile -/
structure CI (w : World) (D L G : Int) (X : World) : Prop where
  par : X.heap[w.heap.size]? = some (.cells #[.int .i64 D, .int .i64 L, .int .i64 G] 23 (0, 0))
  res : X.heap[w.heap.size + 1]? = some (.cells #[.int .i64 0, .slice none 0 0] 27 (0, 0))
  below : Below w.heap.size w X
theorem CI.mono {w X Y : World} {D L G : Int} {B : Nat} (h : CI w D L G X) (hb : Below B X Y) (hB : w.heap.size + 2 ≤ B) : CI w D L G Y :=
  ⟨(hb.block _ (by omega)).trans h.par, (hb.block _ (by omega)).trans h.res, h.below.trans (hb.mono (by omega))⟩
theorem CI.new (w : World) (D L G : Int) : CI w D L G ((w.alloc (.cells #[.int .i64 D, .int .i64 L, .int .i64 G] 23)).alloc (.cells #[.int .i64 0, .slice none 0 0] 27)) := by
  refine ⟨?_, ?_, ((Below.refl _ w).alloc (Nat.le_refl _) _).alloc (by simp) _⟩
  · rw [Below.heap_alloc _ _ _ (by simp)]; exact World.alloc_heap_new _ _
  · have := World.alloc_heap_new (w.alloc (.cells #[.int .i64 D, .int .i64 L, .int .i64 G] 23)) (.cells #[.int .i64 0, .slice none 0 0] 27)
    rwa [World.size_alloc] at this
/-- all n shards -/
def allN (n : Nat) : Nat := 2 ^ n - 1
theorem gone_key (lost n : Nat) (hl : lost < 18446744073709551616) (hn : n ≤ 16) : bits .and .u64 (lost : Int) (allN n : Int) = ((goneN n lost : Nat) : Int) := by
  have := pow16 hn
  have h2 : 0 < 2 ^ n := Nat.two_pow_pos n
  exact and_u64 lost (2 ^ n - 1) hl (by omega)
theorem pw_key (n : Nat) (h : n ≤ 16) : IntKind.u64.wrap ((pw n : Int) - 1) = (allN n : Int) := by
  have h1 := pow16 h
  have h2 : 0 < 2 ^ n := Nat.two_pow_pos n
  unfold pw allN
  rw [IntKind.wrap_u64]
  generalize 2 ^ n = q at h1 h2
  omega
theorem kept_key (lost n : Nat) (hn : n ≤ 16) : bits .andNot .u64 (allN n : Int) ((goneN n lost : Nat) : Int) = ((keptN n lost : Nat) : Int) := by
  have h1 := pow16 hn
  have h2 := goneN_lt lost hn
  exact u64_andNot_nat (2 ^ n - 1) (goneN n lost) (by omega) (by omega)
/-- what Compile answers -/
def CpPost (D L G lost : Nat) (w : World) (e : Ending) (w' : World) : Prop :=
  Below w.heap.size w w' ∧ ((tells (cks D L G) (mems (goneN (D + L + G) lost)) = none ∧ e = .returned (.tuple #[.agg #[.int .i64 0, .slice none 0 0], .iface 41 (.int .i64 3)])) ∨
    (∃ C v, tells (cks D L G) (mems (goneN (D + L + G) lost)) = some C ∧ e = .returned (.tuple #[.agg #[.int .i64 (1 + ((mems (goneN (D + L + G) lost)).length : Int)), v], .nilIface]) ∧
      w'.ownsRow w.heap.size 50 4 v (wrAll (fewestS 8 C (keptN (D + L + G) lost)).1 (goneN (D + L + G) lost) (keptN (D + L + G) lost)).length (stcs .u8 (wrAll (fewestS 8 C (keptN (D + L + G) lost)).1 (goneN (D + L + G) lost) (keptN (D + L + G) lost)))))
theorem first_eq {z : Int} (k : Nat) (hk : k ≤ 16) (hz : z = (k : Int)) (w : World) :
    Calls Tryd.prog 25 #[.int .i64 z] w fun e w' => e = .returned (.int .u64 (allN k : Int)) ∧ w' = w := by subst hz; exact first_any k hk w
set_option maxRecDepth 100000 in
set_option maxHeartbeats 4000000 in
theorem compile_right (D L G lost : Nat) (hr : rightB D L G = true) (hD1 : 1 ≤ D) (hD : D ≤ 12) (hL : 1 ≤ L) (hL4 : L ≤ 4) (hG : G ≤ 4) (hdiv : D % L = 0) (h16 : D + L + G ≤ 16) (hl : lost < 18446744073709551616) (w : World) (hT : tabLaid w) (h2 : 2 ≤ w.heap.size) :
    Calls Tryd.prog 18 #[.agg #[.int .i64 D, .int .i64 L, .int .i64 G], .int .u64 lost] w fun e w' => CpPost D L G lost w e w' := by
  have hci0 := CI.new w D L G
  have hn2 : ((w.alloc (.cells #[.int .i64 (D : Int), .int .i64 (L : Int), .int .i64 (G : Int)] 23)).alloc (.cells #[.int .i64 0, .slice none 0 0] 27)).heap.size = w.heap.size + 2 := by simp
  obtain ⟨p0, p1, p2⟩ := par_cells hci0.par
  have H0 := hide (And.intro hci0 hn2)
  clear hci0 hn2
  go_enter Tryd.func18, Tryd.ntmps18
  go_wp2_with fail
  refine (right_any D L G _).mono ?_
  rintro e w1 ⟨rfl, hb1⟩
  obtain ⟨hci0, hn2⟩ := H0.out
  rw [hn2] at hb1
  have hs1 := hb1.size
  rw [hn2] at hs1
  have hci1 := hci0.mono hb1 (Nat.le_refl _)
  obtain ⟨p0, p1, p2⟩ := par_cells hci1.par
  have H1 := hide hci1
  clear H0 hci0 hn2 hb1 hci1
  go_wp2_with fail
  refine (shards_any D L G _ (by omega) (by omega) (by omega)).mono ?_
  rintro e w2 ⟨rfl, hb2⟩
  have hs2 := hb2.size
  have hci2 := H1.out.mono hb2 (by omega)
  obtain ⟨p0, p1, p2⟩ := par_cells hci2.par
  have H2 := hide hci2
  clear hci2 hb2 H1
  go_wp2_with fail
  refine (first_eq (D + L + G) h16 (by omega) w2).mono ?_
  rintro e w2' ⟨rfl, hw2'⟩
  subst hw2'
  have hgk := gone_key lost (D + L + G) hl h16
  go_wp2_with fail
  refine (checksFor_right D L G (goneN (D + L + G) lost) hr hD1 hD hL hL4 hG hdiv h16 (goneN_lt lost h16) w2' (hT.mono (by omega) H2.out.below) (by omega)).mono ?_
  rintro e w4 ⟨hb4, hcase⟩
  have hs4 := hb4.size
  have hci4 := H2.out.mono hb4 (by omega)
  have hz := zeroCk
  have hszz := ckA_size ckZ
  rcases hcase with ⟨hno, rfl⟩ | ⟨C, hC, rfl⟩
  · have hszc := ckA_size ckZ
    have hb5 : Below w4.heap.size w4 ((w4.alloc (.cells (ckA ckZ) 68)).setRow w4.heap.size (ckA ckZ)) := ((Below.refl _ _).alloc (Nat.le_refl _) _).grown (grown_setRow _ _ _) (by simp) (fun k e => by cases e; exact Nat.le_refl _)
    have hci5 := hci4.mono hb5 (by omega)
    obtain ⟨r0, r1, g1, g0⟩ := obj_cells hci5.res
    have H5 := hide (And.intro hci5 hno)
    clear hci4 hci5 hb4 hb5 H2 hno
    go_wp2_with (refine wpList_store_row rfl 68 (.tmp 8) (.tmp 25) rfl w4.heap.size (ckA ckZ) rfl rfl 68 (ckA ckZ) (CkAt.new w4 ckZ).heap (ckA_info _) rfl (ckA_one _) ?_)
    obtain ⟨hi, hno⟩ := H5.out
    have e1 := set2b (y' := .slice none 0 0) (set2a (x' := .int .i64 0) hi.res)
    obtain ⟨n0, n1, _⟩ := obj_cells e1
    refine bodyPost_ret (v := .tuple #[.agg #[.int .i64 0, .slice none 0 0], .iface 41 (.int .i64 3)]) (by simp [results, Tryd.results18, go_sem, n0, n1]) rfl ?_
    exact ⟨(hi.below.setCell (p := ⟨w.heap.size + 1, 0, none⟩) (by show w.heap.size ≤ w.heap.size + 1; omega) _).setCell (p := ⟨w.heap.size + 1, 1, none⟩) (by show w.heap.size ≤ w.heap.size + 1; omega) _, .inl ⟨hno, rfl⟩⟩
  · have hplan := (plan_of hD hG hC).1
    have hfit := cks_fit hD hL4 hG hC
    have hfitB : CkFit (fewestS 8 C (keptN (D + L + G) lost)).1 := ⟨hplan.byt, hplan.le, by have := hplan.most; omega⟩
    have hkk := kept_key lost (D + L + G) h16
    have hszc := ckA_size C
    have hb5 : Below w4.heap.size w4 ((w4.alloc (.cells (ckA ckZ) 68)).setRow w4.heap.size (ckA C)) := ((Below.refl _ _).alloc (Nat.le_refl _) _).grown (grown_setRow _ _ _) (by simp) (fun k e => by cases e; exact Nat.le_refl _)
    have hc5 : CkAt ((w4.alloc (.cells (ckA ckZ) 68)).setRow w4.heap.size (ckA C)) w4.heap.size C := (CkAt.new w4 ckZ).setRow C
    have hci5 := hci4.mono hb5 (by omega)
    have hz5 : ((w4.alloc (.cells (ckA ckZ) 68)).setRow w4.heap.size (ckA C)).heap.size = w4.heap.size + 1 := by simp [World.setRow]
    have hTX := hT.mono (by omega) hci5.below
    have H5 := hide (And.intro hci5 (And.intro hc5 (And.intro hz5 (And.intro hTX hC))))
    have HF := hide (And.intro hfit hfitB)
    clear hci4 hci5 hb4 hb5 hc5 hz5 hTX H2 hC hplan hfit hfitB
    go_wp2_with (first
      | refine wpList_store_row rfl 68 (.tmp 8) (.tmp 25) rfl w4.heap.size (ckA C) rfl rfl 68 (ckA ckZ) (CkAt.new w4 ckZ).heap (ckA_info _) (by rw [ckA_size, ckA_size]) (ckA_one _) ?_
      | refine wpList_load_row rfl 68 (.tmp 8) rfl w4.heap.size rfl 68 (ckA C) (0, 0) _ H5.out.2.1.heap Tryd.underlying68 rfl (ckA_info _) ?_)
    obtain ⟨w5, hw5⟩ : ∃ w5, (w4.alloc (.cells (ckA ckZ) 68)).setRow w4.heap.size (ckA C) = w5 := ⟨_, rfl⟩
    rw [hw5] at H5 ⊢
    clear hw5 hszc hszz hz
    refine (fewest_any C (keptN (D + L + G) lost) w5 HF.out.1 (keptN_lt lost h16) H5.out.2.2.2.1 (by have := H5.out.2.2.1; omega)).mono ?_
    rintro e w7 ⟨rfl, hb7⟩
    have hs7 := hb7.size
    have hi7 := H5.out.1.mono hb7 (by have := H5.out.2.2.1; omega)
    have h57 : w4.heap.size + 1 ≤ w7.heap.size := by have := H5.out.2.2.1; omega
    have HI7 := hide hi7
    clear hi7 hb7
    go_wp2_with fail
    refine (write_any (fewestS 8 C (keptN (D + L + G) lost)).1 (goneN (D + L + G) lost) (keptN (D + L + G) lost) w7 HF.out.2 (goneN_lt lost h16) (keptN_lt lost h16) (hT.mono (by omega) HI7.out.below) (by omega)).mono ?_
    rintro e w8 ⟨v, rfl, hb8, how⟩
    obtain ⟨ao, m, cc, rfl⟩ : ∃ ao m cc, v = .slice ao m cc := by
      rcases how.2 with ⟨rfl, _⟩ | ⟨g, cap, cur, rfl, _⟩
      · exact ⟨_, _, _, rfl⟩
      · exact ⟨_, _, _, rfl⟩
    have hi8 := HI7.out.mono hb8 (by omega)
    obtain ⟨r0, r1, g1, g0⟩ := obj_cells hi8.res
    have H8 := hide (And.intro hi8 how)
    clear hi8 how hb8
    go_wp2
    obtain ⟨hi8, how⟩ := H8.out
    have e1 := set2b (y' := .slice ao m cc) (set2a (x' := .int .i64 (1 + ((mems (goneN (D + L + G) lost)).length : Int))) hi8.res)
    obtain ⟨n0, n1, _⟩ := obj_cells e1
    have h7ne : (Value.slice ao m cc).ownBlock ≠ some (w.heap.size + 1) := fun e => by have := own_from how e; omega
    have how2 := (how.kept (grown_set' w8 (w.heap.size + 1) 0 (.int .i64 (1 + ((mems (goneN (D + L + G) lost)).length : Int)))) (.inr h7ne)).kept (grown_set' _ (w.heap.size + 1) 1 (.slice ao m cc)) (.inr h7ne)
    refine bodyPost_ret (v := .tuple #[.agg #[.int .i64 (1 + ((mems (goneN (D + L + G) lost)).length : Int)), .slice ao m cc], .nilIface]) (by simp [results, Tryd.results18, go_sem, n0, n1]) rfl ?_
    exact ⟨(hi8.below.setCell (p := ⟨w.heap.size + 1, 0, none⟩) (by show w.heap.size ≤ w.heap.size + 1; omega) _).setCell (p := ⟨w.heap.size + 1, 1, none⟩) (by show w.heap.size ≤ w.heap.size + 1; omega) _, .inr ⟨C, _, H5.out.2.2.2.2, rfl, owns_mono how2 (by omega)⟩⟩
set_option maxRecDepth 100000 in
set_option maxHeartbeats 4000000 in
theorem compile_wrong (D L G : Int) (lost : Nat) (hr : rightB D L G = false) (w : World) :
    Calls Tryd.prog 18 #[.agg #[.int .i64 D, .int .i64 L, .int .i64 G], .int .u64 lost] w fun e w' => e = .returned (.tuple #[.agg #[.int .i64 0, .slice none 0 0], .iface 41 (.int .i64 1)]) ∧ Below w.heap.size w w' := by
  have hci0 := CI.new w D L G
  have hn2 : ((w.alloc (.cells #[.int .i64 D, .int .i64 L, .int .i64 G] 23)).alloc (.cells #[.int .i64 0, .slice none 0 0] 27)).heap.size = w.heap.size + 2 := by simp
  obtain ⟨p0, p1, p2⟩ := par_cells hci0.par
  have H0 := hide (And.intro hci0 hn2)
  clear hci0 hn2
  go_enter Tryd.func18, Tryd.ntmps18
  go_wp2_with fail
  refine (right_any D L G _).mono ?_
  rintro e w1 ⟨rfl, hb1⟩
  obtain ⟨hci0, hn2⟩ := H0.out
  rw [hn2] at hb1
  have hci1 := hci0.mono hb1 (Nat.le_refl _)
  obtain ⟨r0, r1, g1, g0⟩ := obj_cells hci1.res
  have H1 := hide hci1
  clear H0 hci0 hn2 hb1 hci1
  go_wp2
  have hi := H1.out
  have e1 := set2b (y' := .slice none 0 0) (set2a (x' := .int .i64 0) hi.res)
  obtain ⟨n0, n1, _⟩ := obj_cells e1
  refine bodyPost_ret (v := .tuple #[.agg #[.int .i64 0, .slice none 0 0], .iface 41 (.int .i64 1)]) (by simp [results, Tryd.results18, go_sem, n0, n1]) rfl ?_
  exact ⟨rfl, (hi.below.setCell (p := ⟨w.heap.size + 1, 0, none⟩) (by show w.heap.size ≤ w.heap.size + 1; omega) _).setCell (p := ⟨w.heap.size + 1, 1, none⟩) (by show w.heap.size ≤ w.heap.size + 1; omega) _⟩
/-! ### as the law calls it -/
set_option maxRecDepth 100000 in
set_option maxHeartbeats 1000000 in
theorem scompile_right (D L G lost : Nat) (hr : rightB D L G = true) (hD1 : 1 ≤ D) (hD : D ≤ 12) (hL : 1 ≤ L) (hL4 : L ≤ 4) (hG : G ≤ 4) (hdiv : D % L = 0) (h16 : D + L + G ≤ 16) (hl : lost < 18446744073709551616) (w : World) (hT : tabLaid w) (h2 : 2 ≤ w.heap.size) :
    Calls Tryd.prog 10 #[.agg #[.int .i64 D, .int .i64 L, .int .i64 G], .int .u64 lost] w fun e w' => CpPost D L G lost w e w' := by
  have hb : Below w.heap.size w ((w.alloc (.cells #[.int .i64 (D : Int), .int .i64 (L : Int), .int .i64 (G : Int)] 23)).alloc (.cells #[.int .i64 0, .slice none 0 0] 27)) := ((Below.refl _ w).alloc (Nat.le_refl _) _).alloc (by simp) _
  have hz : ((w.alloc (.cells #[.int .i64 (D : Int), .int .i64 (L : Int), .int .i64 (G : Int)] 23)).alloc (.cells #[.int .i64 0, .slice none 0 0] 27)).heap.size = w.heap.size + 2 := by simp
  have hres : ((w.alloc (.cells #[.int .i64 (D : Int), .int .i64 (L : Int), .int .i64 (G : Int)] 23)).alloc (.cells #[.int .i64 0, .slice none 0 0] 27)).heap[w.heap.size + 1]? = some (.cells #[.int .i64 0, .slice none 0 0] 27 (0, 0)) := by
    have := World.alloc_heap_new (w.alloc (.cells #[.int .i64 (D : Int), .int .i64 (L : Int), .int .i64 (G : Int)] 23)) (.cells #[.int .i64 0, .slice none 0 0] 27)
    rwa [World.size_alloc] at this
  have hT2 := hT.mono (by omega) hb
  have H := hide (And.intro hb (And.intro hz hres))
  clear hb hz hres
  go_enter Tryd.func10, Tryd.ntmps10
  go_wp2_with fail
  refine (compile_right D L G lost hr hD1 hD hL hL4 hG hdiv h16 hl _ hT2 (by simp)).mono ?_
  rintro e w1 ⟨hb1, hcase⟩
  obtain ⟨hb, hz, hres⟩ := H.out
  rw [hz] at hb1
  have hbw := hb.trans (hb1.mono (by omega))
  have r := (hb1.block (w.heap.size + 1) (by omega)).trans hres
  obtain ⟨r0, r1, g1, g0⟩ := obj_cells r
  have H1 := hide (And.intro r hbw)
  clear H hb hres hb1 r hbw
  rcases hcase with ⟨hno, rfl⟩ | ⟨C, v, hC, rfl, how⟩
  · go_wp2
    obtain ⟨r, hbw⟩ := H1.out
    obtain ⟨n0, n1, _⟩ := obj_cells (set2b (y' := .slice none 0 0) (set2a (x' := .int .i64 0) r))
    refine bodyPost_ret (v := .tuple #[.agg #[.int .i64 0, .slice none 0 0], .iface 41 (.int .i64 3)]) (by simp [results, Tryd.results10, go_sem, n0, n1]) rfl ?_
    exact ⟨(hbw.setCell (p := ⟨w.heap.size + 1, 0, none⟩) (by show w.heap.size ≤ w.heap.size + 1; omega) _).setCell (p := ⟨w.heap.size + 1, 1, none⟩) (by show w.heap.size ≤ w.heap.size + 1; omega) _, .inl ⟨hno, rfl⟩⟩
  · rw [hz] at how
    obtain ⟨ao, m, cc, rfl⟩ : ∃ ao m cc, v = .slice ao m cc := by
      rcases how.2 with ⟨rfl, _⟩ | ⟨g, cap, cur, rfl, _⟩
      · exact ⟨_, _, _, rfl⟩
      · exact ⟨_, _, _, rfl⟩
    have HO := hide how
    clear how
    go_wp2
    obtain ⟨r, hbw⟩ := H1.out
    have how := HO.out
    obtain ⟨n0, n1, _⟩ := obj_cells (set2b (y' := .slice ao m cc) (set2a (x' := .int .i64 (1 + ((mems (goneN (D + L + G) lost)).length : Int))) r))
    have h7ne : (Value.slice ao m cc).ownBlock ≠ some (w.heap.size + 1) := fun e => by have := own_from how e; omega
    have how2 := (how.kept (grown_set' w1 (w.heap.size + 1) 0 (.int .i64 (1 + ((mems (goneN (D + L + G) lost)).length : Int)))) (.inr h7ne)).kept (grown_set' _ (w.heap.size + 1) 1 (.slice ao m cc)) (.inr h7ne)
    refine bodyPost_ret (v := .tuple #[.agg #[.int .i64 (1 + ((mems (goneN (D + L + G) lost)).length : Int)), .slice ao m cc], .nilIface]) (by simp [results, Tryd.results10, go_sem, n0, n1]) rfl ?_
    exact ⟨(hbw.setCell (p := ⟨w.heap.size + 1, 0, none⟩) (by show w.heap.size ≤ w.heap.size + 1; omega) _).setCell (p := ⟨w.heap.size + 1, 1, none⟩) (by show w.heap.size ≤ w.heap.size + 1; omega) _, .inr ⟨C, _, hC, rfl, owns_mono how2 (by omega)⟩⟩
set_option maxRecDepth 100000 in
set_option maxHeartbeats 1000000 in
theorem scompile_wrong (D L G : Int) (lost : Nat) (hr : rightB D L G = false) (w : World) :
    Calls Tryd.prog 10 #[.agg #[.int .i64 D, .int .i64 L, .int .i64 G], .int .u64 lost] w fun e w' => e = .returned (.tuple #[.agg #[.int .i64 0, .slice none 0 0], .iface 41 (.int .i64 1)]) ∧ Below w.heap.size w w' := by
  have hb : Below w.heap.size w ((w.alloc (.cells #[.int .i64 D, .int .i64 L, .int .i64 G] 23)).alloc (.cells #[.int .i64 0, .slice none 0 0] 27)) := ((Below.refl _ w).alloc (Nat.le_refl _) _).alloc (by simp) _
  have hres : ((w.alloc (.cells #[.int .i64 D, .int .i64 L, .int .i64 G] 23)).alloc (.cells #[.int .i64 0, .slice none 0 0] 27)).heap[w.heap.size + 1]? = some (.cells #[.int .i64 0, .slice none 0 0] 27 (0, 0)) := by
    have := World.alloc_heap_new (w.alloc (.cells #[.int .i64 D, .int .i64 L, .int .i64 G] 23)) (.cells #[.int .i64 0, .slice none 0 0] 27)
    rwa [World.size_alloc] at this
  have H := hide (And.intro hb hres)
  clear hb hres
  go_enter Tryd.func10, Tryd.ntmps10
  go_wp2_with fail
  refine (compile_wrong D L G lost hr _).mono ?_
  rintro e w1 ⟨rfl, hb1⟩
  simp only [World.size_alloc] at hb1
  obtain ⟨hb, hres⟩ := H.out
  have hbw := hb.trans (hb1.mono (by omega))
  have r := (hb1.block (w.heap.size + 1) (by omega)).trans hres
  obtain ⟨r0, r1, g1, g0⟩ := obj_cells r
  have H1 := hide (And.intro r hbw)
  clear H hb hres hb1 r hbw
  go_wp2
  obtain ⟨r, hbw⟩ := H1.out
  obtain ⟨n0, n1, _⟩ := obj_cells (set2b (y' := .slice none 0 0) (set2a (x' := .int .i64 0) r))
  refine bodyPost_ret (v := .tuple #[.agg #[.int .i64 0, .slice none 0 0], .iface 41 (.int .i64 1)]) (by simp [results, Tryd.results10, go_sem, n0, n1]) rfl ?_
  exact ⟨rfl, (hbw.setCell (p := ⟨w.heap.size + 1, 0, none⟩) (by show w.heap.size ≤ w.heap.size + 1; omega) _).setCell (p := ⟨w.heap.size + 1, 1, none⟩) (by show w.heap.size ≤ w.heap.size + 1; omega) _⟩
end Go.Proofs.YthhommjlomphdabDoor
/-
  The law's word for what a program loads.
-/
namespace Go.Proofs.YthhommjlomphdabDoor
open Go.RowKit Go.Deep Gf

def ldTo (P : List St) (k : Nat) : Nat × Nat × Bool := (P.take k).foldl ldF (0, 0, false)
theorem ldTo_zero (P : List St) : ldTo P 0 = (0, 0, false) := by unfold ldTo; simp
theorem ldTo_next {P : List St} {k : Nat} (hk : k < P.length) : ldTo P (k + 1) = ldF (ldTo P k) P[k] := by
  unfold ldTo
  rw [List.take_succ_eq_append_getElem hk, List.foldl_append]; rfl
theorem ldTo_all (P : List St) : ldTo P P.length = ldAll P := by unfold ldTo ldAll; rw [List.take_length]
theorem ldF_yes {s : Nat × Nat × Bool} {t : St} {b : Nat} (hk : t.k = 0) (hb : t.b = (b : Int)) (h : b < 64) : ldF s t = (s.1 ||| 2 ^ b, s.2.1 + 1, s.2.2 || s.1.testBit b) := by
  unfold ldF
  rw [if_pos ⟨hk, by omega, by omega⟩, hb]; rfl
theorem ldF_no {s : Nat × Nat × Bool} {t : St} (h : ¬ (t.k = 0 ∧ 0 ≤ t.b ∧ t.b < 64)) : ldF s t = s := by unfold ldF; rw [if_neg h]
theorem or_lt64 {a b : Nat} (ha : a < 18446744073709551616) (hb : b < 64) : a ||| 2 ^ b < 18446744073709551616 := by
  have h1 : 2 ^ b < 2 ^ 64 := Nat.pow_lt_pow_right (by decide) hb
  exact Nat.or_lt_two_pow (n := 64) ha h1
theorem ldTo_ok (P : List St) : ∀ k, k ≤ P.length → (ldTo P k).1 < 18446744073709551616 ∧ (ldTo P k).2.1 ≤ k
  | 0, _ => by rw [ldTo_zero]; exact ⟨by decide, Nat.le_refl _⟩
  | k + 1, h => by
    obtain ⟨h1, h2⟩ := ldTo_ok P k (by omega)
    rw [ldTo_next (show k < P.length by omega)]
    unfold ldF
    split
    · rename_i hc
      exact ⟨or_lt64 h1 (by omega), by show _ + 1 ≤ k + 1; omega⟩
    · exact ⟨h1, by omega⟩
theorem shl_u64 (b : Nat) (h : b < 64) : IntKind.u64.wrap ((2 : Int) ^ b) = ((2 ^ b : Nat) : Int) := by
  have h1 := pow_lt64 h
  have e : ((2 : Int) ^ b) = ((2 ^ b : Nat) : Int) := by rw [Int.natCast_pow]; rfl
  rw [e, IntKind.wrap_u64]
  generalize 2 ^ b = q at h1
  omega
attribute [local go_sem] Oper.semAt_some
def LdR (w : World) (P : List St) (s n t i : Value) (wr : World) : Prop := ∃ k : Nat, k ≤ P.length ∧ i = .int .i64 (k : Int) ∧ s = .int .u64 ((ldTo P k).1 : Int) ∧ n = .int .i64 ((ldTo P k).2.1 : Int) ∧ t = .bool (ldTo P k).2.2 ∧ Below w.heap.size w wr
set_option maxRecDepth 100000 in
set_option maxHeartbeats 4000000 in
theorem loaded_any (regs : Int) (v : Value) (P : List St) (w : World) (h : Ps .u8 w v P) (hl : P.length ≤ 5000) (hk8 : ∀ t ∈ P, t.k < 256) :
    Calls Tryd.prog 6 #[.agg #[.int .i64 regs, v]] w fun e w' => e = .returned (.tuple #[.int .u64 ((ldAll P).1 : Int), .int .i64 ((ldAll P).2.1 : Int), .bool (ldAll P).2.2]) ∧ Below w.heap.size w w' := by
  have hb0 : Below w.heap.size w (w.alloc (.cells #[.int .i64 regs, v] 27)) := (Below.refl _ _).alloc (Nat.le_refl _) _
  have h0 := h.mono hb0
  have c0 := (box2 (w := w) (n := w.heap.size) (x := .int .i64 regs) (y := v) (t := 27) (w' := w.alloc (.cells #[.int .i64 regs, v] 27)) (by rw [← nblk_alloc w (.cells #[.int .i64 regs, v] 27)]; exact Below.refl _ _) rfl)
  obtain ⟨ao, c, rfl⟩ := h.slice
  have HB0 := hide hb0
  have H0 := hide h0
  have HC := hide c0
  clear hb0 h0 c0 h
  go_enter Tryd.func6, Tryd.ntmps6
  go_wp2
  have hs1 : (w.alloc (.cells #[.int .i64 regs, .slice ao P.length c] 27)).heap.size = w.heap.size + 1 := by simp
  obtain ⟨w1, hw1⟩ : ∃ w1, w.alloc (.cells #[.int .i64 regs, .slice ao P.length c] 27) = w1 := ⟨_, rfl⟩
  rw [hw1] at HB0 H0 HC hs1
  rw [hw1]
  clear hw1
  go_loopw [5, 6, 7, 8] (fun s n t i wr => LdR w1 P s n t i wr) (fun _ _ _ i _ => P.length - (intOf i).toNat)
  case atStart => exact ⟨0, Nat.zero_le _, rfl, by rw [ldTo_zero]; rfl, by rw [ldTo_zero]; rfl, by rw [ldTo_zero], Below.refl _ _⟩
  case round =>
    rename World => wo
    obtain ⟨k, hk, rfl, rfl, rfl, rfl, hbo⟩ := hrel
    have cv : wo.cell? ⟨w.heap.size, 1, none⟩ = some (.slice ao P.length c) := (hbo.cell (p := ⟨w.heap.size, 1, none⟩) (by show w.heap.size < _; omega)).trans HC.out.2
    obtain ⟨b1, b2⟩ := ldTo_ok P k hk
    by_cases hlt : k < P.length
    · have hlt' : (k : Int) < (P.length : Int) := by omega
      rcases (H0.out.mono hbo).cases with ⟨e, _⟩ | ⟨pb, off, cc, e, _, hcells⟩
      · rw [e] at hlt; exact absurd hlt (by simp)
      obtain ⟨rfl, rfl⟩ : ao = some ⟨pb, off, none⟩ ∧ c = cc := by simpa using e
      obtain ⟨s0, s1, s2, s3⟩ := hcells k hlt
      have hk8' := hk8 _ (List.getElem_mem hlt)
      have hnx := ldTo_next hlt
      obtain ⟨S, m, t, hs⟩ : ∃ S m t, ldTo P k = (S, m, t) := ⟨_, _, _, rfl⟩
      rw [hs] at b1 b2 hnx ⊢
      simp only at b1 b2 ⊢
      have HB := hide (And.intro hbo (And.intro hnx hk8))
      clear e hcells hbo hnx hs
      by_cases hk0 : P[k].k = 0
      · rw [hk0] at s0
        by_cases hb0 : 0 ≤ P[k].b
        · by_cases hb64 : P[k].b < 64
          · obtain ⟨b, hb⟩ : ∃ b : Nat, P[k].b = (b : Int) := ⟨P[k].b.toNat, by omega⟩
            have hb64' : b < 64 := by omega
            have HE := hide (ldF_yes (s := (S, m, t)) hk0 hb hb64')
            have hbit := bit_u64 S b b1
            have hsl := shl_u64 b hb64'
            have hor : bits .or .u64 (S : Int) ((2 : Int) ^ b) = ((S ||| 2 ^ b : Nat) : Int) := by
              have := bits_or_u64_nat S (2 ^ b) b1 (pow_lt64 hb64')
              rw [Int.natCast_pow] at this
              exact this
            have htb : ((S : Int) / 2 ^ b % 2 == 1) = S.testBit b := by
              have e : (S : Int) / 2 ^ b % 2 = ((S / 2 ^ b % 2 : Nat) : Int) := by simp
              rw [e, Nat.testBit_eq_decide_div_mod_eq]
              generalize S / 2 ^ b % 2 = q
              by_cases hq : q = 1
              · subst hq; rfl
              · have : ¬ ((q : Int)) = 1 := by omega
                simp [hq, this]
            have HOR := hide (And.intro hor htb)
            rw [hb] at s2
            clear hb64 hb0 hor htb
            cases t with
            | true =>
              go_wp2
              obtain ⟨hbo, hnx, _⟩ := HB.out
              have he := HE.out
              obtain ⟨hor, htb⟩ := HOR.out
              rw [hor]
              go_roundw
              case rel => exact ⟨k + 1, by omega, by go_num, by rw [hnx, he], by rw [hnx, he]; go_num, by rw [hnx, he]; rfl, hbo.alloc (hbo.size) _⟩
              case measure => simp [intOf]; omega
            | false =>
              go_wp2
              obtain ⟨hbo, hnx, _⟩ := HB.out
              have he := HE.out
              obtain ⟨hor, htb⟩ := HOR.out
              rw [hor, htb]
              go_roundw
              case rel => exact ⟨k + 1, by omega, by go_num, by rw [hnx, he], by rw [hnx, he]; go_num, by rw [hnx, he]; rfl, hbo.alloc (hbo.size) _⟩
              case measure => simp [intOf]; omega
          · have HE := hide (ldF_no (s := (S, m, t)) (t := P[k]) (fun h => hb64 h.2.2))
            go_wp2
            obtain ⟨hbo, hnx, _⟩ := HB.out
            have he := HE.out
            go_roundw
            case rel => exact ⟨k + 1, by omega, by go_num, by rw [hnx, he], by rw [hnx, he], by rw [hnx, he], hbo.alloc (hbo.size) _⟩
            case measure => simp [intOf]; omega
        · have HE := hide (ldF_no (s := (S, m, t)) (t := P[k]) (fun h => hb0 h.2.1))
          go_wp2
          obtain ⟨hbo, hnx, _⟩ := HB.out
          have he := HE.out
          go_roundw
          case rel => exact ⟨k + 1, by omega, by go_num, by rw [hnx, he], by rw [hnx, he], by rw [hnx, he], hbo.alloc (hbo.size) _⟩
          case measure => simp [intOf]; omega
      · have HE := hide (ldF_no (s := (S, m, t)) (t := P[k]) (fun h => hk0 h.1))
        have hne : ((P[k].k : Nat) : Int) ≠ 0 := by omega
        go_wp2
        obtain ⟨hbo, hnx, _⟩ := HB.out
        have he := HE.out
        go_roundw
        case rel => exact ⟨k + 1, by omega, by go_num, by rw [hnx, he], by rw [hnx, he], by rw [hnx, he], hbo.alloc (hbo.size) _⟩
        case measure => simp [intOf]; omega
    · obtain rfl : k = P.length := by omega
      have hlt' : ¬ ((P.length : Int)) < (P.length : Int) := by omega
      have HBO := hide hbo
      have HALL := hide (ldTo_all P)
      clear hbo
      go_wp2
      refine bodyPost_ret (v := .tuple #[.int .u64 ((ldTo P P.length).1 : Int), .int .i64 ((ldTo P P.length).2.1 : Int), .bool (ldTo P P.length).2.2]) (by simp [results, Tryd.results6]) rfl ?_
      rw [← HALL.out]
      exact ⟨rfl, HB0.out.trans (HBO.out.mono (by omega))⟩
end Go.Proofs.YthhommjlomphdabDoor
