/-
  The program's Rank.
-/
import Derived.Test.YthhommjlomphdaaRankGrid
import Derived.Test.YthhommjlomphdaaRankSwap
import Derived.WalkMore
import Derived.Deep.MidRow
namespace Go.Proofs.Ythhommjlomphdaa
open Go.RowKit Go.Deep Gf

theorem wpList_gst (w : World) {ops : Array Oper} {rest : List Oper} {o : Oper} {a : Act} {Q : Exit → Act → World → Prop} (hgd : o.guard = none) (x y : Operand) (ho : o.op = .store 50 x y)
    (g : Nat) (f : Nat → Nat) (cs old : Array Value) (hx : a.eval x = .pointer (some ⟨g, 0, none⟩)) (hy : a.eval y = .agg cs) (hg : w.heap[g]? = some (.cells old 50 (0, 0))) (hold : old.size = 4096) (hsz : cs.size = 4096) (hget : ∀ j, j < 4096 → cs[j]? = some (tv f j))
    (hK : ∀ w2, w2.rowIs g 50 4096 (tv f) → w.grownBy w2 (some g) → wpList Try.prog ops Q rest (a.put o.dst undef) w2) : wpList Try.prog ops Q (o :: rest) a w := by
  refine wpList_store_row hgd 50 x y ho g cs hx hy 50 old hg (by rw [Try.sizeGrid, hsz]) (by omega) (one_cells2 hsz hget) (hK _ ?_ ?_)
  · exact ⟨cs, setRow_heap w g old cs _ _ hg, hsz, hget⟩
  · refine ⟨rfl, rfl, rfl, by simp, fun k hk hne => ?_⟩
    have : g ≠ k := fun e => hne (by rw [e])
    simp [World.setRow, Array.getElem?_modify, this]
theorem row_setCells {b t n : Nat} : ∀ (vs : List Value) (o : Nat) (w : World) (f : Nat → Value), w.rowIs b t n f → (w.setCells b o vs).rowIs b t n (fun x => if o ≤ x ∧ x < o + vs.length then vs.getD (x - o) undef else f x)
  | [], o, w, f, h => h.congr (fun i _ => by rw [if_neg (by simp)])
  | v :: vs, o, w, f, h => (row_setCells vs (o + 1) _ _ (h.set o v)).congr (fun i _ => by
      by_cases h1 : o + 1 ≤ i ∧ i < o + 1 + vs.length
      · have e : i - o = (i - (o + 1)) + 1 := by omega
        rw [if_pos h1, if_pos (by simp; omega), e]
        simp
      · rw [if_neg h1]
        by_cases h2 : i = o
        · subst h2
          rw [if_pos rfl, if_pos (by simp)]
          simp
        · rw [if_neg h2, if_neg (by simp; omega)])
theorem grown_setCells {b : Nat} : ∀ (vs : List Value) (o : Nat) (w w' : World), w.grownBy w' (some b) → w.grownBy (w'.setCells b o vs) (some b)
  | [], _, _, _, h => h
  | v :: vs, o, w, _, h => grown_setCells vs (o + 1) w _ (grown_set h o v)
/-- a row's cells -/
def cel (G : Nat → Nat) (i : Nat) : List Value := (List.range 64).map fun j => tv G (i * 64 + j)
theorem cel_len (G : Nat → Nat) (i : Nat) : (cel G i).length = 64 := by simp [cel]
theorem cel_getD (G : Nat → Nat) (i j : Nat) (h : j < 64) : (cel G i).getD j undef = tv G (i * 64 + j) := by simp [cel, h]
theorem cel_range {w : World} {b t : Nat} {G : Nat → Nat} (h : w.rowIs b t 4096 (tv G)) {i : Nat} (hi : i < 64) : w.rangeAt b (i * 64) (cel G i) := by
  intro j v hv
  have hj : j < 64 := by
    obtain ⟨q, _⟩ := List.getElem?_eq_some_iff.1 hv
    rwa [cel_len] at q
  simp [cel, hj] at hv
  rw [h.cell (by omega), hv]
theorem cel_there {w : World} {b t : Nat} {f : Nat → Value} (h : w.rowIs b t 4096 f) {i n : Nat} (hi : i < 64) (hn : n ≤ 64) : w.there b (i * 64) n := fun j hj => by
  rw [h.cell (by omega)]
  exact ⟨rfl, h.frozen _⟩
theorem cel_one (G : Nat → Nat) (i : Nat) : (cel G i).toArray.all (fun v => v.oneCell') = true := by
  rw [Array.all_eq_true]
  intro j hj
  simp [cel, tv]
  rfl
theorem sw_row {w : World} {b t : Nat} {G : Nat → Nat} (h : w.rowIs b t 4096 (tv G)) (p r : Nat) : ((w.setCells b (r * 64) (cel G p)).setCells b (p * 64) (cel G r)).rowIs b t 4096 (tv (swG G p r)) := by
  refine (row_setCells (cel G r) (p * 64) _ _ (row_setCells (cel G p) (r * 64) _ _ h)).congr (fun x _ => ?_)
  rw [cel_len, cel_len]
  by_cases h1 : p * 64 ≤ x ∧ x < p * 64 + 64
  · have e1 : x / 64 = p := by omega
    have e2 : x - p * 64 = x % 64 := by omega
    rw [if_pos h1, e2, cel_getD _ _ _ (by omega)]
    unfold tv swG
    rw [e1]
    by_cases e3 : p = r
    · rw [if_pos e3, e3]
    · rw [if_neg e3, if_pos rfl]
  · rw [if_neg h1]
    by_cases h2 : r * 64 ≤ x ∧ x < r * 64 + 64
    · have e1 : x / 64 = r := by omega
      have e2 : x - r * 64 = x % 64 := by omega
      rw [if_pos h2, e2, cel_getD _ _ _ (by omega)]
      unfold tv swG
      rw [if_pos e1]
    · rw [if_neg h2]
      unfold tv swG
      rw [if_neg (by omega), if_neg (by omega)]
/-- which row is taken -/
def GpR (G : Nat → Nat) (r c n : Nat) (rv iv : Value) : Prop := ∃ k : Nat, r ≤ k ∧ k ≤ n ∧ rv = .int .i64 (r : Nat) ∧ iv = .int .i64 (k : Nat) ∧ ∀ i, r ≤ i → i < k → G (i * 64 + c) = 0
def GcR (w : World) (b : Nat) (D : List (List Nat)) (rv cv : Value) (wr : World) : Prop :=
  ∃ (r c : Nat) (G : Nat → Nat), c ≤ 64 ∧ rv = .int .i64 (r : Nat) ∧ cv = .int .i64 (c : Nat) ∧ GI D c r D.length G ∧ wr.rowIs b 50 4096 (tv G) ∧ Below w.heap.size w wr
set_option maxRecDepth 100000 in
set_option maxHeartbeats 4000000 in
theorem rank_any (vd : Value) (D : List (List Nat)) (w : World) (hd : Rd w vd D) (hb : ∀ l ∈ D, ∀ x ∈ l, x < 256) :
    Calls Try.prog 25 #[vd] w fun e w' => RkPost D w e w' := by
  have HD := hide hd
  have hzg := zeroGrid
  obtain ⟨ao, c, rfl, hl, hc⟩ := hd
  clear hc
  by_cases hf : FitG D
  · have hl64 := hf.1
    have HF := hide hf
    clear hf
    go_enter Try.func25, Try.ntmps25
    go_wp2
    go_step3
    go_wp2_with (first
      | (go_at_call 31; refine (fits_any _ D _ HD.out).mono ?_; rintro e wv ⟨h1, _, rfl⟩; obtain rfl := h1 HF.out)
      | (go_at_call 32; refine (lay_any _ D _ HD.out HF.out).mono ?_; rintro e wa ⟨cs, rfl, hsz, hget, hba⟩)
      | (refine wpList_gst _ rfl (.tmp 3) (.tmp 11) rfl wa.heap.size (gridOf D) cs _ rfl rfl (heap_alloc_last wa _) (by simp) hsz hget ?_; intro wb hR0 hg0))
    have hbb : Below wv.heap.size wv wb := grown_below (hba.alloc hba.size _) hg0 (by rw [nblk_alloc]; have := hba.size; omega) hba.size
    have hG0 := GI.start hb HF.out
    have hbs := hba.size
    have HG0 := hide hG0
    clear hget hsz hba hg0 hzg hG0
    generalize wa.heap.size = gb at *
    go_step3
    go_wp2
    go_loopw [4, 12] (fun rv cv wr => GcR wv gb D rv cv wr) (fun _ cv _ => 64 - (intOf cv).toNat)
    case atStart => exact ⟨0, 0, gridOf D, by omega, rfl, rfl, HG0.out, hR0, hbb⟩
    case round =>
      clear hR0 hbb HG0
      rename World => wo
      obtain ⟨r, c2, G, hc64, rfl, rfl, hGI, hR, hbo⟩ := hrel
      have hrl := hGI.rle
      by_cases hcl : c2 < 64
      · have HGI := hide hGI
        have HR := hide hR
        have HBO := hide hbo
        clear hGI hR hbo
        go_wp2
        go_loop [4, 6] (fun rv iv => GpR G r c2 D.length rv iv) (fun _ iv => D.length - (intOf iv).toNat)
        case atStart => exact ⟨r, Nat.le_refl _, hrl, rfl, rfl, fun i h1 h2 => absurd h1 (by omega)⟩
        case round =>
          obtain ⟨p, hrp, hpn, rfl, rfl, hzz⟩ := hrel
          by_cases hpl : p < D.length
          · have hcell : wo.cell? ⟨gb, p * 64 + c2, none⟩ = some (.int .u8 ((G (p * 64 + c2) : Nat) : Int)) := HR.out.cell (by omega)
            have HZZ := hide hzz
            clear hzz
            by_cases hx0 : G (p * 64 + c2) = 0
            · rw [hx0] at hcell
              have HX := hide hx0
              clear hx0
              go_wp2
              go_round
              case rel =>
                refine ⟨p + 1, by omega, by omega, rfl, by go_num, fun i h1 h2 => ?_⟩
                by_cases e : i = p
                · subst e; exact HX.out
                · exact HZZ.out i h1 (by omega)
              case measure => simp [intOf]; omega
            · have t0 : (((G (p * 64 + c2) : Nat) : Int) == 0) = false := by rw [beq_eq_false_iff_ne]; omega
              have HGN := hide (HGI.out.pivot hcl hrp hpl hx0)
              clear hx0
              have hRd : wo.drew.rowIs gb 50 4096 (tv G) := HR.out
              have hgi : swG G p r (r * 64 + c2) = G (p * 64 + c2) := by rw [swG_at G p r r c2 hcl, if_pos rfl]
              have HGI2 := hide hgi
              have HBY := hide (swG_lt HGI.out.byt p r)
              have hp64 : p < 64 := by omega
              have hr64 : r < 64 := by omega
              clear hgi
              obtain ⟨wx, hwx, hsw, hgr⟩ : ∃ wx, (wo.drew.setCells gb (r * 64) (cel G p)).setCells gb (p * 64) (cel G r) = wx ∧ wx.rowIs gb 50 4096 (tv (swG G p r)) ∧ wo.drew.grownBy wx (some gb) :=
                ⟨_, rfl, sw_row hRd p r, grown_setCells (b := gb) (cel G r) (p * 64) wo.drew _ (grown_setCells (b := gb) (cel G p) (r * 64) wo.drew wo.drew (World.grownBy.refl _ _))⟩
              have HSW := hide hsw
              have HGR := hide hgr
              have HWX := hide hwx
              have HRD := hide hRd
              clear hsw hgr hwx hRd
              go_wp2
              refine exchange gb p r (cel G p) (cel G r) (by kernel_rfl) (fun _ _ _ _ _ h => h) rfl hp64 hr64 rfl rfl rfl (cel_len _ _) (cel_len _ _) (cel_one _ _) (cel_one _ _) (cel_range HRD.out hp64) (cel_range HRD.out hr64) (cel_there HRD.out hr64 (Nat.le_refl _)) (cel_there HRD.out hp64 (Nat.le_refl _)) ?_
              rw [HWX.out]
              clear HWX HRD
              unfold act12
              generalize (cel G p).toArray = cp
              generalize (cel G r).toArray = cr
              go_wp2_with (go_at_call 33; refine (workOff_any gb r c2 D.length (swG G p r) _ HBY.out HSW.out (by omega) hcl hl64).mono ?_; rintro e w2 ⟨rfl, hR2, hg2⟩)
              have hR3 : w2.rowIs gb 50 4096 (tv (nxG G p r c2 D.length)) := by
                rw [HGI2.out] at hR2; exact hR2
              have hg3 := grown_trans HGR.out hg2
              have hb3 := grown_below HBO.out (w := wo) ⟨hg3.os, hg3.tape, hg3.output, hg3.size, hg3.block⟩ HBO.out.size hbs
              clear hR2 hg2 hg3
              go_wp2
              go_roundw
              case rel => exact ⟨r + 1, c2 + 1, nxG G p r c2 D.length, by omega, by go_num, by go_num, HGN.out, hR3, hb3⟩
              case measure => simp [intOf]; omega
          · have HGS := hide (HGI.out.skip hcl (fun i h1 h2 => hzz i h1 (by omega)))
            clear hzz
            go_wp2
            go_roundw
            case rel => exact ⟨r, c2 + 1, G, by omega, rfl, by go_num, HGS.out, HR.out, HBO.out⟩
            case measure => simp [intOf]; omega
      · have hcc : c2 = 64 := by omega
        rw [hcc] at hGI
        have HK := hide hGI.done
        clear hGI hcc
        go_wp2
        try rw [Exit.noGoto_ret]
        go_ret
        exact ⟨fun _ => ⟨r, by omega, rfl, HK.out⟩, fun h => absurd HF.out h, hbo⟩
  · have HN := hide hf
    clear hf
    go_enter Try.func25, Try.ntmps25
    go_wp2
    go_step3
    go_wp2_with (go_at_call 31; refine (fits_any _ D _ HD.out).mono ?_; rintro e w' ⟨_, h2, rfl⟩; obtain rfl := h2 HN.out)
    try rw [Exit.noGoto_ret]
    go_ret
    exact ⟨fun h => absurd h HN.out, fun _ => rfl, Below.refl _ _⟩
end Go.Proofs.Ythhommjlomphdaa
