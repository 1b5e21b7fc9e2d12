import Derived.Test.YtpaemkanfnddoaaGreatDoorM36
import Derived.Laws.Cover1
set_option maxRecDepth 100000
set_option maxHeartbeats 8000000
namespace Go.Proofs.YtpaemkanfnddoaaGreatDoor
open Go.RowKit Go.Deep
variable {L : List (ByteArray × Value)} {r base c n : Nat} {v : Value} {w : World}
def oCells (L : List (ByteArray × Value)) : List Value := L.flatMap fun q => [.string q.1, q.2]
theorem oCells_len (L : List (ByteArray × Value)) : (oCells L).length = L.length * 2 := by
 induction L with
 | nil => rfl
 | cons q L ih => simp only [oCells, List.flatMap_cons, List.length_append, List.length_cons] at ih ⊢; rw [ih]; simp; omega
theorem oCells_get (L : List (ByteArray × Value)) (k : Nat) (hk : k < L.length) : (oCells L)[k * 2]? = some (.string L[k].1) ∧ (oCells L)[k * 2 + 1]? = some L[k].2 := by
 induction L generalizing k with
 | nil => simp at hk
 | cons q L ih =>
  have e : oCells (q :: L) = [.string q.1, q.2] ++ oCells L := by simp [oCells]
  rw [e]
  cases k with
  | zero => exact ⟨rfl, rfl⟩
  | succ k =>
   simp at hk
   obtain ⟨h1, h2⟩ := ih k hk
   refine ⟨?_, ?_⟩
   · rw [List.getElem?_append_right (by simp; omega), show (k + 1) * 2 - [Value.string q.1, q.2].length = k * 2 by simp; omega]; exact h1
   · rw [List.getElem?_append_right (by simp; omega), show (k + 1) * 2 + 1 - [Value.string q.1, q.2].length = k * 2 + 1 by simp; omega]; exact h2
theorem oCells_append (L M : List (ByteArray × Value)) : oCells (L ++ M) = oCells L ++ oCells M := by simp [oCells]
structure RAt (w : World) (r base : Nat) (v : Value) (L : List (ByteArray × Value)) : Prop where
 top : w.heap[r]? = some (.cells #[v] 46 (0, 0))
 own : w.ownsRow base 67 2 v L.length (oCells L)
theorem RAt.shape (h : RAt w r base v L) : (v = .slice none 0 0 ∧ L = []) ∨ ∃ g cap, v = .slice (some ⟨g, 0, none⟩) L.length cap ∧ base ≤ g ∧ L.length ≤ cap ∧
 ∀ k (hk : k < L.length), w.cell? ⟨g, k * 2, none⟩ = some (.string L[k].1) ∧ w.cell? ⟨g, k * 2 + 1, none⟩ = some L[k].2 := by
 rcases h.own.2 with ⟨h0, h1⟩ | ⟨g, cap, cur, e1, e2, e3, e4, e5, e6, e7⟩
 · exact .inl ⟨h0, List.eq_nil_of_length_eq_zero h1⟩
 · refine .inr ⟨g, cap, e1, e2, e4, fun k hk => ?_⟩
   obtain ⟨q1, q2⟩ := oCells_get L k hk
   have := h.own.cells (g := g) (by rw [e1]; rfl)
   have a1 := this _ _ q1
   have a2 := this _ _ q2
   rw [add0] at a1 a2
   exact ⟨a1, a2⟩
theorem RAt.cell (h : RAt w r base v L) : w.cell? ⟨r, 0, none⟩ = some v ∧ w.frozen? ⟨r, 0, none⟩ = false := by simp [World.cell?, World.frozen?, h.top]
def FiR (w : World) (L : List (ByteArray × Value)) (name : ByteArray) (i : Value) (wr : World) : Prop := ∃ k : Nat, k ≤ L.length ∧ i = .int .i64 k ∧ wr = w ∧ ∀ j (hj : j < L.length), j < k → ¬ L[j].1.toList = name.toList
theorem rfind_any (h : RAt w r base v L) (hl : L.length ≤ 1000000) (name : ByteArray) :
 Calls Tryz.prog 31 #[.pointer (some ⟨r, 0, none⟩), .string name] w fun e w' => w' = w ∧ ((∃ k, ∃ hk : k < L.length, e = .returned (.int .i64 (k : Nat)) ∧ L[k].1.toList = name.toList ∧ ∀ j (hj : j < L.length), j < k → ¬ L[j].1.toList = name.toList) ∨ (e = .returned (.int .i64 (-1)) ∧ ∀ j (hj : j < L.length), ¬ L[j].1.toList = name.toList)) := by
 obtain ⟨c0, _⟩ := h.cell
 have h3 := h.shape
 go_enter Tryz.func31, Tryz.ntmps31
 go_wp2
 go_loopw [5] (fun i wr => FiR w L name i wr) (fun i _ => L.length - (intOf i).toNat)
 case atStart => exact ⟨0, Nat.zero_le _, rfl, rfl, fun j _ hj => absurd hj (by omega)⟩
 case round =>
  obtain ⟨k, hk, rfl, rfl, h0⟩ := hrel
  rcases h3 with ⟨rfl, rfl⟩ | ⟨g, cap, rfl, h8, h4, h1⟩
  · have h5 : k = 0 := by simpa using hk
    subst h5
    clear h0
    go_wp2
    go_ret
    exact ⟨rfl, .inr ⟨rfl, fun j hj => absurd hj (by simp)⟩⟩
  · by_cases h2 : k < L.length
    · obtain ⟨c1, c2⟩ := h1 k h2
      have HN := hide h0
      clear h0
      by_cases he : L[k].1.toList = name.toList
      · have h6 : (L[k].1.toList == name.toList) = true := by rw [he]; exact beq_self_eq_true _
        have HE := hide he
        clear he
        go_wp2
        go_ret
        exact ⟨rfl, .inl ⟨k, h2, rfl, HE.out, HN.out⟩⟩
      · have h6 : (L[k].1.toList == name.toList) = false := by rw [beq_eq_false_iff_ne]; exact he
        have HE := hide he
        clear he
        go_wp2
        refine ⟨⟨k + 1, by omega, by go_num, rfl, fun j hj h9 => ?_⟩, by simp [intOf]; omega⟩
        by_cases e : j = k
        · subst e; exact HE.out
        · exact HN.out j hj (by omega)
    · have h7 : k = L.length := by omega
      subst h7
      have HN := hide h0
      clear h0
      go_wp2
      go_ret
      exact ⟨rfl, .inr ⟨rfl, fun j hj => HN.out j hj hj⟩⟩
def nameOk (n : ByteArray) : Prop := 1 ≤ n.size ∧ n.size ≤ 16
def isAt (L : List (ByteArray × Value)) (name : ByteArray) (k : Nat) : Prop := ∃ hk : k < L.length, L[k].1.toList = name.toList ∧ ∀ j (hj : j < L.length), j < k → ¬ L[j].1.toList = name.toList
def isNone (L : List (ByteArray × Value)) (name : ByteArray) : Prop := ∀ j (hj : j < L.length), ¬ L[j].1.toList = name.toList
def RGet (L : List (ByteArray × Value)) (name : ByteArray) (e : Ending) : Prop :=
 (¬ nameOk name ∧ e = .returned (.tuple #[.slice none 0 0, .int .i64 6])) ∨ (nameOk name ∧ isNone L name ∧ e = .returned (.tuple #[.slice none 0 0, .int .i64 9])) ∨ (nameOk name ∧ ∃ k, isAt L name k ∧ e = .returned (.tuple #[(L.getD k (ByteArray.empty, undef)).2, .int .i64 0]))
theorem rget_any (h : RAt w r base v L) (hl : L.length ≤ 1000000) (name : ByteArray) :
 Calls Tryz.prog 15 #[.pointer (some ⟨r, 0, none⟩), .string name] w fun e w' => w' = w ∧ RGet L name e := by
 obtain ⟨c0, _⟩ := h.cell
 have h4 := h.shape
 have hc := rfind_any h hl name
 by_cases h0 : name.size = 0
 · have n0 : (name.size : Int) = 0 := by omega
   go_enter Tryz.func15, Tryz.ntmps15
   go_wp2
   go_ret2
   exact ⟨rfl, .inl ⟨fun q => by have := q.1; omega, rfl⟩⟩
 · have n0 : ¬ (name.size : Int) = 0 := by omega
   by_cases h7 : 16 < name.size
   · have n1 : (16 : Int) < (name.size : Int) := by omega
     go_enter Tryz.func15, Tryz.ntmps15
     go_wp2
     go_ret2
     exact ⟨rfl, .inl ⟨fun q => by have := q.2; omega, rfl⟩⟩
   · have n1 : ¬ (16 : Int) < (name.size : Int) := by omega
     have h5 : nameOk name := ⟨by omega, by omega⟩
     go_enter Tryz.func15, Tryz.ntmps15
     go_wp2_with fail
     refine hc.mono ?_
     rintro e w' ⟨rfl, hf⟩
     clear hc
     rcases hf with ⟨k, hk, rfl, hn, h1⟩ | ⟨rfl, h2⟩
     · rcases h4 with ⟨rfl, rfl⟩ | ⟨g, cap, rfl, h8, h6, h3⟩
       · exact absurd hk (by simp)
       · obtain ⟨c1, c2⟩ := h3 k hk
         have HF := hide2 hn h1
         clear hn h1 h3
         go_wp2
         go_ret2
         exact ⟨rfl, .inr (.inr ⟨h5, k, ⟨hk, HF.out.1, HF.out.2⟩, by simp [hk]⟩)⟩
     · have HF := hide h2
       clear h2 h4
       go_wp2
       go_ret2
       exact ⟨rfl, .inr (.inl ⟨h5, HF.out, rfl⟩)⟩
def vLen : Value → Nat
 | .slice _ n _ => n
 | _ => 0
def isSl (v : Value) : Prop := ∃ ao n c, v = .slice ao n c ∧ n ≤ 1000000
def stripesTo (L : List (ByteArray × Value)) (q k : Nat) : Nat := ((L.take k).map fun o => vLen o.2 / q + 1).sum
theorem stripesTo_succ (L : List (ByteArray × Value)) (q k : Nat) (hk : k < L.length) : stripesTo L q (k + 1) = stripesTo L q k + (vLen L[k].2 / q + 1) := by
 unfold stripesTo
 rw [List.take_add_one, List.getElem?_eq_getElem hk]
 simp only [List.map_append, List.sum_append, Option.toList_some, List.map_cons, List.map_nil, List.sum_cons, List.sum_nil, Nat.add_zero]
theorem stripesTo_le (L : List (ByteArray × Value)) (q k : Nat) (h : ∀ o ∈ L, vLen o.2 ≤ 1000000) (hk : k ≤ L.length) : stripesTo L q k ≤ k * 1000001 := by
 induction k with
 | zero => simp [stripesTo]
 | succ k ih =>
  rw [stripesTo_succ L q k (by omega)]
  have := ih (by omega)
  have h1 := h L[k] (List.getElem_mem _)
  have h2 : vLen L[k].2 / q ≤ vLen L[k].2 := Nat.div_le_self _ _
  omega
def needsN (L : List (ByteArray × Value)) (data : Nat) (more : Int) : Nat :=
 let q := data * 44
 if 0 ≤ more then stripesTo L q L.length + (more.toNat / q + 1) + 2 * ((L.length + 1) * 200 / q + 1) else stripesTo L q L.length + 2 * (L.length * 200 / q + 1)
def NeR (w : World) (L : List (ByteArray × Value)) (q : Nat) (n i : Value) (wr : World) : Prop := ∃ k : Nat, k ≤ L.length ∧ n = .int .i64 (stripesTo L q k : Nat) ∧ i = .int .i64 k ∧ wr = w
theorem rneeds_any (h : RAt w r base v L) (hl : L.length ≤ 1000) (hs : ∀ o ∈ L, isSl o.2) (data : Nat) (he : 1 ≤ data) (hd : data ≤ 1000) (more : Int) (hf : -1 ≤ more) (hg : more ≤ 1000000) :
 Calls Tryz.prog 20 #[.pointer (some ⟨r, 0, none⟩), .int .i64 data, .int .i64 more] w fun e w' => w' = w ∧ e = .returned (.int .i64 (needsN L data more : Nat)) := by
 obtain ⟨c0, _⟩ := h.cell
 have h4 := h.shape
 have h3 : ∀ o ∈ L, vLen o.2 ≤ 1000000 := fun o ho => by obtain ⟨ao, n, c, e, hn⟩ := hs o ho; rw [e]; exact hn
 obtain ⟨q, hq⟩ : ∃ q, q = data * 44 := ⟨_, rfl⟩
 have hh : 1 ≤ q := by omega
 have hi : q ≤ 44000 := by omega
 have hj : (data : Int) * 44 = (q : Int) := by omega
 have hp : ¬ (q : Int) = 0 := by omega
 have HQ := hide hq
 clear hq
 have h8 : v = .slice none 0 0 ∧ L.length = 0 ∨ ∃ g cap, v = .slice (some ⟨g, 0, none⟩) L.length cap := by
  rcases h4 with ⟨h1, h2⟩ | ⟨g, cap, h1, _⟩
  · exact .inl ⟨h1, by rw [h2]; rfl⟩
  · exact .inr ⟨g, cap, h1⟩
 obtain ⟨ao, cap, hv⟩ : ∃ ao cap, v = .slice ao L.length cap := by
  rcases h8 with ⟨h1, h2⟩ | ⟨g, cap, h1⟩
  · exact ⟨none, 0, by rw [h1, h2]⟩
  · exact ⟨_, _, h1⟩
 rw [hv] at c0
 go_enter Tryz.func20, Tryz.ntmps20
 go_wp2
 go_loopw [8, 10] (fun n i wr => NeR w L q n i wr) (fun _ i _ => L.length - (intOf i).toNat)
 case atStart => exact ⟨0, Nat.zero_le _, rfl, rfl, rfl⟩
 case round =>
  obtain ⟨k, hk, rfl, rfl, rfl⟩ := hrel
  by_cases h5 : k < L.length
  · rcases h4 with ⟨_, rfl⟩ | ⟨g, cap', h6, hr, h9, h0⟩
    · exact absurd h5 (by simp)
    · rw [hv] at h6
      simp at h6
      obtain ⟨rfl, rfl⟩ := h6
      obtain ⟨c1, c2⟩ := h0 k h5
      obtain ⟨bo, n, cc, e, hn⟩ := hs L[k] (List.getElem_mem _)
      have h7 := stripesTo_succ L q k h5
      have ha := stripesTo_le L q k h3 hk
      rw [e] at c2 h7
      have e3 : (n : Int) / (q : Int) = ((n / q : Nat) : Int) := by omega
      have e4 : (n : Int).tdiv (q : Int) = ((n / q : Nat) : Int) := by rw [Int.tdiv_eq_ediv_of_nonneg (by omega)]; exact e3
      have hx : n / q ≤ n := Nat.div_le_self _ _
      have ho : NeR wr L q (.int .i64 ((stripesTo L q k + (n / q + 1) : Nat) : Int)) (.int .i64 ((k : Int) + 1)) wr := ⟨k + 1, by omega, by rw [h7]; rfl, rfl, rfl⟩
      have HO := hide ho
      clear ho h7 h0
      generalize stripesTo L q k = S at *
      generalize n / q = d at *
      go_wp2
      have := HO.out
      rw [show ((S + (d + 1) : Nat) : Int) = (S : Int) + (d : Int) + 1 by omega] at this
      exact ⟨this, by simp [intOf]; omega⟩
  · have hc : k = L.length := by omega
    subst hc
    have ha := stripesTo_le L q L.length h3 (Nat.le_refl _)
    clear h4 h8
    by_cases hm : 0 ≤ more
    · obtain ⟨m, rfl⟩ := Int.eq_ofNat_of_zero_le hm
      have hN : needsN L data (m : Int) = stripesTo L q L.length + (m / q + 1) + 2 * ((L.length + 1) * 200 / q + 1) := by
       unfold needsN
       rw [if_pos hm, ← HQ.out, Int.toNat_natCast]
      have e5 : (m : Int).tdiv (q : Int) = ((m / q : Nat) : Int) := by rw [Int.tdiv_eq_ediv_of_nonneg (by omega)]; omega
      have e6 : (((L.length : Int) + 1) * 200).tdiv (q : Int) = (((L.length + 1) * 200 / q : Nat) : Int) := by
       rw [Int.tdiv_eq_ediv_of_nonneg (by omega), show ((L.length : Int) + 1) * 200 = (((L.length + 1) * 200 : Nat) : Int) by omega]; omega
      have b5 : m / q ≤ m := Nat.div_le_self _ _
      have b6 : (L.length + 1) * 200 / q ≤ (L.length + 1) * 200 := Nat.div_le_self _ _
      have HN := hide hN
      clear hN
      generalize stripesTo L q L.length = S at *
      generalize m / q = d at *
      generalize (L.length + 1) * 200 / q = d2 at *
      go_wp2
      go_ret
      exact ⟨rfl, by rw [HN.out]; congr 2⟩
    · have hN : needsN L data more = stripesTo L q L.length + 2 * (L.length * 200 / q + 1) := by
       unfold needsN
       rw [if_neg hm, ← HQ.out]
      have e6 : ((L.length : Int) * 200).tdiv (q : Int) = ((L.length * 200 / q : Nat) : Int) := by
       rw [Int.tdiv_eq_ediv_of_nonneg (by omega), show (L.length : Int) * 200 = ((L.length * 200 : Nat) : Int) by omega]; omega
      have b6 : L.length * 200 / q ≤ L.length * 200 := Nat.div_le_self _ _
      have HN := hide hN
      clear hN
      generalize stripesTo L q L.length = S at *
      generalize L.length * 200 / q = d2 at *
      go_wp2
      go_ret
      exact ⟨rfl, by rw [HN.out]; congr 2⟩
theorem oCells_one (hs : ∀ o ∈ L, isSl o.2) : ∀ u ∈ oCells L, u.oneCell' = true := by
 intro u hu
 unfold oCells at hu
 rw [List.mem_flatMap] at hu
 obtain ⟨q, hq, hm⟩ := hu
 simp at hm
 rcases hm with rfl | rfl
 · rfl
 · obtain ⟨ao, n, c, e, _⟩ := hs q hq; rw [e]; rfl
theorem owns_src (h : w.ownsRow base 67 2 v L.length (oCells L)) (hs : ∀ o ∈ L, isSl o.2) : Src Tryz.prog 2 44 v L.length (oCells L) w := by
 rcases h.2 with ⟨rfl, h0⟩ | ⟨g, cap, cur, rfl, e2, e3, e4, e5, e6, e7⟩
 · have : L = [] := List.eq_nil_of_length_eq_zero h0
   subst this
   exact Src.ofNil w Tryz.underlying44 0
 · exact Src.ofSlice w Tryz.underlying44 ⟨g, 0, none⟩ L.length cap (oCells L) (oCells_len L) (h.cells (g := g) rfl) (oCells_one hs)
theorem Tryz.infoRobj : (Tryz.prog.info? 67).map (fun i => (i.zero, i.size, i.bytes)) = some (some (.agg #[.string ByteArray.empty, .slice none 0 0]), 2, 40) := by kernel_rfl
noncomputable def RCo : Array Oper := ((Tryz.f18.body.bind (rgf · 2))).getD #[]
def shCo : List (Op × Option Nat × List Nat) := [(Op.move (.tmp 3), some 6, []),
 (Op.move (.tmp 3), some 7, []),
 (Op.nilCheck (.tmp 7), some 8, [1]),
 (Op.fieldAddr 46 (.tmp 8) 0, some 9, [2]),
 (Op.load 44 (.tmp 9), some 10, [3]),
 (Op.move (.tmp 0), some 11, []),
 (Op.nilCheck (.tmp 11), some 12, [5]),
 (Op.fieldAddr 46 (.tmp 12) 0, some 13, [6]),
 (Op.load 44 (.tmp 13), some 14, [7]),
 (Op.call { callee := Callee.builtin Builtin.append, args := #[.tmp 10, .tmp 14], argTypes := #[44, 44] }, some 15, [4, 8]),
 (Op.nilCheck (.tmp 6), some 16, [0, 0, 1, 2, 3, 4, 5, 6, 7, 8, 9]),
 (Op.fieldAddr 46 (.tmp 16) 0, some 17, [10, 0, 1, 2, 3, 4, 5, 6, 7, 8, 9]),
 (Op.store 44 (.tmp 17) (.tmp 15), none, [11, 9, 9, 0, 1, 2, 3, 4, 5, 6, 7, 8, 9])]
theorem RCo_shape : RegShape RCo 6 18 shCo := regShape (by kernel_rfl) (by kernel_rfl)
def VCo (w0 : World) (r c : Nat) (v : Value) (L : List (ByteArray × Value)) (i : Nat) (u : Value) (w : World) : Prop := match i with
 | 0 | 1 | 2 | 3 | 10 | 11 => u = .pointer (some ⟨c, 0, none⟩)
 | 4 => u = .slice none 0 0
 | 5 | 6 | 7 => u = .pointer (some ⟨r, 0, none⟩)
 | 8 => u = v
 | 9 => w.ownsRow w0.heap.size 67 2 u L.length (oCells L)
 | 12 => ∃ u', w.heap[c]? = some (.cells #[u'] 46 (0, 0)) ∧ w.ownsRow w0.heap.size 67 2 u' L.length (oCells L)
 | _ => True
def BCo (w0 : World) (c : Nat) (D : Nat → Bool) (w : World) : Prop := Outside (fun k => D 12 = true ∧ k = c) w0 w
theorem BCo_upd {w0 : World} {D : Nat → Bool} {w' : World} (h : BCo w0 c D w) (i : Nat) (hO : Outside (fun k => i = 12 ∧ k = c) w w') : BCo w0 c (upd D i) w' := by
 unfold BCo at *
 have h' : Outside (fun k => upd D i 12 = true ∧ k = c) w0 w := h.mono fun k _ q => ⟨by
  unfold upd; split
  · rfl
  · exact q.1, q.2⟩
 exact h'.later hO (fun k _ q => ⟨by unfold upd; rw [if_pos q.1.symm], q.2⟩)
theorem copy_region {ops : Array Oper} {Q : Exit → Act → World → Prop} {a : Act} (hp : RCo = ops) (h : RAt w r base v L) (hl : L.length ≤ 1000000) (hs : ∀ o ∈ L, isSl o.2) (hc : w.heap[c]? = some (.cells #[.slice none 0 0] 46 (0, 0))) (hq : r ≠ c)
 (k8 : a.tmps.size = 19) (e3 : a.eval (.tmp 3) = .pointer (some ⟨c, 0, none⟩)) (e0 : a.eval (.tmp 0) = .pointer (some ⟨r, 0, none⟩))
 (hQ : ∀ (w' : World) (vs : List Value) (u : Value), vs.length = 12 → RAt w' c w.heap.size u L → Outside (fun k => k = c) w w' → Q .normal (Act.putFrom a 6 vs) w') : (Code.region 2 ops true).wp Tryz.prog Q a w := by
 subst hp
 have he : c < w.heap.size := (Array.getElem?_eq_some_iff.1 hc).1
 have hx : r < w.heap.size := (Array.getElem?_eq_some_iff.1 h.top).1
 obtain ⟨id, hid, hy, hz, k0⟩ := info_parts Tryz.infoRobj
 have h7 : ∀ (D : Nat → Bool) (w' : World) (k : Nat), BCo w c D w' → (D 12 = false ∨ k ≠ c) → k < w.heap.size → w'.heap[k]? = w.heap[k]? := fun D w' k hB hk k5 => hB.block k k5 (fun q => by
  rcases hk with e | e
  · rw [e] at q; cases q.1
  · exact e q.2)
 refine region_facts (by kernel_rfl) RCo_shape a w (by omega) (VCo w r c v L) (BCo w c) (Outside.drew w) ?_ ?_
 · intro i hi
   match i, hi with
   | 0, _ => exact fun o a' w' D hg ho h0 hk h6 h8 h5 hB hV => op_val (run_op_move ho ((hk.slot 3 (by omega)).trans e3) w') h0 ⟨BCo_upd hB _ (Outside.refl _ _), rfl, kq⟩
   | 1, _ => exact fun o a' w' D hg ho h0 hk h6 h8 h5 hB hV => op_val (run_op_move ho ((hk.slot 3 (by omega)).trans e3) w') h0 ⟨BCo_upd hB _ (Outside.refl _ _), rfl, kq⟩
   | 2, _ =>
    intro o a' w' D hg ho h0 hk h6 h8 h5 hB hV
    have u0 : a'.eval (.tmp 7) = .pointer (some ⟨c, 0, none⟩) := hV 1 (h5 1 (by decide))
    exact op_val (run_op_nil ho u0 w') h0 ⟨BCo_upd hB _ (Outside.refl _ _), rfl, kq⟩
   | 3, _ =>
    intro o a' w' D hg ho h0 hk h6 h8 h5 hB hV
    have u0 : a'.eval (.tmp 8) = .pointer (some ⟨c, 0, none⟩) := hV 2 (h5 2 (by decide))
    exact op_val (v := .pointer (some ⟨c, 0, none⟩)) (by simp only [execOp, show o.op = Op.fieldAddr 46 (.tmp 8) 0 from ho, u0]; go_simp) h0 ⟨BCo_upd hB _ (Outside.refl _ _), rfl, kq⟩
   | 4, _ =>
    intro o a' w' D hg ho h0 hk h6 h8 h5 hB hV
    have u0 : a'.eval (.tmp 9) = .pointer (some ⟨c, 0, none⟩) := hV 3 (h5 3 (by decide))
    have ha : D 12 = false := by
     cases q : D 12 with
     | false => rfl
     | true => have := (h8 12 q).2 4 (by decide); rw [h6] at this; cases this
    have cc : w'.cell? ⟨c, 0, none⟩ = some (.slice none 0 0) := by
     have := (h7 D w' c hB (.inl ha) he).trans hc
     simp [World.cell?, this]
    exact op_val (v := .slice none 0 0) (by simp only [execOp, show o.op = Op.load 44 (.tmp 9) from ho, u0]; go_simp) h0 ⟨BCo_upd hB _ (Outside.refl _ _), rfl, kq⟩
   | 5, _ => exact fun o a' w' D hg ho h0 hk h6 h8 h5 hB hV => op_val (run_op_move ho ((hk.slot 0 (by omega)).trans e0) w') h0 ⟨BCo_upd hB _ (Outside.refl _ _), rfl, kq⟩
   | 6, _ =>
    intro o a' w' D hg ho h0 hk h6 h8 h5 hB hV
    have u0 : a'.eval (.tmp 11) = .pointer (some ⟨r, 0, none⟩) := hV 5 (h5 5 (by decide))
    exact op_val (run_op_nil ho u0 w') h0 ⟨BCo_upd hB _ (Outside.refl _ _), rfl, kq⟩
   | 7, _ =>
    intro o a' w' D hg ho h0 hk h6 h8 h5 hB hV
    have u0 : a'.eval (.tmp 12) = .pointer (some ⟨r, 0, none⟩) := hV 6 (h5 6 (by decide))
    exact op_val (v := .pointer (some ⟨r, 0, none⟩)) (by simp only [execOp, show o.op = Op.fieldAddr 46 (.tmp 12) 0 from ho, u0]; go_simp) h0 ⟨BCo_upd hB _ (Outside.refl _ _), rfl, kq⟩
   | 8, _ =>
    intro o a' w' D hg ho h0 hk h6 h8 h5 hB hV
    have u0 : a'.eval (.tmp 13) = .pointer (some ⟨r, 0, none⟩) := hV 7 (h5 7 (by decide))
    have cc : w'.cell? ⟨r, 0, none⟩ = some v := by
     have := (h7 D w' r hB (.inr hq) hx).trans h.top
     simp [World.cell?, this]
    exact op_val (v := v) (by simp only [execOp, show o.op = Op.load 44 (.tmp 13) from ho, u0]; go_simp) h0 ⟨BCo_upd hB _ (Outside.refl _ _), rfl, kq⟩
   | 9, _ =>
    intro o a' w' D hg ho h0 hk h6 h8 h5 hB hV
    have u0 : a'.eval (.tmp 10) = .slice none 0 0 := hV 4 (h5 4 (by decide))
    have u1 : a'.eval (.tmp 14) = v := hV 8 (h5 8 (by decide))
    have ha : D 12 = false := by
     cases q : D 12 with
     | false => rfl
     | true => have := (h8 12 q).2 9 (by decide); rw [h6] at this; cases this
    have hm : w.grownBy w' none := ⟨hB.os, hB.tape, hB.output, hB.size, fun k hk _ => h7 D w' k hB (.inl ha) hk⟩
    have hf := h.own.kept hm (by cases v.ownBlock <;> simp)
    obtain ⟨v', w'', hr, h2, h3, h4⟩ := run_append_from (P := Tryz.prog) w' w.heap.size 44 44 o.type 67 id _ 2 40 Tryz.underlying44 hid hy hz k0 rfl (.slice none 0 0) 0 [] (World.ownsRow_nil _ _ _ _) v L.length (oCells L) (owns_src hf hs) (by unfold maxLen; omega) (by omega) hB.size
    rw [Nat.zero_add, List.nil_append] at h2
    have hO : Outside (fun _ => False) w' w'' := ⟨h3.os, h3.tape, h3.output, h3.size, fun k hk _ => h3.block k hk (by simp [Value.ownBlock])⟩
    refine op_val (v := v') (w' := w'') (by unfold execOp; simp only [show o.op = Op.call { callee := Callee.builtin Builtin.append, args := #[.tmp 10, .tmp 14], argTypes := #[44, 44] } from ho, resolve, invoke, builtin, Sem.run_bind, Sem.run_pure, Result.andThen_ok, List.map_toArray, List.map_cons, List.map_nil, u0, u1, hr]) h0 ⟨BCo_upd hB 9 (hO.mono fun _ _ q => q.elim), h2, fun j u hj q => ?_⟩
    match j, hj, q with
    | 0, _, q | 1, _, q | 2, _, q | 3, _, q | 10, _, q | 11, _, q | 4, _, q | 5, _, q | 6, _, q | 7, _, q | 8, _, q => exact q
    | 9, hj, _ => rw [h6] at hj; cases hj
    | 12, hj, _ => rw [ha] at hj; cases hj
    | n + 13, _, _ => trivial
   | 10, _ =>
    intro o a' w' D hg ho h0 hk h6 h8 h5 hB hV
    have u0 : a'.eval (.tmp 6) = .pointer (some ⟨c, 0, none⟩) := hV 0 (h5 0 (by decide))
    exact op_val (run_op_nil ho u0 w') h0 ⟨BCo_upd hB _ (Outside.refl _ _), rfl, kq⟩
   | 11, _ =>
    intro o a' w' D hg ho h0 hk h6 h8 h5 hB hV
    have u0 : a'.eval (.tmp 16) = .pointer (some ⟨c, 0, none⟩) := hV 10 (h5 10 (by decide))
    exact op_val (v := .pointer (some ⟨c, 0, none⟩)) (by simp only [execOp, show o.op = Op.fieldAddr 46 (.tmp 16) 0 from ho, u0]; go_simp) h0 ⟨BCo_upd hB _ (Outside.refl _ _), rfl, kq⟩
   | 12, _ =>
    intro o a' w' D hg ho h0 hk h6 h8 h5 hB hV
    have u0 : a'.eval (.tmp 17) = .pointer (some ⟨c, 0, none⟩) := hV 11 (h5 11 (by decide))
    have u1 : w'.ownsRow w.heap.size 67 2 (a'.eval (.tmp 15)) L.length (oCells L) := hV 9 (h5 9 (by decide))
    have h9 : w'.heap[c]? = some (.cells #[.slice none 0 0] 46 (0, 0)) := (h7 D w' c hB (.inl h6) he).trans hc
    obtain ⟨u, hu⟩ : ∃ u, a'.eval (.tmp 15) = u := ⟨_, rfl⟩
    have cc : w'.cell? ⟨c, 0, none⟩ = some (.slice none 0 0) := by simp [World.cell?, h9]
    have fz : w'.frozen? ⟨c, 0, none⟩ = false := by simp [World.frozen?, h9]
    rw [hu] at u1
    obtain ⟨so, sl, sc, k6⟩ : ∃ so sl sc, u = .slice so sl sc := by
     rcases u1.2 with ⟨e, _⟩ | ⟨g, cap, cur, e, _⟩
     · exact ⟨_, _, _, e⟩
     · exact ⟨_, _, _, e⟩
    have hm : w'.grownBy (w'.setCell ⟨c, 0, none⟩ u) (some c) := ⟨rfl, rfl, rfl, by simp [World.setCell], fun i _ hi => blk_setCell_other _ _ _ _ (fun e => hi (by rw [e]))⟩
    have hh : (w'.setCell ⟨c, 0, none⟩ u).ownsRow w.heap.size 67 2 u L.length (oCells L) := u1.kept hm (.inr fun e => by have := (u1.lt c e).1; omega)
    refine op_skip (w' := w'.setCell ⟨c, 0, none⟩ u) (by rw [k6] at hu ⊢; simp only [execOp, show o.op = Op.store 44 (.tmp 17) (.tmp 15) from ho, u0, hu]; go_simp) ⟨BCo_upd hB 12 (Outside.setCell _ _ _ ⟨rfl, rfl⟩), ⟨u, by simp [World.setCell, Array.getElem?_modify, h9], hh⟩, fun j x hj q => ?_⟩
    match j, hj, q with
    | 0, _, q | 1, _, q | 2, _, q | 3, _, q | 10, _, q | 11, _, q | 4, _, q | 5, _, q | 6, _, q | 7, _, q | 8, _, q => exact q
    | 9, _, q => exact World.ownsRow.kept q hm (.inr fun e => by have := (World.ownsRow.lt q c e).1; omega)
    | 12, hj, _ => rw [h6] at hj; cases hj
    | n + 13, _, _ => trivial
   | n + 13, hn => exact absurd hn (by show ¬ n + 13 < 13; omega)
 · rintro a' w' k7 ⟨D, hD, hB⟩ hV
   obtain ⟨u, h1, h2⟩ : VCo w r c v L 12 undef w' := hV 12 (by decide)
   have e : a' = Act.putFrom a 6 ((List.range 12).map fun i => a'.eval (.tmp (6 + i))) := k7.out _ (by rw [List.length_map, List.length_range]) (by omega) (fun i hi => by
    rw [List.length_map, List.length_range] at hi
    rw [List.getD_eq_getElem?_getD, List.getElem?_map, List.getElem?_range hi]; rfl)
   rw [e]
   exact hQ w' _ u (by rw [List.length_map, List.length_range]) ⟨h1, h2⟩ (hB.mono fun k _ q => q.2)
theorem list12c {vs : List Value} (h : vs.length = 12) : ∃ x0 x1 x2 x3 x4 x5 x6 x7 x8 x9 xa xb, vs = [x0, x1, x2, x3, x4, x5, x6, x7, x8, x9, xa, xb] := by
 match vs, h with
 | [x0, x1, x2, x3, x4, x5, x6, x7, x8, x9, xa, xb], _ => exact ⟨_, _, _, _, _, _, _, _, _, _, _, _, rfl⟩
theorem rcopy_any (h : RAt w r base v L) (hl : L.length ≤ 1000000) (hs : ∀ o ∈ L, isSl o.2) :
 Calls Tryz.prog 18 #[.pointer (some ⟨r, 0, none⟩)] w fun e w' => e = .returned (.pointer (some ⟨w.heap.size, 0, none⟩)) ∧ (∃ u, RAt w' w.heap.size (w.heap.size + 1) u L) ∧ Below w.heap.size w w' := by
 have h4 : r < w.heap.size := (Array.getElem?_eq_some_iff.1 h.top).1
 have h1 : RAt (w.alloc (.cells #[.slice none 0 0] 46)) r base v L := ⟨(blk_alloc_lt _ _ _ h4).trans h.top, h.own.alloc _⟩
 have hc := blk_alloc_new w (.cells #[.slice none 0 0] 46)
 have hz : (w.alloc (.cells #[.slice none 0 0] 46)).heap.size = w.heap.size + 1 := by simp
 have h0 : Below w.heap.size w (w.alloc (.cells #[.slice none 0 0] 46)) := (Below.refl _ w).alloc (Nat.le_refl _) _
 go_enter Tryz.func18, Tryz.ntmps18
 go_wp2_with fail
 refine copy_region (by kernel_rfl) h1 hl hs hc (by omega) rfl rfl rfl ?_
 intro w' vs u h2 hR hO
 obtain ⟨x0, x1, x2, x3, x4, x5, x6, x7, x8, x9, xa, xb, rfl⟩ := list12c h2
 rw [hz] at hR
 have h3 : Below w.heap.size w w' := h0.trans (hO.below fun k hk => ⟨by rw [hz]; omega, fun e => by omega⟩)
 have H := hide2 hR h3
 clear hR hO h3 h2 h1 hc hz h0
 rename_i hK
 refine hK _ _ ?_
 clear hK
 simp only [Act.putFrom, Act.put, List.setIfInBounds_toArray, List.set_cons_succ, List.set_cons_zero]
 go_wp2
 go_ret
 exact ⟨rfl, ⟨u, H.out.1⟩, H.out.2⟩
theorem isSl_take (hs : ∀ o ∈ L, isSl o.2) (k : Nat) : ∀ o ∈ L.take k, isSl o.2 := fun o h => hs o (List.mem_of_mem_take h)
theorem isSl_drop (hs : ∀ o ∈ L, isSl o.2) (k : Nat) : ∀ o ∈ L.drop k, isSl o.2 := fun o h => hs o (List.mem_of_mem_drop h)
theorem mid_src {g off : Nat} (hn : L.length = n) (hc : ∀ k (hk : k < L.length), w.cell? ⟨g, off + k * 2, none⟩ = some (.string L[k].1) ∧ w.cell? ⟨g, off + k * 2 + 1, none⟩ = some L[k].2) (hs : ∀ o ∈ L, isSl o.2) :
 Src Tryz.prog 2 44 (.slice (some ⟨g, off, none⟩) n c) n (oCells L) w := by
 subst hn
 refine Src.ofSlice w Tryz.underlying44 ⟨g, off, none⟩ L.length c (oCells L) (oCells_len L) (fun j u hj => ?_) (oCells_one hs)
 rw [Addr.add_mid]
 have h0 : j < L.length * 2 := by
  obtain ⟨q, _⟩ := List.getElem?_eq_some_iff.1 hj
  rwa [oCells_len] at q
 obtain ⟨q1, q2⟩ := oCells_get L (j / 2) (by omega)
 obtain ⟨c1, c2⟩ := hc (j / 2) (by omega)
 by_cases e : j % 2 = 0
 · have e2 : j / 2 * 2 = j := by omega
   rw [e2] at q1 c1
   rw [q1] at hj
   rw [c1, hj]
 · have e2 : j / 2 * 2 + 1 = j := by omega
   rw [e2] at q2
   rw [q2] at hj
   rw [show off + j / 2 * 2 + 1 = off + j by omega] at c2
   rw [c2, hj]
theorem owns_slice {e : TypeId} {size : Nat} {xs : List Value} (h : w.ownsRow base e size v n xs) : ∃ so sl sc, v = .slice so sl sc := by
 rcases h.2 with ⟨q, _⟩ | ⟨g, cap, cur, q, _⟩
 · exact ⟨_, _, _, q⟩
 · exact ⟨_, _, _, q⟩
def RDel (w : World) (r : Nat) (L : List (ByteArray × Value)) (name : ByteArray) (e : Ending) (w' : World) : Prop :=
 (¬ nameOk name ∧ e = .returned (.int .i64 6) ∧ w' = w) ∨ (nameOk name ∧ isNone L name ∧ e = .returned (.int .i64 9) ∧ w' = w) ∨
 (nameOk name ∧ ∃ k, isAt L name k ∧ e = .returned (.int .i64 0) ∧ (∃ u, RAt w' r w.heap.size u (L.take k ++ L.drop (k + 1))) ∧ Outside (fun j => j = r) w w')
theorem rdelete_any (h : RAt w r base v L) (hl : L.length ≤ 1000000) (hs : ∀ o ∈ L, isSl o.2) (name : ByteArray) :
 Calls Tryz.prog 19 #[.pointer (some ⟨r, 0, none⟩), .string name] w fun e w' => RDel w r L name e w' := by
 obtain ⟨c0, f0⟩ := h.cell
 have k9 := h.shape
 have hc := rfind_any h hl name
 have hm := rget_any h hl name
 obtain ⟨id, hid, k5, k6, k7⟩ := info_parts Tryz.infoRobj
 go_enter Tryz.func19, Tryz.ntmps19
 go_wp2_with fail
 refine hm.mono ?_
 clear hm
 rintro e w1 ⟨rfl, hg⟩
 rcases hg with ⟨kh, rfl⟩ | ⟨hp, h3, rfl⟩ | ⟨hp, k0, ka, rfl⟩
 · have HN := hide kh
   clear kh hc k9
   go_wp2
   go_ret
   exact .inl ⟨HN.out, rfl, rfl⟩
 · have HN := hide2 hp h3
   clear hp h3 hc k9
   go_wp2
   go_ret
   exact .inr (.inl ⟨HN.out.1, HN.out.2, rfl, rfl⟩)
 · obtain ⟨x, hx⟩ : ∃ x, (L.getD k0 (ByteArray.empty, undef)).2 = x := ⟨_, rfl⟩
   rw [hx]
   clear hx
   go_wp2_with fail
   refine hc.mono ?_
   clear hc
   rintro e w2 ⟨rfl, hf⟩
   rcases hf with ⟨k, hk, rfl, hn, h4⟩ | ⟨rfl, h3⟩
   · rcases k9 with ⟨rfl, rfl⟩ | ⟨g, cap, rfl, kp, kn, h5⟩
     · exact absurd hk (by simp)
     · have ki : isAt L name k := ⟨hk, hn, h4⟩
       have kj : g < w2.heap.size := block_lt_of_cell (h5 0 (by omega)).1
       have hq : r ≠ g := by
        intro e
        rcases h.own.2 with ⟨q, _⟩ | ⟨g', cap', cur, e1, e2, e3, _⟩
        · cases q
        · simp at e1
          rw [← e1.1] at e3
          rw [← e, h.top] at e3
          simp at e3
       have kk : Src Tryz.prog 2 44 (.slice (some ⟨g, 0, none⟩) k cap) k (oCells (L.take k)) w2 := mid_src (by rw [List.length_take]; omega) (fun j hj => by
        rw [List.length_take] at hj
        obtain ⟨q1, q2⟩ := h5 j (by omega)
        rw [Nat.zero_add, List.getElem_take]
        exact ⟨q1, q2⟩) (isSl_take hs k)
       have HA := hide5 hp ki h5 h hq
       have k1 : (k : Int) < (L.length : Int) := by omega
       have k2 : ¬ (k : Int) < 0 := by omega
       clear hp ki hn h4 h5 h hq ka
       have kr : r < w2.heap.size := block_lt_of_cell c0
       have k8 : ¬ cap = k + 1 ∨ cap = k + 1 := (Decidable.em (cap = k + 1)).symm
       have ks : wrap64 ((k : Int) + 1) = (k : Int) + 1 := by unfold wrap64; omega
       rcases k8 with k8 | k8
       · have kv : ¬ (cap : Int) - ((k : Int) + 1) = 0 := by omega
         go_wp2_with (first
          | (at_builtin; refine wpList_append_from _ rfl (.tmp 21) (.tmp 27) 44 44 rfl w2.heap.size 67 id _ 2 40 Tryz.underlying44 hid k5 k6 k7 rfl (.slice none 0 0) 0 [] rfl (World.ownsRow_nil _ _ _ _) _ rfl k (oCells (L.take k)) kk (by unfold maxLen; omega) (by omega) (Nat.le_refl _) ?_; intro v1 w3 hr h6 kb
             have he : ∀ j, j < w2.heap.size → w3.heap[j]? = w2.heap[j]? := fun j hj => h6.block j hj (by simp [Value.ownBlock])
             have hh : w3.heap[r]? = _ := (he r (block_lt_of_cell c0)).trans HA.out.2.2.2.1.top
             have c3 : w3.cell? ⟨r, 0, none⟩ = some (.slice (some ⟨g, 0, none⟩) L.length cap) := by simp [World.cell?, hh]
             have f3 : w3.frozen? ⟨r, 0, none⟩ = false := by simp [World.frozen?, hh]
             have hy := h6.size
             have h8 := h6.os
             have h0 := h6.tape
             have h2 := h6.output
             have hz : Src Tryz.prog 2 44 (.slice (some ⟨g, (k + 1) * 2, none⟩) (L.length - (k + 1)) (cap - (k + 1))) (L.length - (k + 1)) (oCells (L.drop (k + 1))) w3 := mid_src (by rw [List.length_drop]) (fun j hj => by
              rw [List.length_drop] at hj
              obtain ⟨q1, q2⟩ := HA.out.2.2.1 (k + 1 + j) (by omega)
              rw [List.getElem_drop, show (k + 1) * 2 + j * 2 = (k + 1 + j) * 2 by omega]
              exact ⟨(World.cell?_of_block (he g kj)).trans q1, (World.cell?_of_block (he g kj)).trans q2⟩) (isSl_drop hs (k + 1))
             have H3 := hide3 hr he hz
             clear hr h6 he hz hh)
          | (at_builtin; refine wpList_append_from _ rfl (.tmp 29) (.tmp 36) 44 44 rfl w2.heap.size 67 id _ 2 40 Tryz.underlying44 hid k5 k6 k7 rfl v1 (0 + k) _ rfl H3.out.1 _ rfl (L.length - (k + 1)) (oCells (L.drop (k + 1))) H3.out.2.2 (by unfold maxLen; omega) (by omega) hy ?_; intro v2 w4 h9 h1 kc
             obtain ⟨so, sl, sc, rfl⟩ := owns_slice h9
             have kd : ¬ some r = v1.ownBlock := fun e => by have := (H3.out.1.lt r e.symm).1; omega
             have h7 : w4.heap[r]? = _ := (h1.block r (block_lt_of_cell c3) kd).trans ((H3.out.2.1 r (block_lt_of_cell c0)).trans HA.out.2.2.2.1.top)
             have c4 : w4.cell? ⟨r, 0, none⟩ = some (.slice (some ⟨g, 0, none⟩) L.length cap) := by simp [World.cell?, h7]
             have f4 : w4.frozen? ⟨r, 0, none⟩ = false := by simp [World.frozen?, h7]
             have H4 := hide3 h9 h1 h7
             clear h9 h1 h7))
         have ke : (L.take k ++ L.drop (k + 1)).length = 0 + k + (L.length - (k + 1)) := by rw [List.length_append, List.length_take, List.length_drop]; omega
         obtain ⟨h9, h1, h7⟩ := H4.out
         have ha : w4.ownsRow w2.heap.size 67 2 (.slice so sl sc) (L.take k ++ L.drop (k + 1)).length (oCells (L.take k ++ L.drop (k + 1))) := by rw [ke, oCells_append]; exact h9
         have hO : Outside (fun j => j = r) w2 w4 := ⟨h1.os.trans h8, h1.tape.trans h0, h1.output.trans h2, Nat.le_trans hy h1.size, fun j hj ko => (h1.block j (by omega) (fun e => by have := (H3.out.1.lt j e.symm).1; omega)).trans (H3.out.2.1 j hj)⟩
         go_ret
         have kf : w4.grownBy (w4.setCell ⟨r, 0, none⟩ (.slice so sl sc)) (some r) := ⟨rfl, rfl, rfl, by simp [World.setCell], fun i _ hi => blk_setCell_other _ _ _ _ (fun e => hi (by rw [e]))⟩
         refine .inr (.inr ⟨HA.out.1, k, HA.out.2.1, rfl, ⟨.slice so sl sc, ⟨by simp [World.setCell, Array.getElem?_modify, h7], ha.kept kf (.inr fun e => by have := (ha.lt r e).1; omega)⟩⟩, hO.trans (Outside.setCell _ _ _ rfl)⟩)
       · subst k8
         have km : L.length = k + 1 := by omega
         have kg := hide km
         clear km
         go_wp2_with (first
          | (at_builtin; refine wpList_append_from _ rfl (.tmp 21) (.tmp 27) 44 44 rfl w2.heap.size 67 id _ 2 40 Tryz.underlying44 hid k5 k6 k7 rfl (.slice none 0 0) 0 [] rfl (World.ownsRow_nil _ _ _ _) _ rfl k (oCells (L.take k)) kk (by unfold maxLen; omega) (by omega) (Nat.le_refl _) ?_; intro v1 w3 hr h6 kb
             have he : ∀ j, j < w2.heap.size → w3.heap[j]? = w2.heap[j]? := fun j hj => h6.block j hj (by simp [Value.ownBlock])
             have hh : w3.heap[r]? = _ := (he r (block_lt_of_cell c0)).trans HA.out.2.2.2.1.top
             have c3 : w3.cell? ⟨r, 0, none⟩ = some (.slice (some ⟨g, 0, none⟩) L.length (k + 1)) := by simp [World.cell?, hh]
             have f3 : w3.frozen? ⟨r, 0, none⟩ = false := by simp [World.frozen?, hh]
             have hy := h6.size
             have h8 := h6.os
             have h0 := h6.tape
             have h2 := h6.output
             have hz : Src Tryz.prog 2 44 (.slice (some ⟨g, 0, none⟩) 0 0) 0 (oCells (L.drop (k + 1))) w3 := mid_src (by rw [List.length_drop, kg.out]; omega) (fun j hj => absurd hj (by rw [List.length_drop, kg.out]; omega)) (isSl_drop hs (k + 1))
             have H3 := hide3 hr he hz
             clear hr h6 he hz hh)
          | (at_builtin; refine wpList_append_from _ rfl (.tmp 29) (.tmp 36) 44 44 rfl w2.heap.size 67 id _ 2 40 Tryz.underlying44 hid k5 k6 k7 rfl v1 (0 + k) _ rfl H3.out.1 _ rfl 0 (oCells (L.drop (k + 1))) H3.out.2.2 (by unfold maxLen; omega) (by omega) hy ?_; intro v2 w4 h9 h1 kc
             obtain ⟨so, sl, sc, rfl⟩ := owns_slice h9
             have kd : ¬ some r = v1.ownBlock := fun e => by have := (H3.out.1.lt r e.symm).1; omega
             have h7 : w4.heap[r]? = _ := (h1.block r (block_lt_of_cell c3) kd).trans ((H3.out.2.1 r (block_lt_of_cell c0)).trans HA.out.2.2.2.1.top)
             have c4 : w4.cell? ⟨r, 0, none⟩ = some (.slice (some ⟨g, 0, none⟩) L.length (k + 1)) := by simp [World.cell?, h7]
             have f4 : w4.frozen? ⟨r, 0, none⟩ = false := by simp [World.frozen?, h7]
             have H4 := hide3 h9 h1 h7
             clear h9 h1 h7))
         have ke : (L.take k ++ L.drop (k + 1)).length = 0 + k + 0 := by rw [List.length_append, List.length_take, List.length_drop, kg.out]; omega
         obtain ⟨h9, h1, h7⟩ := H4.out
         have ha : w4.ownsRow w2.heap.size 67 2 (.slice so sl sc) (L.take k ++ L.drop (k + 1)).length (oCells (L.take k ++ L.drop (k + 1))) := by rw [ke, oCells_append]; exact h9
         have hO : Outside (fun j => j = r) w2 w4 := ⟨h1.os.trans h8, h1.tape.trans h0, h1.output.trans h2, Nat.le_trans hy h1.size, fun j hj ko => (h1.block j (by omega) (fun e => by have := (H3.out.1.lt j e.symm).1; omega)).trans (H3.out.2.1 j hj)⟩
         go_ret
         have kf : w4.grownBy (w4.setCell ⟨r, 0, none⟩ (.slice so sl sc)) (some r) := ⟨rfl, rfl, rfl, by simp [World.setCell], fun i _ hi => blk_setCell_other _ _ _ _ (fun e => hi (by rw [e]))⟩
         refine .inr (.inr ⟨HA.out.1, k, HA.out.2.1, rfl, ⟨.slice so sl sc, ⟨by simp [World.setCell, Array.getElem?_modify, h7], ha.kept kf (.inr fun e => by have := (ha.lt r e).1; omega)⟩⟩, hO.trans (Outside.setCell _ _ _ rfl)⟩)
   · exact absurd ka.2.1 (h3 k0 ka.1)
theorem bytes_srcR {l : List Nat} (h : Bs w v l) : Src Tryz.prog 1 31 v l.length (bts l) w := by
 obtain ⟨ao, c, rfl, h1, h2, h3, h4⟩ := h
 have h0 : ∀ u ∈ bts l, u.oneCell' = true := fun u hu => by unfold bts at hu; rw [List.mem_map] at hu; obtain ⟨x, _, rfl⟩ := hu; rfl
 by_cases hl : l = []
 · subst hl
   cases ao with
   | none => exact Src.ofNil w Tryz.underlying31 c
   | some ad => exact Src.ofSlice w Tryz.underlying31 ad 0 c [] rfl (fun j u hj => by simp at hj) (fun u hu => by simp at hu)
 · obtain ⟨b, off, rfl, hc⟩ := h4 hl
   refine Src.ofSlice w Tryz.underlying31 ⟨b, off, none⟩ l.length c (bts l) (by rw [bts_len, Nat.mul_one]) (fun j u hj => ?_) h0
   rw [Addr.add_mid]
   have h5 : j < l.length := by obtain ⟨q, _⟩ := List.getElem?_eq_some_iff.1 hj; rwa [bts_len] at q
   rw [hc j h5, ← hj]
   unfold bts
   rw [List.getElem?_map, List.getElem?_eq_getElem h5, List.getD_eq_getElem?_getD, List.getElem?_eq_getElem h5]; rfl
theorem Tryz.infoByteR : (Tryz.prog.info? 5).map (fun i => (i.zero, i.size, i.bytes)) = some (some (.int .u8 0), 1, 1) := by kernel_rfl
theorem rput_name (r : Nat) (name : ByteArray) (ao : Option Addr) (n c : Nat) (h1 : ¬ nameOk name) (w : World) :
 Calls Tryz.prog 28 #[.pointer (some ⟨r, 0, none⟩), .string name, .slice ao n c] w fun e w' => e = .returned (.int .i64 6) ∧ w' = w := by
 by_cases h0 : name.size = 0
 · have n0 : (name.size : Int) = 0 := by omega
   go_enter Tryz.func28, Tryz.ntmps28
   go_wp2
   go_ret
   exact ⟨rfl, rfl⟩
 · have n0 : ¬ (name.size : Int) = 0 := by omega
   have n1 : (16 : Int) < (name.size : Int) := by unfold nameOk at h1; omega
   go_enter Tryz.func28, Tryz.ntmps28
   go_wp2
   go_ret
   exact ⟨rfl, rfl⟩
theorem rput_size (r : Nat) (name : ByteArray) (ao : Option Addr) (n c : Nat) (h1 : nameOk name) (hn : 1500 < n) (w : World) :
 Calls Tryz.prog 28 #[.pointer (some ⟨r, 0, none⟩), .string name, .slice ao n c] w fun e w' => e = .returned (.int .i64 7) ∧ w' = w := by
 have h0 : ¬ name.size = 0 := by have := h1.1; omega
 have n0 : ¬ (name.size : Int) = 0 := by omega
 have n1 : ¬ (16 : Int) < (name.size : Int) := by have := h1.2; omega
 have n2 : (1500 : Int) < (n : Int) := by omega
 clear h1
 go_enter Tryz.func28, Tryz.ntmps28
 go_wp2
 go_ret
 exact ⟨rfl, rfl⟩
theorem rput_exists (h : RAt w r base v L) (hl : L.length ≤ 1000000) (name : ByteArray) (ao : Option Addr) (n c : Nat) (h2 : nameOk name) (hn : n ≤ 1500) (h3 : ¬ isNone L name) :
 Calls Tryz.prog 28 #[.pointer (some ⟨r, 0, none⟩), .string name, .slice ao n c] w fun e w' => e = .returned (.int .i64 8) ∧ w' = w := by
 have hc := rfind_any h hl name
 have h0 : ¬ name.size = 0 := by have := h2.1; omega
 have n0 : ¬ (name.size : Int) = 0 := by omega
 have n1 : ¬ (16 : Int) < (name.size : Int) := by have := h2.2; omega
 have n2 : ¬ (1500 : Int) < (n : Int) := by omega
 clear h2 h
 go_enter Tryz.func28, Tryz.ntmps28
 go_wp2_with fail
 refine hc.mono ?_
 rintro e w1 ⟨rfl, hf⟩
 rcases hf with ⟨k, hk, rfl, _⟩ | ⟨rfl, h1⟩
 · have k2 : (0 : Int) ≤ (k : Int) := by omega
   clear hc h3
   go_wp2
   go_ret
   exact ⟨rfl, rfl⟩
 · exact absurd h1 h3
end Go.Proofs.YtpaemkanfnddoaaGreatDoor
