import Derived.Test.YtpaemkanfnddoaaGreatDoorM35
set_option maxRecDepth 100000
set_option maxHeartbeats 8000000
namespace Go.Proofs.YtpaemkanfnddoaaGreatDoor
open Go.RowKit
variable {a b : ByteArray} {ns : List ByteArray} {l P P' : List Nat} {nb k D L G t : Nat}
theorem bl_eq : ∀ (x y : List UInt8), Op.bytesLess x y = decide (x < y)
 | [], [] => by simp [Op.bytesLess]
 | _ :: _, [] => by simp [Op.bytesLess]
 | [], _ :: _ => by simp [Op.bytesLess]
 | a :: x, b :: y => by
  rw [Op.bytesLess, bl_eq x y]
  simp only [List.cons_lt_cons_iff]
  by_cases h1 : a < b <;> by_cases h2 : a = b <;> by_cases h3 : x < y <;> simp [h1, h2, h3]
def ltN (a b : ByteArray) : Bool := Op.bytesLess a.toList b.toList
theorem ltN_iff : ltN a b = true ↔ a.toList < b.toList := by unfold ltN; rw [bl_eq]; simp
theorem ltN_not : ltN a b = false ↔ ¬ a.toList < b.toList := by unfold ltN; rw [bl_eq]; simp
theorem ltN_irrefl (a : ByteArray) : ltN a a = false := ltN_not.2 (List.lt_irrefl _)
theorem ltN_trans {c : ByteArray} (h : ltN a b = true) (k : ltN b c = true) : ltN a c = true := ltN_iff.2 (List.lt_trans (ltN_iff.1 h) (ltN_iff.1 k))
theorem toList_inj (h : a.toList = b.toList) : a = b := by
 have h1 : a.data.toList = b.data.toList := by rw [← Lib.toList_data, ← Lib.toList_data]; exact h
 have h2 : a.data = b.data := Array.toList_inj.1 h1
 cases a; cases b; simpa using h2
theorem ltN_tri (h : ltN a b = false) (k : ltN b a = false) : a = b := toList_inj (List.le_antisymm (ltN_not.1 k) (ltN_not.1 h))
theorem leS_false (h : leS a b = false) : ltN b a = true := by
 unfold leS at h
 rw [Bool.or_eq_false_iff] at h
 cases hb : ltN b a
 · have e := ltN_tri (a := a) (b := b) h.1 hb
   rw [e] at h
   simp at h
 · rfl
theorem leS_of_lt (h : ltN b a = true) : leS a b = false := by
 unfold leS
 rw [Bool.or_eq_false_iff]
 constructor
 · cases hb : Op.bytesLess a.toList b.toList
   · rfl
   · have := ltN_trans (a := b) (b := a) (c := b) h hb
     rw [ltN_irrefl] at this; cases this
 · cases hb : (a.toList == b.toList)
   · rfl
   · have e := toList_inj (eq_of_beq hb)
     rw [e, ltN_irrefl] at h; cases h
def Up (ns : List ByteArray) : Prop := ns.Pairwise (fun a b => ltN a b = true)
def namesOf (os : List Ob) : List ByteArray := os.map (·.name)
theorem namesOf_len (os : List Ob) : (namesOf os).length = os.length := by unfold namesOf; rw [List.length_map]
theorem getD_at {os : List Ob} {i : Nat} (hi : i < os.length) : os.getD i ob0 = os[i] := by rw [List.getD_eq_getElem?_getD, List.getElem?_eq_getElem hi]; rfl
theorem pair_step (ns : List ByteArray) (h : ∀ i (hi : i + 1 < ns.length), ltN ns[i] ns[i + 1] = true) : Up ns := by
 unfold Up
 rw [List.pairwise_iff_getElem]
 intro i j hi hj h0
 obtain ⟨d, rfl⟩ : ∃ d, j = i + 1 + d := ⟨j - (i + 1), by omega⟩
 clear h0
 induction d with
 | zero => exact h i hj
 | succ d ih => exact ltN_trans (ih (by omega)) (h (i + 1 + d) hj)
theorem up_of_rising {os : List Ob} (h : Rising os) : Up (namesOf os) := by
 refine pair_step _ fun i hi => ?_
 rw [namesOf_len] at hi
 have := leS_false (h i hi)
 rw [getD_at hi, getD_at (by omega : i < os.length)] at this
 have e : ∀ j (hj : j < os.length), (namesOf os)[j]'(by rw [namesOf_len]; exact hj) = os[j].name := fun j hj => by unfold namesOf; rw [List.getElem_map]
 rw [e i (by omega), e (i + 1) hi]
 exact this
theorem rising_of_up {os : List Ob} (h : Up (namesOf os)) : Rising os := by
 intro i hi
 unfold Up at h
 rw [List.pairwise_iff_getElem] at h
 have := h i (i + 1) (by rw [namesOf_len]; omega) (by rw [namesOf_len]; omega) (Nat.lt_succ_self i)
 refine leS_of_lt ?_
 rw [getD_at hi, getD_at (by omega : i < os.length)]
 unfold namesOf at this
 simpa using this
def placeN (ns : List ByteArray) (x : ByteArray) : Nat := (ns.takeWhile (fun n => ltN n x)).length
theorem placeN_le (ns : List ByteArray) (x : ByteArray) : placeN ns x ≤ ns.length := by unfold placeN; exact (List.takeWhile_prefix _).length_le
theorem placeN_uniq : ∀ (ns : List ByteArray) (x : ByteArray) (i : Nat), i ≤ ns.length → (∀ j (hj : j < ns.length), j < i → ltN ns[j] x = true) → (∀ hi : i < ns.length, ltN ns[i] x = false) → placeN ns x = i
 | [], x, i, hi, _, _ => by simp at hi; subst hi; rfl
 | n :: ns, x, 0, hi, h1, h2 => by
  have := h2 (by simp)
  unfold placeN
  rw [List.takeWhile_cons]
  simp at this
  simp [this]
 | n :: ns, x, i + 1, hi, h1, h2 => by
  have h0 := h1 0 (by simp) (by omega)
  simp at h0
  have := placeN_uniq ns x i (by simpa using hi) (fun j hj h4 => h1 (j + 1) (Nat.succ_lt_succ hj) (by omega)) (fun h3 => h2 (Nat.succ_lt_succ h3))
  unfold placeN at this ⊢
  rw [List.takeWhile_cons]
  simp [h0, this]
theorem placeN_before : ∀ (ns : List ByteArray) (x : ByteArray) (j : Nat) (hj : j < ns.length), j < placeN ns x → ltN ns[j] x = true
 | [], _, j, hj, _ => by simp at hj
 | n :: ns, x, j, hj, h => by
  unfold placeN at h
  rw [List.takeWhile_cons] at h
  cases hn : ltN n x
  · simp [hn] at h
  · simp [hn] at h
    cases j with
    | zero => simpa using hn
    | succ j => simpa using placeN_before ns x j (by simpa using hj) (by unfold placeN; omega)
theorem placeN_at : ∀ (ns : List ByteArray) (x : ByteArray) (hj : placeN ns x < ns.length), ltN ns[placeN ns x] x = false
 | [], x, hj => by simp at hj
 | n :: ns, x, hj => by
  by_cases hn : ltN n x = true
  · have e : placeN (n :: ns) x = placeN ns x + 1 := by unfold placeN; rw [List.takeWhile_cons]; simp [hn]
    have h2 := placeN_at ns x (by rw [e] at hj; simpa using hj)
    simp only [e, List.getElem_cons_succ]
    exact h2
  · have e : placeN (n :: ns) x = 0 := by unfold placeN; rw [List.takeWhile_cons]; simp [hn]
    simp only [e, List.getElem_cons_zero]
    simpa using hn
theorem placeN_behind (hu : Up ns) (x : ByteArray) (j : Nat) (hj : j < ns.length) (h : placeN ns x ≤ j) : ltN ns[j] x = false := by
 have h0 := placeN_at ns x (by omega)
 rcases Nat.eq_or_lt_of_le h with e | h2
 · subst e; exact h0
 · unfold Up at hu
   rw [List.pairwise_iff_getElem] at hu
   have h1 := hu _ _ (by omega) hj h2
   cases hb : ltN ns[j] x
   · rfl
   · rw [ltN_trans h1 hb] at h0; cases h0
theorem placeN_there (hu : Up ns) {x : ByteArray} {k : Nat} (hk : k < ns.length) (e : ns[k] = x) : placeN ns x = k := by
 refine placeN_uniq ns x k (Nat.le_of_lt hk) (fun j hj h0 => ?_) (fun hi => by rw [e]; exact ltN_irrefl x)
 unfold Up at hu
 rw [List.pairwise_iff_getElem] at hu
 have := hu j k hj hk h0
 rwa [e] at this
theorem placeN_mem (hu : Up ns) {x : ByteArray} (hx : x ∈ ns) : ∃ h : placeN ns x < ns.length, ns[placeN ns x] = x := by
 obtain ⟨k, hk, e⟩ := List.getElem_of_mem hx
 have := placeN_there hu hk e
 exact ⟨by omega, by simp only [this]; exact e⟩
theorem up_insert (hu : Up ns) {x : ByteArray} (hx : x ∉ ns) : Up (ns.take (placeN ns x) ++ x :: ns.drop (placeN ns x)) := by
 have hp := placeN_le ns x
 unfold Up
 rw [List.pairwise_append, List.pairwise_cons]
 refine ⟨List.Pairwise.sublist (List.take_sublist _ _) hu, ⟨fun a ha => ?_, List.Pairwise.sublist (List.drop_sublist _ _) hu⟩, fun a ha b hb => ?_⟩
 · obtain ⟨j, hj, e⟩ := List.getElem_of_mem ha
   rw [List.length_drop] at hj
   rw [List.getElem_drop] at e
   have h1 := placeN_behind hu x (placeN ns x + j) (by omega) (by omega)
   rw [e] at h1
   cases hb : ltN x a
   · exact absurd (List.mem_of_mem_drop ha) (by rw [ltN_tri h1 hb]; exact hx)
   · rfl
 · obtain ⟨j, hj, e⟩ := List.getElem_of_mem ha
   rw [List.length_take] at hj
   rw [List.getElem_take] at e
   have h1 := placeN_before ns x j (by omega) (by omega)
   rw [e] at h1
   rcases List.mem_cons.1 hb with rfl | hb
   · exact h1
   · obtain ⟨i, hi, e'⟩ := List.getElem_of_mem hb
     rw [List.length_drop] at hi
     rw [List.getElem_drop] at e'
     unfold Up at hu
     rw [List.pairwise_iff_getElem] at hu
     have := hu j (placeN ns x + i) (by omega) (by omega) (by omega)
     rwa [e, e'] at this
theorem up_erase (hu : Up ns) (k : Nat) : Up (ns.take k ++ ns.drop (k + 1)) := by
 refine List.Pairwise.sublist ?_ hu
 have h1 : (ns.take k ++ ns.drop (k + 1)).Sublist (ns.take k ++ ns.drop k) := List.Sublist.append (List.Sublist.refl _) (by rw [← List.drop_drop]; exact List.drop_sublist _ _)
 rwa [List.take_append_drop] at h1
section
open Gf
theorem tk_fold (nb : Nat) : ∀ (l : List Nat) (s : (Nat → Bool) × Bool), (∀ x ∈ l, 2 ≤ x ∧ x < nb ∧ s.1 x = false) → l.Nodup → (l.foldl (tkStep nb) s).2 = s.2 ∧ ∀ x, (l.foldl (tkStep nb) s).1 x = (s.1 x || decide (x ∈ l))
 | [], s, _, _ => ⟨rfl, fun x => by simp⟩
 | y :: l, s, h, hn => by
  obtain ⟨h1, h2, h3⟩ := h y (List.mem_cons_self ..)
  obtain ⟨h4, h5⟩ := List.nodup_cons.1 hn
  have e : tkStep nb s y = (fun j => if j = y then true else s.1 j, s.2) := by
   unfold tkStep
   rw [if_neg (fun q => by rcases q with q | q | q; omega; omega; rw [h3] at q; cases q)]
  rw [List.foldl_cons, e]
  obtain ⟨q1, q2⟩ := tk_fold nb l (fun j => if j = y then true else s.1 j, s.2) (fun x hx => by
   obtain ⟨a, b, c⟩ := h x (List.mem_cons_of_mem _ hx)
   have h0 : ¬ x = y := fun q => h4 (by rw [← q]; exact hx)
   exact ⟨a, b, by show (if x = y then true else s.1 x) = false; rw [if_neg h0]; exact c⟩) h5
  refine ⟨q1, fun x => ?_⟩
  rw [q2]
  show ((if x = y then true else s.1 x) || decide (x ∈ l)) = (s.1 x || decide (x ∈ y :: l))
  by_cases h0 : x = y
  · subst h0
    simp
  · rw [if_neg h0]
    simp [h0]
theorem tk_ok (hn : l.Nodup) (hb : ∀ x ∈ l, 2 ≤ x ∧ x < nb) : (tk nb l).2 = true ∧ ∀ x, (tk nb l).1 x = decide (x ∈ l) := by
 obtain ⟨h1, h2⟩ := tk_fold nb l (fun _ => false, true) (fun x hx => ⟨(hb x hx).1, (hb x hx).2, rfl⟩) hn
 exact ⟨h1, fun x => by rw [show (tk nb l).1 x = _ from h2 x]; rfl⟩
theorem frees_mem {T : Nat → Bool} {x : Nat} : x ∈ frees T k ↔ x < k ∧ 2 ≤ x ∧ T x = false := by
 unfold frees
 rw [List.mem_filter, List.mem_range]
 simp
theorem frees_nodup (T : Nat → Bool) (k : Nat) : (frees T k).Nodup := (List.nodup_range).filter _
theorem frees_apart (hn : l.Nodup) (hb : ∀ x ∈ l, 2 ≤ x ∧ x < nb) {x : Nat} (hx : x ∈ frees (tk nb l).1 nb) : (2 ≤ x ∧ x < nb) ∧ x ∉ l := by
 obtain ⟨h1, h2, h3⟩ := frees_mem.1 hx
 rw [(tk_ok hn hb).2] at h3
 exact ⟨⟨h2, h1⟩, of_decide_eq_false h3⟩
theorem take_apart (hn : l.Nodup) (hb : ∀ x ∈ l, 2 ≤ x ∧ x < nb) (c : Nat) : (((frees (tk nb l).1 nb).take c) ++ l).Nodup ∧ ∀ x ∈ ((frees (tk nb l).1 nb).take c) ++ l, 2 ≤ x ∧ x < nb := by
 refine ⟨List.nodup_append.2 ⟨(frees_nodup _ _).sublist (List.take_sublist _ _), hn, fun x hx y hy e => ?_⟩, fun x hx => ?_⟩
 · subst e
   exact (frees_apart hn hb (List.mem_of_mem_take hx)).2 hy
 · rcases List.mem_append.1 hx with h | h
   · exact (frees_apart hn hb (List.mem_of_mem_take h)).1
   · exact hb x h
theorem frees_count (hn : l.Nodup) (hb : ∀ x ∈ l, 2 ≤ x ∧ x < nb) : (frees (tk nb l).1 nb).length + l.length + 2 = max 2 nb := by
 by_cases h2 : 2 ≤ nb
 · have hp : ((frees (tk nb l).1 nb) ++ l ++ [0, 1]).Perm (List.range nb) := by
    refine (List.perm_ext_iff_of_nodup ?_ List.nodup_range).2 fun x => ?_
    · refine List.nodup_append.2 ⟨List.nodup_append.2 ⟨frees_nodup _ _, hn, fun x hx y hy e => ?_⟩, by decide, fun x hx y hy e => ?_⟩
      · subst e; exact (frees_apart hn hb hx).2 hy
      · subst e
        have h1 : 2 ≤ x := by
         rcases List.mem_append.1 hx with h | h
         · exact (frees_apart hn hb h).1.1
         · exact (hb x h).1
        simp at hy
        omega
    · rw [List.mem_range, List.mem_append, List.mem_append, frees_mem]
      constructor
      · rintro ((h | h) | h)
        · exact h.1
        · exact (hb x h).2
        · simp at h; omega
      · intro h
        by_cases h1 : 2 ≤ x
        · by_cases h0 : x ∈ l
          · exact .inl (.inr h0)
          · exact .inl (.inl ⟨h, h1, by rw [(tk_ok hn hb).2]; exact decide_eq_false h0⟩)
        · exact .inr (by simp; omega)
   have := hp.length_eq
   simp at this
   omega
 · have e1 : l = [] := by
    cases l with
    | nil => rfl
    | cons x l => have := hb x (List.mem_cons_self ..); omega
   subst e1
   have e2 : frees (tk nb []).1 nb = [] := by
    rw [List.eq_nil_iff_forall_not_mem]
    intro x hx
    have := frees_mem.1 hx
    omega
   rw [e2]
   simp
   omega
end
section
open Gf
def chunkB (D : Nat) (d : List Nat) (k : Nat) : List Nat := (d.drop (k * (D * 44))).take (D * 44)
def Arr.objTo (A : Arr) (D L G : Nat) (S d : List Nat) : Nat → Arr
 | 0 => A
 | k + 1 => (Arr.objTo A D L G S d k).putAt (List.range A.n) (S.getD k 0) (fun i => (Rec.shard ((stripeL D L G (chunkB D d k)).getD i [])).blk)
def Arr.wrTo (A : Arr) (at' : Nat → Nat) (f : Nat → Nat → List Nat) : Nat → Arr
 | 0 => A
 | k + 1 => (Arr.wrTo A at' f k).putAt (List.range A.n) (at' k) (f k)
theorem pagesTo_wr (A : Arr) (D L G : Nat) (P l : List Nat) : ∀ k, A.pagesTo D L G P l k = A.wrTo (P.getD · 0) (fun k i => (Rec.shard ((stripeL D L G (pageB D P l k)).getD i [])).blk) k
 | 0 => rfl
 | k + 1 => by rw [Arr.pagesTo, pagesTo_wr A D L G P l k]; rfl
theorem objTo_wr (A : Arr) (D L G : Nat) (S d : List Nat) : ∀ k, A.objTo D L G S d k = A.wrTo (S.getD · 0) (fun k i => (Rec.shard ((stripeL D L G (chunkB D d k)).getD i [])).blk) k
 | 0 => rfl
 | k + 1 => by rw [Arr.objTo, objTo_wr A D L G S d k]; rfl
theorem wrTo_n (A : Arr) (at' : Nat → Nat) (f : Nat → Nat → List Nat) : ∀ k, (A.wrTo at' f k).n = A.n ∧ (A.wrTo at' f k).nb = A.nb ∧ (A.wrTo at' f k).wait = A.wait ∧ (A.wrTo at' f k).lost = A.lost
 | 0 => ⟨rfl, rfl, rfl, rfl⟩
 | k + 1 => wrTo_n A at' f k
theorem putAt_bad {A : Arr} (h : ∀ i m, A.bad i m = false) (ds : List Nat) (b : Nat) (f : Nat → List Nat) (i m : Nat) : (A.putAt ds b f).bad i m = false := by
 unfold Arr.putAt
 simp [h]
theorem wrTo_bad {A : Arr} (h : ∀ i m, A.bad i m = false) (at' : Nat → Nat) (f : Nat → Nat → List Nat) : ∀ k i m, (A.wrTo at' f k).bad i m = false
 | 0 => h
 | k + 1 => putAt_bad (wrTo_bad h at' f k) _ _ _
theorem putAt_off (A : Arr) (ds : List Nat) (b : Nat) (f : Nat → List Nat) (i m : Nat) (h : m ≠ b) : (A.putAt ds b f).blk i m = A.blk i m := by
 unfold Arr.putAt
 simp [h]
theorem putAt_on (A : Arr) (b : Nat) (f : Nat → List Nat) (i n : Nat) (h : i < n) : (A.putAt (List.range n) b f).blk i b = f i := by
 unfold Arr.putAt
 simp [h]
theorem wrTo_off (A : Arr) (at' : Nat → Nat) (f : Nat → Nat → List Nat) (i m : Nat) : ∀ k, (∀ j, j < k → at' j ≠ m) → (A.wrTo at' f k).blk i m = A.blk i m
 | 0, _ => rfl
 | k + 1, h => by
  rw [Arr.wrTo, putAt_off _ _ _ _ _ _ (fun e => h k (by omega) e.symm)]
  exact wrTo_off A at' f i m k (fun j hj => h j (by omega))
theorem wrTo_on (A : Arr) (at' : Nat → Nat) (f : Nat → Nat → List Nat) (i : Nat) (hi : i < A.n) : ∀ k j, j < k → (∀ a b, a < k → b < k → at' a = at' b → a = b) → (A.wrTo at' f k).blk i (at' j) = f j i
 | 0, _, hj, _ => by omega
 | k + 1, j, hj, h => by
  rw [Arr.wrTo]
  rcases Nat.eq_or_lt_of_le (Nat.le_of_lt_succ hj) with e | h0
  · subst e
    exact putAt_on _ _ _ _ _ hi
  · rw [putAt_off _ _ _ _ _ _ (fun e => by have := h j k (by omega) (by omega) e; omega)]
    exact wrTo_on A at' f i hi k j h0 (fun a b ha hb => h a b (by omega) (by omega))
theorem getD_in (h : k < l.length) : l.getD k 0 = l[k] := by rw [List.getD_eq_getElem?_getD, List.getElem?_eq_getElem h]; rfl
theorem getD_inj (hn : l.Nodup) {a b : Nat} (ha : a < l.length) (hb : b < l.length) (e : l.getD a 0 = l.getD b 0) : a = b := by
 rw [getD_in ha, getD_in hb] at e
 exact (List.getElem_inj hn).1 e
theorem pagesTo_off (A : Arr) (D L G : Nat) (P l : List Nat) (i m : Nat) (h : m ∉ P) : (A.pagesTo D L G P l P.length).blk i m = A.blk i m := by
 rw [pagesTo_wr]
 refine wrTo_off _ _ _ _ _ _ fun j hj e => h ?_
 rw [← e]
 show P.getD j 0 ∈ P
 rw [getD_in hj]
 exact List.getElem_mem hj
theorem pagesTo_on {A : Arr} (D L G : Nat) {P : List Nat} (l : List Nat) (hn : P.Nodup) {i k : Nat} (hi : i < A.n) (hk : k < P.length) : (A.pagesTo D L G P l P.length).blk i (P.getD k 0) = (Rec.shard ((stripeL D L G (pageB D P l k)).getD i [])).blk := by
 rw [pagesTo_wr]
 exact wrTo_on A _ _ i hi P.length k hk fun a b ha hb e => getD_inj hn ha hb e
theorem objTo_off (A : Arr) (D L G : Nat) (S d : List Nat) (i m : Nat) (h : m ∉ S) : (A.objTo D L G S d S.length).blk i m = A.blk i m := by
 rw [objTo_wr]
 refine wrTo_off _ _ _ _ _ _ fun j hj e => h ?_
 rw [← e]
 show S.getD j 0 ∈ S
 rw [getD_in hj]
 exact List.getElem_mem hj
theorem objTo_on {A : Arr} (D L G : Nat) {S : List Nat} (d : List Nat) (hn : S.Nodup) {i k : Nat} (hi : i < A.n) (hk : k < S.length) : (A.objTo D L G S d S.length).blk i (S.getD k 0) = (Rec.shard ((stripeL D L G (chunkB D d k)).getD i [])).blk := by
 rw [objTo_wr]
 exact wrTo_on A _ _ i hi S.length k hk fun a b ha hb e => getD_inj hn ha hb e
theorem objTo_n (A : Arr) (D L G : Nat) (S d : List Nat) (k : Nat) : (A.objTo D L G S d k).n = A.n ∧ (A.objTo D L G S d k).nb = A.nb ∧ (A.objTo D L G S d k).wait = A.wait ∧ (A.objTo D L G S d k).lost = A.lost := by rw [objTo_wr]; exact wrTo_n A _ _ k
theorem objTo_bad {A : Arr} (h : ∀ i m, A.bad i m = false) (D L G : Nat) (S d : List Nat) (k i m : Nat) : (A.objTo D L G S d k).bad i m = false := by rw [objTo_wr]; exact wrTo_bad h _ _ k i m
theorem pagesTo_bad {A : Arr} (h : ∀ i m, A.bad i m = false) (D L G : Nat) (S d : List Nat) (k i m : Nat) : (A.pagesTo D L G S d k).bad i m = false := by rw [pagesTo_wr]; exact wrTo_bad h _ _ k i m
abbrev Obs := List (Ob × List Nat)
def Obs.os (xs : Obs) : List Ob := xs.map (·.1)
def Obs.names (xs : Obs) : List ByteArray := namesOf xs.os
def Held (A : Arr) (D L G : Nat) (x : Ob × List Nat) : Prop := ∀ j, j < x.1.stripes.length → ∀ i, i < A.n → A.blk i (x.1.stripes.getD j 0) = (Rec.shard ((stripeL D L G (chunkB D x.2 j)).getD i [])).blk
structure ObFit (D : Nat) (x : Ob × List Nat) : Prop where
 fit : x.1.fit
 st : x.1.stripes.length = max 1 ((x.1.size + D * 44 - 1) / (D * 44))
 len : x.2.length = x.1.size
 byt : ∀ b ∈ x.2, b < 256
structure OnDisk (A : Arr) (D L G t : Nat) (P : List Nat) (xs : Obs) : Prop where
 n : A.n = D + L + G
 wait : A.wait < 0
 lost : ∀ i, A.lost i = false
 bad : ∀ i m, A.bad i m = false
 turn : 0 < t
 root : ∀ i, i < A.n → A.blk i 0 = (Rec.root D L G t (P.getD 0 0) (packL xs.os).length).blk
 fill : ∀ i, i < A.n → A.blk i 1 = Rec.filled.blk
 pl : P.length = pgs D (packL xs.os).length
 page : ∀ k, k < P.length → ∀ i, i < A.n → A.blk i (P.getD k 0) = (Rec.shard ((stripeL D L G (pageB D P (packL xs.os) k)).getD i [])).blk
 nod : (P ++ allSt xs.os).Nodup
 inb : ∀ x ∈ P ++ allSt xs.os, 2 ≤ x ∧ x < A.nb
 fits : ∀ x ∈ xs, ObFit D x
 up : Up xs.names
 held : ∀ x ∈ xs, Held A D L G x
 room : (allSt xs.os).length + 2 * P.length + 2 ≤ A.nb
theorem OnDisk.congr {A B : Arr} {xs : Obs} (h : OnDisk A D L G t P xs) (h1 : B.n = A.n) (h2 : B.nb = A.nb) (h3 : B.wait = A.wait) (h4 : ∀ i, B.lost i = A.lost i) (h5 : ∀ i m, B.bad i m = A.bad i m) (h6 : ∀ i m, i < A.n → B.blk i m = A.blk i m) : OnDisk B D L G t P xs :=
 ⟨h1.trans h.n, by rw [h3]; exact h.wait, fun i => (h4 i).trans (h.lost i), fun i m => (h5 i m).trans (h.bad i m), h.turn, fun i hi => by rw [h1] at hi; rw [h6 i 0 hi]; exact h.root i hi, fun i hi => by rw [h1] at hi; rw [h6 i 1 hi]; exact h.fill i hi, h.pl,
  fun k hk i hi => by rw [h1] at hi; rw [h6 i _ hi]; exact h.page k hk i hi, h.nod, by rw [h2]; exact h.inb, h.fits, h.up, fun x hx j hj i hi => by rw [h1] at hi; rw [h6 i _ hi]; exact h.held x hx j hj i hi, by rw [h2]; exact h.room⟩
theorem disk_turn {A B : Arr} {xs xs' : Obs} (h : OnDisk A D L G t P xs) (h1 : B.n = A.n) (h2 : B.nb = A.nb) (h3 : B.wait = A.wait) (h4 : B.lost = A.lost) (h5 : ∀ i m, B.bad i m = false) (h6 : ∀ i, i < A.n → B.blk i 1 = A.blk i 1)
 (hg : P'.length = pgs D (packL xs'.os).length) (h9 : (P' ++ allSt xs'.os).Nodup) (h8 : ∀ x ∈ P' ++ allSt xs'.os, 2 ≤ x ∧ x < A.nb) (ha : ∀ x ∈ xs', ObFit D x) (hh : Up xs'.names) (h0 : ∀ x ∈ xs', Held B D L G x) (h7 : (allSt xs'.os).length + 2 * P'.length + 2 ≤ A.nb) (t' : Nat) (ht : 0 < t') :
 OnDisk ((B.pagesTo D L G P' (packL xs'.os) P'.length).putAt (List.range B.n) 0 (fun _ => (Rec.root D L G t' (P'.getD 0 0) (packL xs'.os).length).blk)) D L G t' P' xs' := by
 obtain ⟨hn, hf, hw, hl⟩ := pagesTo_n B D L G P' (packL xs'.os) P'.length
 have hq : P'.Nodup := (List.nodup_append.1 h9).1
 have hc : ∀ x ∈ allSt xs'.os, x ∉ P' := fun x hx hp => (List.nodup_append.1 h9).2.2 x hp x hx rfl
 have he : ∀ k, k < P'.length → P'.getD k 0 ∈ P' := fun k hk => by rw [getD_in hk]; exact List.getElem_mem hk
 have hr : (0 : Nat) ∉ P' := fun e => by have := (h8 0 (List.mem_append_left _ e)).1; omega
 have hs : (1 : Nat) ∉ P' := fun e => by have := (h8 1 (List.mem_append_left _ e)).1; omega
 refine ⟨?_, ?_, fun i => ?_, fun i m => ?_, ht, fun i hi => ?_, fun i hi => ?_, hg, fun k hk i hi => ?_, h9, ?_, ha, hh, fun x hx j hj i hi => ?_, ?_⟩
 · exact hn.trans (h1.trans h.n)
 · show (B.pagesTo D L G P' (packL xs'.os) P'.length).wait < 0
   rw [hw, h3]; exact h.wait
 · show (B.pagesTo D L G P' (packL xs'.os) P'.length).lost i = false
   rw [hl, h4]; exact h.lost i
 · exact putAt_bad (pagesTo_bad h5 _ _ _ _ _ _) _ _ _ _ _
 · replace hi : i < B.n := hn ▸ hi
   exact putAt_on _ _ _ _ _ hi
 · replace hi : i < B.n := hn ▸ hi
   rw [putAt_off _ _ _ _ _ _ (by decide), pagesTo_off _ _ _ _ _ _ _ _ hs, h6 i (h1 ▸ hi)]
   exact h.fill i (h1 ▸ hi)
 · replace hi : i < B.n := hn ▸ hi
   have hy : P'.getD k 0 ≠ 0 := fun e => hr (by rw [← e]; exact he k hk)
   rw [putAt_off _ _ _ _ _ _ hy]
   exact pagesTo_on D L G _ hq hi hk
 · show ∀ x ∈ P' ++ allSt xs'.os, 2 ≤ x ∧ x < (B.pagesTo D L G P' (packL xs'.os) P'.length).nb
   rw [hf, h2]; exact h8
 · replace hi : i < B.n := hn ▸ hi
   have hm : x.1.stripes.getD j 0 ∈ allSt xs'.os := by
    rw [getD_in hj]
    unfold allSt Obs.os
    rw [List.mem_flatMap]
    exact ⟨x.1, List.mem_map_of_mem hx, List.getElem_mem hj⟩
   rw [putAt_off _ _ _ _ _ _ (fun e => by have := (h8 _ (List.mem_append_right _ hm)).1; omega), pagesTo_off _ _ _ _ _ _ _ _ (hc _ hm)]
   exact h0 x hx j hj i hi
 · show (allSt xs'.os).length + 2 * P'.length + 2 ≤ (B.pagesTo D L G P' (packL xs'.os) P'.length).nb
   rw [hf, h2]; exact h7
end
section
open Gf
def Obs.ins (xs : Obs) (x : Ob × List Nat) : Obs := xs.take (placeN xs.names x.1.name) ++ x :: xs.drop (placeN xs.names x.1.name)
def Obs.del (xs : Obs) (k : Nat) : Obs := xs.take k ++ xs.drop (k + 1)
theorem ins_perm (xs : Obs) (x : Ob × List Nat) : (xs.ins x).Perm (x :: xs) := by
 unfold Obs.ins
 refine List.perm_middle.trans ?_
 rw [List.take_append_drop]
theorem os_ins (xs : Obs) (x : Ob × List Nat) : (xs.ins x).os = xs.os.take (placeN xs.names x.1.name) ++ x.1 :: xs.os.drop (placeN xs.names x.1.name) := by
 unfold Obs.ins Obs.os
 rw [List.map_append, List.map_cons, List.map_take, List.map_drop]
theorem names_ins (xs : Obs) (x : Ob × List Nat) : (xs.ins x).names = xs.names.take (placeN xs.names x.1.name) ++ x.1.name :: xs.names.drop (placeN xs.names x.1.name) := by
 unfold Obs.names
 rw [os_ins]
 unfold namesOf Obs.names namesOf
 rw [List.map_append, List.map_cons, List.map_take, List.map_drop]
theorem os_del (xs : Obs) (k : Nat) : (xs.del k).os = xs.os.take k ++ xs.os.drop (k + 1) := by
 unfold Obs.del Obs.os
 rw [List.map_append, List.map_take, List.map_drop]
theorem names_del (xs : Obs) (k : Nat) : (xs.del k).names = xs.names.take k ++ xs.names.drop (k + 1) := by
 unfold Obs.names
 rw [os_del]
 unfold namesOf
 rw [List.map_append, List.map_take, List.map_drop]
theorem del_sub (xs : Obs) (k : Nat) : (xs.del k).Sublist xs := by
 have h1 : (xs.take k ++ xs.drop (k + 1)).Sublist (xs.take k ++ xs.drop k) := List.Sublist.append (List.Sublist.refl _) (by rw [← List.drop_drop]; exact List.drop_sublist _ _)
 rwa [List.take_append_drop] at h1
theorem allSt_cons (o : Ob) (os : List Ob) : allSt (o :: os) = o.stripes ++ allSt os := by unfold allSt; rw [List.flatMap_cons]
theorem allSt_ins (xs : Obs) (x : Ob × List Nat) : (allSt (xs.ins x).os).Perm (x.1.stripes ++ allSt xs.os) := by
 have h := (ins_perm xs x).map (·.1)
 have := h.flatMap_right (·.stripes)
 rw [List.map_cons, List.flatMap_cons] at this
 exact this
theorem packL_ins (xs : Obs) (x : Ob × List Nat) : (packL (xs.ins x).os).length = (packL xs.os).length + (packOb x.1).length := by
 have h := ((ins_perm xs x).map (·.1)).flatMap_right packOb
 rw [List.map_cons, List.flatMap_cons] at h
 have := h.length_eq
 rw [List.length_append] at this
 unfold packL Obs.os
 omega
theorem sub_flat {α β : Type} (f : α → List β) : ∀ {l m : List α}, l.Sublist m → (l.flatMap f).Sublist (m.flatMap f)
 | _, _, .slnil => by simp
 | _, _, .cons a h => by rw [List.flatMap_cons]; exact (sub_flat f h).trans (List.sublist_append_right _ _)
 | _, _, .cons_cons a h => by rw [List.flatMap_cons, List.flatMap_cons]; exact List.Sublist.append (List.Sublist.refl _) (sub_flat f h)
theorem allSt_del (xs : Obs) (k : Nat) : (allSt (xs.del k).os).Sublist (allSt xs.os) := sub_flat _ ((del_sub xs k).map _)
theorem packL_del (xs : Obs) (k : Nat) : (packL (xs.del k).os).length ≤ (packL xs.os).length := (sub_flat packOb ((del_sub xs k).map (Prod.fst : Ob × List Nat → Ob))).length_le
theorem pgs_mono {m n : Nat} (h : m ≤ n) : pgs D m ≤ pgs D n := by
 unfold pgs
 have h1 : (m + (D * 44 - 4) - 1) / (D * 44 - 4) ≤ (n + (D * 44 - 4) - 1) / (D * 44 - 4) := Nat.div_le_div_right (by omega)
 omega
theorem disk_put {A : Arr} {xs : Obs} (h : OnDisk A D L G t P xs) (x : Ob × List Nat) (hx : ObFit D x) (h7 : x.1.name ∉ xs.names) (h8 : P'.length = pgs D (packL (xs.ins x).os).length)
 (h0 : ((x.1.stripes ++ P') ++ (P ++ allSt xs.os)).Nodup) (h5 : ∀ b ∈ (x.1.stripes ++ P') ++ (P ++ allSt xs.os), 2 ≤ b ∧ b < A.nb) (h6 : (allSt xs.os).length + x.1.stripes.length + 2 * P'.length + 2 ≤ A.nb) :
 OnDisk (((A.objTo D L G x.1.stripes x.2 x.1.stripes.length).pagesTo D L G P' (packL (xs.ins x).os) P'.length).putAt (List.range A.n) 0 (fun _ => (Rec.root D L G (t + 1) (P'.getD 0 0) (packL (xs.ins x).os).length).blk)) D L G (t + 1) P' (xs.ins x) := by
 obtain ⟨h1, h2, h3, h4⟩ := objTo_n A D L G x.1.stripes x.2 x.1.stripes.length
 rw [show List.range A.n = List.range (A.objTo D L G x.1.stripes x.2 x.1.stripes.length).n by rw [h1]]
 rw [List.nodup_append] at h0
 obtain ⟨n1, n2, n3⟩ := h0
 obtain ⟨n4, n5, n6⟩ := List.nodup_append.1 n1
 obtain ⟨n7, n8, n9⟩ := List.nodup_append.1 n2
 have hS : x.1.stripes.Nodup := n4
 have h9 : (1 : Nat) ∉ x.1.stripes := fun e => by have := (h5 1 (by simp [e])).1; omega
 refine disk_turn h h1 h2 h3 h4 (objTo_bad h.bad _ _ _ _ _ _) (fun i _ => objTo_off _ _ _ _ _ _ _ _ h9) h8 ?_ ?_ ?_ ?_ ?_ ?_ (t + 1) (by omega)
 · have hp : (P' ++ allSt (xs.ins x).os).Perm (P' ++ (x.1.stripes ++ allSt xs.os)) := (allSt_ins xs x).append_left P'
   rw [hp.nodup_iff, List.nodup_append]
   refine ⟨n5, ?_, ?_⟩
   · rw [List.nodup_append]
     exact ⟨n4, n8, fun a ha b hb => n3 a (by simp [ha]) b (by simp [hb])⟩
   · intro a ha b hb
     rcases List.mem_append.1 hb with hb | hb
     · exact fun e => n6 b hb a ha e.symm
     · exact n3 a (by simp [ha]) b (by simp [hb])
 · intro b hb
   refine h5 b ?_
   rcases List.mem_append.1 hb with hb | hb
   · simp [hb]
   · have := (allSt_ins xs x).mem_iff.1 hb
     rcases List.mem_append.1 this with q | q <;> simp [q]
 · intro y hy
   rcases List.mem_cons.1 ((ins_perm xs x).mem_iff.1 hy) with rfl | hy
   · exact hx
   · exact h.fits y hy
 · rw [names_ins]; exact up_insert h.up h7
 · intro y hy j hj i hi
   rw [h1] at hi
   rcases List.mem_cons.1 ((ins_perm xs x).mem_iff.1 hy) with rfl | hy
   · exact objTo_on D L G _ hS hi hj
   · have hm : y.1.stripes.getD j 0 ∈ allSt xs.os := by
      rw [getD_in hj]
      unfold allSt Obs.os
      rw [List.mem_flatMap]
      exact ⟨y.1, List.mem_map_of_mem hy, List.getElem_mem hj⟩
     rw [objTo_off _ _ _ _ _ _ _ _ (fun e => n3 _ (List.mem_append_left _ e) _ (List.mem_append_right _ hm) rfl)]
     exact h.held y hy j hj i hi
 · rw [(allSt_ins xs x).length_eq, List.length_append]
   omega
theorem disk_del {A : Arr} {xs : Obs} (h : OnDisk A D L G t P xs) (k : Nat) (h0 : P'.length = pgs D (packL (xs.del k).os).length)
 (h4 : (P' ++ (P ++ allSt xs.os)).Nodup) (h5 : ∀ b ∈ P' ++ (P ++ allSt xs.os), 2 ≤ b ∧ b < A.nb) :
 OnDisk ((A.pagesTo D L G P' (packL (xs.del k).os) P'.length).putAt (List.range A.n) 0 (fun _ => (Rec.root D L G (t + 1) (P'.getD 0 0) (packL (xs.del k).os).length).blk)) D L G (t + 1) P' (xs.del k) := by
 have hs := allSt_del xs k
 obtain ⟨n1, n2, n3⟩ := List.nodup_append.1 h4
 obtain ⟨n4, n5, n6⟩ := List.nodup_append.1 n2
 refine disk_turn h rfl rfl rfl rfl h.bad (fun i _ => rfl) h0 ?_ ?_ (fun x hx => h.fits x ((del_sub xs k).subset hx)) ?_ (fun x hx => h.held x ((del_sub xs k).subset hx)) ?_ (t + 1) (by omega)
 · rw [List.nodup_append]
   exact ⟨n1, n5.sublist hs, fun a ha b hb => n3 a ha b (List.mem_append_right _ (hs.subset hb))⟩
 · intro b hb
   refine h5 b ?_
   rcases List.mem_append.1 hb with hb | hb
   · simp [hb]
   · simp [hs.subset hb]
 · rw [names_del]; exact up_erase h.up k
 · have h1 := hs.length_le
   have h2 := h.room
   have h3 := pgs_mono (D := D) (packL_del xs k)
   rw [← h0, ← h.pl] at h3
   omega
end
section
open Gf
theorem st_le (q s : Nat) (hq : 1 ≤ q) : max 1 ((s + q - 1) / q) ≤ s / q + 1 := by
 have h1 : (s + q - 1) / q ≤ (s + q) / q := Nat.div_le_div_right (by omega)
 rw [Nat.add_div_right _ (by omega)] at h1
 generalize s / q = a at h1 ⊢
 generalize (s + q - 1) / q = b at h1 ⊢
 omega
def sumSt (D : Nat) (xs : Obs) : Nat := (xs.map fun x => x.2.length / (D * 44) + 1).sum
theorem used_le (hD : 1 ≤ D) : ∀ {xs : Obs}, (∀ x ∈ xs, ObFit D x) → (allSt xs.os).length ≤ sumSt D xs
 | [], _ => by simp [sumSt, allSt, Obs.os]
 | x :: xs, h => by
  have ih := used_le hD (xs := xs) (fun y hy => h y (by simp [hy]))
  have hx := h x (by simp)
  have h1 := st_le (D * 44) x.1.size (by omega)
  rw [← hx.st] at h1
  have e : allSt (Obs.os (x :: xs)) = x.1.stripes ++ allSt (Obs.os xs) := by unfold Obs.os; rw [List.map_cons, allSt_cons]
  rw [e, List.length_append]
  unfold sumSt at ih ⊢
  rw [List.map_cons, List.sum_cons, hx.len]
  omega
theorem packL_bound (hD : 1 ≤ D) : ∀ {xs : Obs}, (∀ x ∈ xs, ObFit D x) → (packL xs.os).length ≤ xs.length * (19 + 4 * (1500 / (D * 44) + 1))
 | [], _ => by simp [packL, Obs.os]
 | x :: xs, h => by
  have ih := packL_bound hD (xs := xs) (fun y hy => h y (by simp [hy]))
  have hx := h x (by simp)
  have h1 := st_le (D * 44) x.1.size (by omega)
  rw [← hx.st] at h1
  have h2 : x.1.size / (D * 44) ≤ 1500 / (D * 44) := Nat.div_le_div_right hx.fit.size
  have e : packL (Obs.os (x :: xs)) = packOb x.1 ++ packL (Obs.os xs) := by unfold Obs.os packL; rw [List.map_cons, List.flatMap_cons]
  rw [e, List.length_append, packOb_len hx.fit, List.length_cons, Nat.add_mul]
  omega
theorem full_needs (hD : 1 ≤ D) (h5 : D ≤ 6) {xs : Obs} (h : ∀ x ∈ xs, ObFit D x) {n nb count pages : Nat} (hn : n ≤ 1500) (hc : count = max 1 ((n + D * 44 - 1) / (D * 44))) (hp : pages = pgs D ((packL xs.os).length + (19 + 4 * count)))
 (h0 : nb < (allSt xs.os).length + count + 2 * pages + 2) : nb < sumSt D xs + (n / (D * 44) + 1) + 2 * ((xs.length + 1) * 200 / (D * 44) + 1) + 8 := by
 have h1 := used_le hD h
 have h2 := packL_bound hD h
 have h3 := st_le (D * 44) n (by omega)
 rw [← hc] at h3
 have h4 : n / (D * 44) ≤ 1500 / (D * 44) := Nat.div_le_div_right hn
 suffices hs : pages ≤ (xs.length + 1) * 200 / (D * 44) + 4 by omega
 obtain ⟨m, hm⟩ : ∃ m, xs.length = m := ⟨_, rfl⟩
 obtain ⟨l, hl⟩ : ∃ l, (packL xs.os).length = l := ⟨_, rfl⟩
 rw [hm, hl] at h2
 rw [hl] at hp
 rw [hm]
 clear h1 hc hm hl h0 h
 subst hp
 unfold pgs
 have : D = 1 ∨ D = 2 ∨ D = 3 ∨ D = 4 ∨ D = 5 ∨ D = 6 := by omega
 rcases this with rfl | rfl | rfl | rfl | rfl | rfl <;> omega
theorem put_blocks {A : Arr} {xs : Obs} (h : OnDisk A D L G t P xs) {count pages l : Nat} (hp : pages = pgs D ((packL xs.os).length + l)) (h0 : (allSt xs.os).length + count + 2 * pages + 2 ≤ A.nb) :
 count + pages ≤ (frees (tk A.nb (P ++ allSt xs.os)).1 A.nb).length := by
 have h1 := frees_count h.nod h.inb
 have h2 := pgs_mono (D := D) (show (packL xs.os).length ≤ (packL xs.os).length + l by omega)
 rw [← hp, ← h.pl] at h2
 rw [List.length_append] at h1
 omega
theorem del_blocks {A : Arr} {xs : Obs} (h : OnDisk A D L G t P xs) (k : Nat) : pgs D (packL (xs.del k).os).length ≤ (frees (tk A.nb (P ++ allSt xs.os)).1 A.nb).length := by
 have h1 := frees_count h.nod h.inb
 have h2 := pgs_mono (D := D) (packL_del xs k)
 rw [← h.pl] at h2
 rw [List.length_append] at h1
 have := h.room
 omega
end
end Go.Proofs.YtpaemkanfnddoaaGreatDoor
