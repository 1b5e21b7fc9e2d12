/-
  Rows of checks, written over.
-/
import Derived.Test.YtbgiechfhfeaeabDoorCkOff
import Derived.BigRegion
import Derived.BigQuiet
namespace Go.Proofs.YtbgiechfhfeaeabDoor
open Go.RowKit Go.Deep Gf

theorem ck_setCells {b t n : Nat} : ∀ (vs : List Value) (o : Nat) (w : World) (f : Nat → Value), w.rowIs b t n f → (w.setCells b o vs).rowIs b t n (fun x => if o ≤ x ∧ x < o + vs.length then vs.getD (x - o) undef else f x)
  | [], o, w, f, h => h.congr (fun i _ => by rw [if_neg (by simp)])
  | v :: vs, o, w, f, h => (ck_setCells vs (o + 1) _ _ (h.set o v)).congr (fun i _ => by
    by_cases h1 : i = o
    · subst h1
      rw [if_neg (by omega), if_pos rfl, if_pos (by simp)]
      simp
    · by_cases h2 : o + 1 ≤ i ∧ i < o + 1 + vs.length
      · rw [if_pos h2, if_pos (by simp; omega), show i - o = (i - (o + 1)) + 1 by omega]
        simp
      · rw [if_neg h2, if_neg h1, if_neg (by simp; omega)])
theorem ck_grown {b : Nat} : ∀ (vs : List Value) (o : Nat) (w w' : World), w.grownBy w' (some b) → w.grownBy (w'.setCells b o vs) (some b)
  | [], _, _, _, h => h
  | v :: vs, o, w, _, h => ck_grown vs (o + 1) w _ (grown_set h o v)
/-- row q is written over with a row -/
def putF (m : Nat → Nat → Nat) (q : Nat) (f : Nat → Nat) : Nat → Nat → Nat := fun k => if k = q then f else m k
theorem put_row {w : World} {b : Nat} {C : Ck} (h : CkAt w b C) (q : Nat) (hq : q < 8) (f : Nat → Nat) : CkAt (w.setCells b (q * 16) (rowL f)) b ⟨putF C.m q f, C.told, C.count⟩ := by
  refine (ck_setCells (rowL f) (q * 16) w (ckV C) h).congr (fun x _ => ?_)
  rw [rowL_len]
  unfold ckV
  by_cases h1 : q * 16 ≤ x ∧ x < q * 16 + 16
  · rw [if_pos h1, if_pos (by omega)]
    show (rowL f).getD (x - q * 16) undef = .int .u8 ((putF C.m q f (x / 16) (x % 16) : Nat) : Int)
    have e : x / 16 = q := by omega
    unfold putF
    rw [if_pos e, List.getD_eq_getElem?_getD, rowL_at _ _ (by omega), show x - q * 16 = x % 16 by omega]
    rfl
  · rw [if_neg h1]
    by_cases h2 : x < 128
    · rw [if_pos h2, if_pos h2]
      show _ = Value.int .u8 ((putF C.m q f (x / 16) (x % 16) : Nat) : Int)
      unfold putF
      rw [if_neg (by omega)]
    · rw [if_neg h2, if_neg h2]
theorem rowL_one (f : Nat → Nat) : (rowL f).toArray.all (fun v => v.oneCell') = true := by
  rw [Array.all_eq_true]
  intro i hi
  have hi' : i < 16 := by simpa [rowL_len] using hi
  have := rowL_at f i hi'
  have e : (rowL f).toArray[i]? = some (.int .u8 ((f i : Nat) : Int)) := by simpa using this
  rw [Array.getElem?_eq_getElem hi] at e
  simp only [Option.some.injEq] at e
  rw [e]; rfl
theorem ck_there {w : World} {b : Nat} {C : Ck} (h : CkAt w b C) (q : Nat) (hq : q < 8) : w.there b (q * 16) 16 := fun j hj => ⟨by rw [h.at q j hq hj]; rfl, h.frozen _⟩
theorem ck_load {w : World} {b : Nat} {C : Ck} (h : CkAt w b C) (q : Nat) (hq : q < 8) : (Instr.loadAt 66 (.pointer (some ⟨b, q * 16, none⟩))).run Tryd.prog w = .ok (.agg (rowL (C.m q)).toArray) w :=
  run_loadAt_mid w b (q * 16) 66 (rowL (C.m q)) _ (rowL_range h q hq) Tryd.underlying66 rfl (Tryd.sizeArr16 _)
theorem ck_store {w : World} {b : Nat} {C : Ck} (h : CkAt w b C) (q : Nat) (hq : q < 8) (f : Nat → Nat) : (Instr.storeAt 66 (.pointer (some ⟨b, q * 16, none⟩)) (.agg (rowL f).toArray)).run Tryd.prog w = .ok () (w.setCells b (q * 16) (rowL f)) := by
  have := run_storeAt_mid (P := Tryd.prog) w b (q * 16) 66 (rowL f).toArray (by simpa [rowL_len] using ck_there h q hq) (by simpa using Tryd.sizeArr16 f) (rowL_one f)
  simpa using this
theorem count_set {w : World} {b : Nat} {C : Ck} (h : CkAt w b C) (n : Nat) : CkAt (w.setCell ⟨b, 129, none⟩ (.int .i64 (n : Int))) b ⟨C.m, C.told, n⟩ :=
  (h.set 129 (.int .i64 (n : Int))).congr (fun x hx => by
    unfold ckV
    by_cases e : x = 129
    · subst e; rw [if_pos rfl, if_neg (by decide), if_neg (by decide)]
    · rw [if_neg e]
      by_cases h2 : x < 128
      · rw [if_pos h2, if_pos h2]
      · rw [if_neg h2, if_neg h2]
        by_cases h3 : x = 128
        · rw [if_pos h3, if_pos h3]
        · omega)
theorem told_set {w : World} {b : Nat} {C : Ck} (h : CkAt w b C) (n : Nat) : CkAt (w.setCell ⟨b, 128, none⟩ (.int .i64 (n : Int))) b ⟨C.m, n, C.count⟩ :=
  (h.set 128 (.int .i64 (n : Int))).congr (fun x hx => by
    unfold ckV
    by_cases e : x = 128
    · subst e; rw [if_pos rfl, if_neg (by decide), if_pos rfl]
    · rw [if_neg e]
      by_cases h2 : x < 128
      · rw [if_pos h2, if_pos h2]
      · rw [if_neg h2, if_neg h2, if_neg e, if_neg e])
end Go.Proofs.YtbgiechfhfeaeabDoor
