import Derived.Test.YtpaemkanfnddoaaGreatDoorTie
import Derived.Test.YtpaemkanfnddoaaGreatDoorCards
import Derived.Test.YtpaemkanfnddoaaGreatDoorM48
import Derived.SevenTiedAt
set_option maxRecDepth 100000
set_option maxHeartbeats 8000000
namespace Go.Proofs.YtpaemkanfnddoaaGreatDoor.maps
open Go.ChangeShapes Go.WideShapes Go.RowKit Go.Joins
section
section
variable {H : Type} {enc : TypeId × Value → H} {P : Program} {w : World} {base : Nat} {spare : Nat → Bool} {held : Bool} {t0 t1 t2 t3 t4 t5 : TypeId}
theorem six {args : Array Value} {ds : List (DataW H)} {ps : List MemPlace} (h : DataW.TrodAll enc P w base spare held [t0, t1, t2, t3, t4, t5] args.toList ds ps) :
 ∃ v0 v1 v2 v3 v4 v5 d0 d1 d2 d3 d4 d5 p0 p1 p2 p3 p4 p5, args = #[v0, v1, v2, v3, v4, v5] ∧ ds = [d0, d1, d2, d3, d4, d5] ∧ ps = p0 ++ p1 ++ p2 ++ p3 ++ p4 ++ p5 ∧ DataW.Trod enc P w base spare held t0 v0 d0 p0 ∧ DataW.Trod enc P w base spare held t1 v1 d1 p1 ∧ DataW.Trod enc P w base spare held t2 v2 d2 p2 ∧ DataW.Trod enc P w base spare held t3 v3 d3 p3 ∧ DataW.Trod enc P w base spare held t4 v4 d4 p4 ∧ DataW.Trod enc P w base spare held t5 v5 d5 p5 := by
 obtain ⟨v, vs, d, ds', p, q, h7, rfl, rfl, hd, h5⟩ := trodAll_cons h
 obtain ⟨v', vs', d', ds'', p', q', rfl, rfl, rfl, h8, h1⟩ := trodAll_cons h5
 obtain ⟨v'', vs'', d'', ds''', p'', q'', rfl, rfl, rfl, h6, h0⟩ := trodAll_cons h1
 obtain ⟨v3, vs3, d3, ds3, p3, q3, rfl, rfl, rfl, h9, h2⟩ := trodAll_cons h0
 obtain ⟨v4, vs4, d4, ds4, p4, q4, rfl, rfl, rfl, ha, h3⟩ := trodAll_cons h2
 obtain ⟨v5, vs5, d5, ds5, p5, q5, rfl, rfl, rfl, hc, h4⟩ := trodAll_cons h3
 obtain ⟨rfl, rfl, rfl⟩ := trodAll_nil h4
 exact ⟨v, v', v'', v3, v4, v5, d, d', d'', d3, d4, d5, p, p', p'', p3, p4, p5, by cases args; simp_all, rfl, by simp, hd, h8, h6, h9, ha, hc⟩
theorem mk6 {v0 v1 v2 v3 v4 v5 : Value} {d0 d1 d2 d3 d4 d5 : DataW H} {p0 p1 p2 p3 p4 p5 : List MemPlace} (h0 : DataW.Trod enc P w base spare held t0 v0 d0 p0) (h1 : DataW.Trod enc P w base spare held t1 v1 d1 p1) (h2 : DataW.Trod enc P w base spare held t2 v2 d2 p2) (h3 : DataW.Trod enc P w base spare held t3 v3 d3 p3) (h4 : DataW.Trod enc P w base spare held t4 v4 d4 p4) (h5 : DataW.Trod enc P w base spare held t5 v5 d5 p5) :
 DataW.TrodAll enc P w base spare held [t0, t1, t2, t3, t4, t5] [v0, v1, v2, v3, v4, v5] [d0, d1, d2, d3, d4, d5] (p0 ++ (p1 ++ (p2 ++ (p3 ++ (p4 ++ p5))))) := ⟨p0, p1 ++ (p2 ++ (p3 ++ (p4 ++ p5))), h0, trodAll_mk5 h1 h2 h3 h4 h5, rfl⟩
end
theorem lifted (os : Os) (started : os.Started) (H : Type) (enc : TypeId × Value → H) :
 ReturnsInHanded {} Tryz.checked os 3 .any (fun w args => (Rows.mapsSpec.pre enc Tryz.prog Tryz.f3 [] false w args ∧ laidMetH Tryz.prog laids3 w) ∧ sizedMet enc Tryz.prog Tryz.f3 (OpenSpec.ofChange Rows.mapsSpec) false w args)
  (Rows.mapsSpec.post enc Tryz.prog Tryz.f3 false true false false) := by
 refine returnsInHanded_of_change_and (C := Tryz.checked) (X := fun w _ => laidMetH Tryz.prog laids3 w) (fun _ _ _ hh h => h.of_heap hh) Tryz.own started (by kernel_rfl) Tryz.func3
  (ChangeSpec.witness_at (enc := enc) (C := Tryz.checked) (os := os) (X := fun w _ => laidMetH Tryz.prog laids3 w) false (laidWorld3 os) #[.slice none 0 0, .int .i64 0, .int .i64 0, .int .i64 0, .int .i64 0, .int .i64 0] 8 rfl (by kernel_rfl) (by kernel_rfl) (by kernel_rfl) (by kernel_rfl) (by kernel_rfl) (laidWorld3_met os _)) ?_
 intro W base args ds gs before h7 hW _ h8 hL _
 have h6 : ∀ (j : Nat) t v, Tryz.f3.params[j]? = some t → args[j]? = some v → Value.okWide Tryz.prog W .any base t v := h7
 have h9 := hW
 obtain ⟨p, q, hf, hi, rfl, hq, hr⟩ := hW
 have hA : DataW.TrodAll enc Tryz.prog W 0 (fun _ => true) true Tryz.f3.params.toList args.toList ds p := hf
 have hV : DataW.TrodVars enc Tryz.prog W (fun _ => true) [] gs q := hi
 have hc : (DataW.weightsEach Tryz.prog (Tryz.f3.params.toList ++ Rows.mapsSpec.plain.varTypes Tryz.prog) (ds ++ gs)).all (fun n => decide (n ≤ reachBytes)) = true := h8
 rw [Tryz.params3] at hA h6 hc
 obtain ⟨v0, v1, v2, v3, v4, v5, d0, d1, d2, d3, d4, d5, p0, p1, p2, p3, p4, p5, rfl, rfl, rfl, h0, h1, h2, h3, h4, h5⟩ := six hA
 obtain ⟨rfl, rfl⟩ : gs = [] ∧ q = [] := by
  cases gs with
  | nil => exact ⟨rfl, hV⟩
  | cons g r => exact absurd hV (by intro h; cases h)
 obtain ⟨ao, len, cap, rfl⟩ := okWide_slice Tryz.underlying22 (h6 0 22 v0 rfl rfl)
 obtain ⟨l, hl, hj⟩ := script_of_trod h0 (fun n hn => by simpa using List.all_eq_true.1 hc n (DataW.weights_mem_each (j := 0) (t := 22) rfl rfl n hn))
 obtain ⟨x1, rfl, rfl, rfl, wx1⟩ := open_int Tryz.underlying3 (h6 1 3 v1 rfl rfl) h1
 obtain ⟨x2, rfl, rfl, rfl, wx2⟩ := open_int Tryz.underlying3 (h6 2 3 v2 rfl rfl) h2
 obtain ⟨x3, rfl, rfl, rfl, wx3⟩ := open_int Tryz.underlying3 (h6 3 3 v3 rfl rfl) h3
 obtain ⟨x4, rfl, rfl, rfl, wx4⟩ := open_int Tryz.underlying3 (h6 4 3 v4 rfl rfl) h4
 obtain ⟨x5, rfl, rfl, rfl, wx5⟩ := open_int Tryz.underlying3 (h6 5 3 v5 rfl rfl) h5
 obtain ⟨hg, ha, hm, hk⟩ := all_of_laid hL
 simp only [List.append_nil] at h9
 have hp := fun x hx => h9.lt x hx
 refine (maps_any hl hj x1 x2 x3 x4 x5 hg hm ha hk).mono fun e W' ⟨he, hw⟩ => ?_
 subst he
 refine ⟨_, rfl, _, _, _, [], _, [], h9, ?_, mk6 (Below.trod Tryz.laidOutM (by kernel_rfl) (of_decide_eq_true (by kernel_rfl)) h0 hw (fun x hx => hp x (by simpa using hx))) (shut_int Tryz.underlying3 wx1) (shut_int Tryz.underlying3 wx2) (shut_int Tryz.underlying3 wx3) (shut_int Tryz.underlying3 wx4) (shut_int Tryz.underlying3 wx5), ?_, hw.frame _, fun h => by cases h⟩
 · exact trodAll_mk1 (shut_bool Tryz.underlying4 true)
 · rfl
theorem row_holds : Rows.MapsSaid :=
 OpenClaim.holds_of_wide 3 Tryz.f3 rfl rfl rfl rfl rfl rfl rfl ⟨rfl, rfl, rfl, rfl, rfl⟩ rfl rfl rfl rfl rfl (by kernel_rfl) Tryz.func3 (by kernel_rfl)
  (of_decide_eq_true (by kernel_rfl)) (by unfold Func.isWrapper; rw [if_neg (of_decide_eq_false (by kernel_rfl))]; exact ⟨rfl, rfl⟩)
  (fun os started H enc _ => lifted os started H enc)
theorem proved : Rows.MapsCardSaid :=
 Claim7.holds_tied_plain_at .later [] [.data, .handle, .data] true (true, "e7cd0743dd5ff15dbca3e2af44c580945dd927538a119b941d39fb2f202b6b77") true
  row_holds (fun _ h => by cases h) (by kernel_rfl) (fun _ h => by cases h) maps_row_tie rfl ⟨rfl, rfl⟩ (by kernel_rfl) rfl
  (fun f fn hf h0 => by
   obtain rfl : f = 3 := Option.some.inj ((show Tryz.prog.funcNamed "stripes/stripeslaw.Maps" = some 3 by kernel_rfl).symm.trans hf) |>.symm
   obtain rfl : fn = Tryz.f3 := (Option.some.inj (Tryz.func3.symm.trans h0)).symm
   exact ⟨by kernel_rfl, fun j t ht => by
    rw [Tryz.params3] at ht
    have h3 : t = 22 ∨ t = 3 := by
     rcases j with _ | _ | _ | _ | _ | _ | j
     · exact .inl (by simpa using ht.symm)
     · exact .inr (by simpa using ht.symm)
     · exact .inr (by simpa using ht.symm)
     · exact .inr (by simpa using ht.symm)
     · exact .inr (by simpa using ht.symm)
     · exact .inr (by simpa using ht.symm)
     · simp at ht
    rcases h3 with rfl | rfl
    · exact (show Tryz.prog.wantsStandIn 22 = false by kernel_rfl)
    · exact (show Tryz.prog.wantsStandIn 3 = false by kernel_rfl)⟩)
  (by kernel_rfl)
#print axioms proved
end
end Go.Proofs.YtpaemkanfnddoaaGreatDoor.maps
