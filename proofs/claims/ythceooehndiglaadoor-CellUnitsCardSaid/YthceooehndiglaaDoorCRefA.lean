/-
  Contracts of the document's own functions of one rune: Zero, Wide, Control, Width, Show; Tab.
-/
import Derived.Test.YthceooehndiglaaDoorCLeaf
namespace Go.Proofs.YthceooehndiglaaDoor.U
open Go.RowKit
set_option linter.unusedVariables false
set_option linter.unusedSimpArgs false

theorem zero_any (r : Int) (w : World) :
    Calls Tryd.prog 27 #[.int .i32 r] w fun e w' => e = .returned (.bool (zeroB r)) ∧ w = w' := by
  go_enter Tryd.func27, Tryd.ntmps27
  go_wp2
  all_goals go_ret
  all_goals exact ⟨ret_bool (by unfold zeroB; rw [Bool.eq_iff_iff]; simp; omega), rfl⟩
theorem zero_is (r : Int) (b : Bool) (w : World) (h : Hid (zeroB r = b)) :
    Calls Tryd.prog 27 #[.int .i32 r] w fun e w' => e = .returned (.bool b) ∧ w = w' := by
  have := h.out; subst this; exact zero_any r w
set_option maxHeartbeats 4000000 in
theorem wide_any (r : Int) (w : World) :
    Calls Tryd.prog 28 #[.int .i32 r] w fun e w' => e = .returned (.bool (wideB r)) ∧ w = w' := by
  go_enter Tryd.func28, Tryd.ntmps28
  go_wp2
  all_goals go_ret
  all_goals exact ⟨ret_bool (by unfold wideB; rw [Bool.eq_iff_iff]; simp; omega), rfl⟩
theorem wide_is (r : Int) (b : Bool) (w : World) (h : Hid (wideB r = b)) :
    Calls Tryd.prog 28 #[.int .i32 r] w fun e w' => e = .returned (.bool b) ∧ w = w' := by
  have := h.out; subst this; exact wide_any r w
theorem rcontrol_any (r : Int) (w : World) :
    Calls Tryd.prog 29 #[.int .i32 r] w fun e w' => e = .returned (.bool (ctlB r)) ∧ w = w' := by
  go_enter Tryd.func29, Tryd.ntmps29
  go_wp2
  all_goals go_ret
  all_goals exact ⟨ret_bool (by unfold ctlB; rw [Bool.eq_iff_iff]; simp; omega), rfl⟩
theorem rcontrol_is (r : Int) (b : Bool) (w : World) (h : Hid (ctlB r = b)) :
    Calls Tryd.prog 29 #[.int .i32 r] w fun e w' => e = .returned (.bool b) ∧ w = w' := by
  have := h.out; subst this; exact rcontrol_any r w

theorem rwidth_any (r : Int) (w : World) :
    Calls Tryd.prog 11 #[.int .i32 r] w fun e w' => e = .returned (.int .i64 (widthM r)) ∧ w = w' := by
  have hm : (widthM r : Int) = if zeroB r = true then 0 else if wideB r = true then 2 else if ctlB r = true then 2 else 1 := by
    unfold widthM
    by_cases h1 : zeroB r = true <;> by_cases h2 : wideB r = true <;> by_cases h3 : ctlB r = true <;> simp [h1, h2, h3]
  rw [hm]; clear hm
  by_cases h1 : zeroB r = true
  · rw [if_pos h1]
    have H1 := Lib.hid h1; clear h1
    go_enter Tryd.func11, Tryd.ntmps11
    go_wp2_with (go_at_call 27; refine (zero_is r true _ H1).mono ?_; rintro e w' ⟨rfl, rfl⟩)
    go_ret
    exact ⟨rfl, rfl⟩
  rw [if_neg h1]
  have H1 := Lib.hid (show zeroB r = false by simpa using h1); clear h1
  by_cases h2 : wideB r = true
  · rw [if_pos h2]
    have H2 := Lib.hid h2; clear h2
    go_enter Tryd.func11, Tryd.ntmps11
    go_wp2_with (first
      | (go_at_call 27; refine (zero_is r false _ H1).mono ?_; rintro e w' ⟨rfl, rfl⟩)
      | (go_at_call 28; refine (wide_is r true _ H2).mono ?_; rintro e w' ⟨rfl, rfl⟩))
    go_ret
    exact ⟨rfl, rfl⟩
  rw [if_neg h2]
  have H2 := Lib.hid (show wideB r = false by simpa using h2); clear h2
  by_cases h3 : ctlB r = true
  · rw [if_pos h3]
    have H3 := Lib.hid h3; clear h3
    go_enter Tryd.func11, Tryd.ntmps11
    go_wp2_with (first
      | (go_at_call 27; refine (zero_is r false _ H1).mono ?_; rintro e w' ⟨rfl, rfl⟩)
      | (go_at_call 28; refine (wide_is r false _ H2).mono ?_; rintro e w' ⟨rfl, rfl⟩)
      | (go_at_call 29; refine (rcontrol_is r true _ H3).mono ?_; rintro e w' ⟨rfl, rfl⟩))
    go_ret
    exact ⟨rfl, rfl⟩
  · rw [if_neg h3]
    have H3 := Lib.hid (show ctlB r = false by simpa using h3); clear h3
    go_enter Tryd.func11, Tryd.ntmps11
    go_wp2_with (first
      | (go_at_call 27; refine (zero_is r false _ H1).mono ?_; rintro e w' ⟨rfl, rfl⟩)
      | (go_at_call 28; refine (wide_is r false _ H2).mono ?_; rintro e w' ⟨rfl, rfl⟩)
      | (go_at_call 29; refine (rcontrol_is r false _ H3).mono ?_; rintro e w' ⟨rfl, rfl⟩))
    go_ret
    exact ⟨rfl, rfl⟩

theorem rshow_any (r : Int) (w : World) :
    Calls Tryd.prog 14 #[.int .i32 r] w fun e w' => ∃ cs : List Value, e = .returned (.slice (some ⟨w.heap.size, 0, none⟩) cs.length cs.length) ∧ w' = w.alloc (.cells cs.toArray 21) ∧ cs = (showM r).map (Value.int .i32) := by
  by_cases hc : ctlB r = true
  · have hs : showM r = [94, if 64 ≤ r then r - 64 else r + 64] := by unfold showM; rw [if_pos hc]
    have hb : 0 ≤ r ∧ r ≤ 127 := by unfold ctlB at hc; simp only [decide_eq_true_eq] at hc; omega
    obtain ⟨b1, b2⟩ := hb
    have HC := Lib.hid hc; clear hc
    by_cases h4 : 64 ≤ r
    · rw [if_pos h4] at hs
      have HS := Lib.hid hs; clear hs
      go_enter Tryd.func14, Tryd.ntmps14
      go_wp2_with (go_at_call 29; refine (rcontrol_is r true _ HC).mono ?_; rintro e w' ⟨rfl, rfl⟩)
      go_ret
      exact ⟨[.int .i32 94, .int .i32 (r - 64)], rfl, rfl, by rw [HS.out]; rfl⟩
    · rw [if_neg h4] at hs
      have HS := Lib.hid hs; clear hs
      go_enter Tryd.func14, Tryd.ntmps14
      go_wp2_with (go_at_call 29; refine (rcontrol_is r true _ HC).mono ?_; rintro e w' ⟨rfl, rfl⟩)
      go_ret
      exact ⟨[.int .i32 94, .int .i32 (r + 64)], rfl, rfl, by rw [HS.out]; rfl⟩
  · have HC := Lib.hid (show ctlB r = false by simpa using hc); clear hc
    have go : ∀ (v : Bool) (xs : List Int), Hid (validB r = v) → Hid (showM r = xs) → Hid (xs = if (128 ≤ r ∧ r ≤ 159) ∨ v = false then [65533] else [r]) →
        Calls Tryd.prog 14 #[.int .i32 r] w fun e w' => ∃ cs : List Value, e = .returned (.slice (some ⟨w.heap.size, 0, none⟩) cs.length cs.length) ∧ w' = w.alloc (.cells cs.toArray 21) ∧ cs = (showM r).map (Value.int .i32) := by
      intro v xs HV HS HX
      cases v
      · have HX' : Hid (xs = [65533]) := by rw [show (xs = _) from HX.out]; show _ = _; simp
        clear HX
        by_cases h1 : 128 ≤ r
        · by_cases h2 : r ≤ 159
          · go_enter Tryd.func14, Tryd.ntmps14
            go_wp2_with (first
              | (go_at_call 29; refine (rcontrol_is r false _ HC).mono ?_; rintro e w' ⟨rfl, rfl⟩)
              | (go_at_call 25; refine (refValid_is r false _ HV).mono ?_; rintro e w' ⟨rfl, rfl⟩))
            go_ret
            exact ⟨[.int .i32 65533], rfl, rfl, by rw [HS.out, HX'.out]; rfl⟩
          · go_enter Tryd.func14, Tryd.ntmps14
            go_wp2_with (first
              | (go_at_call 29; refine (rcontrol_is r false _ HC).mono ?_; rintro e w' ⟨rfl, rfl⟩)
              | (go_at_call 25; refine (refValid_is r false _ HV).mono ?_; rintro e w' ⟨rfl, rfl⟩))
            go_ret
            exact ⟨[.int .i32 65533], rfl, rfl, by rw [HS.out, HX'.out]; rfl⟩
        · go_enter Tryd.func14, Tryd.ntmps14
          go_wp2_with (first
            | (go_at_call 29; refine (rcontrol_is r false _ HC).mono ?_; rintro e w' ⟨rfl, rfl⟩)
            | (go_at_call 25; refine (refValid_is r false _ HV).mono ?_; rintro e w' ⟨rfl, rfl⟩))
          go_ret
          exact ⟨[.int .i32 65533], rfl, rfl, by rw [HS.out, HX'.out]; rfl⟩
      · by_cases h1 : 128 ≤ r
        · by_cases h2 : r ≤ 159
          · have HX' : Hid (xs = [65533]) := by rw [show (xs = _) from HX.out]; show _ = _; rw [if_pos (.inl ⟨h1, h2⟩)]
            clear HX
            go_enter Tryd.func14, Tryd.ntmps14
            go_wp2_with (go_at_call 29; refine (rcontrol_is r false _ HC).mono ?_; rintro e w' ⟨rfl, rfl⟩)
            go_ret
            exact ⟨[.int .i32 65533], rfl, rfl, by rw [HS.out, HX'.out]; rfl⟩
          · have HX' : Hid (xs = [r]) := by rw [show (xs = _) from HX.out]; show _ = _; rw [if_neg (by simp; omega)]
            clear HX
            go_enter Tryd.func14, Tryd.ntmps14
            go_wp2_with (first
              | (go_at_call 29; refine (rcontrol_is r false _ HC).mono ?_; rintro e w' ⟨rfl, rfl⟩)
              | (go_at_call 25; refine (refValid_is r true _ HV).mono ?_; rintro e w' ⟨rfl, rfl⟩))
            go_ret
            exact ⟨[.int .i32 r], rfl, rfl, by rw [HS.out, HX'.out]; rfl⟩
        · have HX' : Hid (xs = [r]) := by rw [show (xs = _) from HX.out]; show _ = _; rw [if_neg (by simp; omega)]
          clear HX
          go_enter Tryd.func14, Tryd.ntmps14
          go_wp2_with (first
            | (go_at_call 29; refine (rcontrol_is r false _ HC).mono ?_; rintro e w' ⟨rfl, rfl⟩)
            | (go_at_call 25; refine (refValid_is r true _ HV).mono ?_; rintro e w' ⟨rfl, rfl⟩))
          go_ret
          exact ⟨[.int .i32 r], rfl, rfl, by rw [HS.out, HX'.out]; rfl⟩
    refine go (validB r) (showM r) rfl rfl ?_
    show showM r = _
    unfold showM
    rw [HC.out, if_neg (by simp)]
    by_cases h : (128 ≤ r ∧ r ≤ 159) ∨ validB r = false
    · rw [if_pos h, if_pos (by simpa using h)]
    · rw [if_neg h, if_neg (by simpa using h)]

end Go.Proofs.YthceooehndiglaaDoor.U
