/-
  Contracts of the functions of one rune: cell's Width, Show, control; utf.Valid; the document's Zero, Wide, Control, Width, Show, Valid; Tab.
-/
import Derived.Test.YthceooehndiglaaDoorRows
import Derived.Test.YthceooehndiglaaDoorCPure
import Derived.Test.YthceooehndiglaaDoorUBase
namespace Go.Proofs.YthceooehndiglaaDoor.U
open Go.RowKit
set_option linter.unusedVariables false
set_option linter.unusedSimpArgs false

/-- the table of ranges lies in its variable -/
def Gl (w : World) : Prop := ∀ i, i < 16 → w.cell? ⟨0, i * 3, none⟩ = some (.int .i32 (tabF.getD i 0)) ∧ w.cell? ⟨0, i * 3 + 1, none⟩ = some (.int .i32 (tabL.getD i 0)) ∧ w.cell? ⟨0, i * 3 + 2, none⟩ = some (.int .i64 (tabW.getD i 0))
theorem Gl.lt {w : World} (h : Gl w) : 0 < w.heap.size := block_lt_of_cell (h 0 (by omega)).1
theorem Gl.below {w w' : World} (h : Gl w) {n : Nat} (hn : 0 < n) (hb : Below n w w') : Gl w' := fun i hi => by
  obtain ⟨h1, h2, h3⟩ := h i hi
  exact ⟨(hb.cell (p := ⟨0, i * 3, none⟩) hn).trans h1, (hb.cell (p := ⟨0, i * 3 + 1, none⟩) hn).trans h2, (hb.cell (p := ⟨0, i * 3 + 2, none⟩) hn).trans h3⟩

theorem control_any (r : Int) (w : World) :
    Calls Tryd.prog 26 #[.int .i32 r] w fun e w' => e = .returned (.bool (ctlB r)) ∧ w = w' := by
  go_enter Tryd.func26, Tryd.ntmps26
  go_wp2
  all_goals go_ret
  all_goals exact ⟨ret_bool (by unfold ctlB; rw [Bool.eq_iff_iff]; simp; omega), rfl⟩
theorem control_is (r : Int) (b : Bool) (w : World) (h : Hid (ctlB r = b)) :
    Calls Tryd.prog 26 #[.int .i32 r] w fun e w' => e = .returned (.bool b) ∧ w = w' := by
  have := h.out; subst this; exact control_any r w

theorem valid_any (r : Int) (w : World) :
    Calls Tryd.prog 30 #[.int .i32 r] w fun e w' => e = .returned (.bool (validB r)) ∧ w = w' := by
  go_enter Tryd.func30, Tryd.ntmps30
  go_wp2
  all_goals go_ret
  all_goals exact ⟨ret_bool (by unfold validB; rw [Bool.eq_iff_iff]; simp; omega), rfl⟩
theorem valid_is (r : Int) (b : Bool) (w : World) (h : Hid (validB r = b)) :
    Calls Tryd.prog 30 #[.int .i32 r] w fun e w' => e = .returned (.bool b) ∧ w = w' := by
  have := h.out; subst this; exact valid_any r w
theorem refValid_any (r : Int) (w : World) :
    Calls Tryd.prog 25 #[.int .i32 r] w fun e w' => e = .returned (.bool (validB r)) ∧ w = w' := by
  go_enter Tryd.func25, Tryd.ntmps25
  go_wp2
  all_goals go_ret
  all_goals exact ⟨ret_bool (by unfold validB; rw [Bool.eq_iff_iff]; simp; omega), rfl⟩
theorem refValid_is (r : Int) (b : Bool) (w : World) (h : Hid (validB r = b)) :
    Calls Tryd.prog 25 #[.int .i32 r] w fun e w' => e = .returned (.bool b) ∧ w = w' := by
  have := h.out; subst this; exact refValid_any r w

theorem width_any (r : Int) (w : World) (hg : Gl w) :
    Calls Tryd.prog 10 #[.int .i32 r] w fun e w' => e = .returned (.int .i64 (widthM r)) ∧ w = w' := by
  by_cases hc : ctlB r = true
  · rw [width_ctl hc]
    have HC := Lib.hid hc; clear hc
    go_enter Tryd.func10, Tryd.ntmps10
    go_wp2_with (go_at_call 26; refine (control_is r true _ HC).mono ?_; rintro e w' ⟨rfl, rfl⟩)
    go_ret
    exact ⟨rfl, rfl⟩
  · have HC := Lib.hid (show ctlB r = false by simpa using hc); clear hc
    have HG := Lib.hid hg; clear hg
    go_enter Tryd.func10, Tryd.ntmps10
    go_wp2_with (go_at_call 26; refine (control_is r false _ HC).mono ?_; rintro e w' ⟨rfl, rfl⟩)
    go_loop [3, 6] (fun i3 i => ∃ k : Nat, k ≤ 16 ∧ i = .int .i64 k ∧ Hid (above r k)) (fun _ i => 16 - (intOf i).toNat)
    case atStart => exact ⟨0, by omega, rfl, above_0 r⟩
    case round =>
      obtain ⟨k, hk, rfl, ha⟩ := hrel
      by_cases hlt : k < 16
      · obtain ⟨c1, c2, c3⟩ := HG.out k hlt
        have hgap := Lib.hid (fun h => width_gap HC.out hlt ha.out h)
        have hhit := Lib.hid (fun h1 h2 => width_hit HC.out hlt h1 h2)
        have hnext := Lib.hid (fun h => above_succ (r := r) (i := k) h)
        obtain ⟨f, hf⟩ : ∃ f, tabF.getD k 0 = f := ⟨_, rfl⟩
        obtain ⟨l, hl⟩ : ∃ l, tabL.getD k 0 = l := ⟨_, rfl⟩
        obtain ⟨v, hv⟩ : ∃ v, tabW.getD k 0 = v := ⟨_, rfl⟩
        rw [hf] at c1 hgap hhit
        rw [hl] at c2 hhit hnext
        rw [hv] at c3 hhit
        clear hf hl hv HG HC
        by_cases h1 : r < f
        · go_wp2
          go_ret
          exact ⟨ret_int (by rw [hgap.out h1]; rfl), rfl⟩
        · by_cases h2 : r ≤ l
          · go_wp2
            go_ret
            exact ⟨ret_int (by rw [hhit.out (by omega) h2]), rfl⟩
          · have h2' : l < r := by omega
            go_wp2
            go_round
            case rel => exact ⟨k + 1, by omega, by go_num, hnext.out h2'⟩
            case measure => simp [intOf]; omega
      · obtain rfl : k = 16 := by omega
        go_wp2
        go_ret
        exact ⟨ret_int (by rw [width_end HC.out ha.out]; rfl), rfl⟩

theorem xor_ctl {r : Int} (h : ctlB r = true) : bits .xor .i32 r 64 = if 64 ≤ r then r - 64 else r + 64 := by
  unfold ctlB at h
  simp only [decide_eq_true_eq] at h
  have : ∀ k : Fin 32, bits .xor .i32 (k.val : Int) 64 = if 64 ≤ (k.val : Int) then (k.val : Int) - 64 else (k.val : Int) + 64 := by decide
  rcases h with h | rfl
  · have e := this ⟨r.toNat, by omega⟩
    simp only at e
    rw [show ((r.toNat : Nat) : Int) = r from by omega] at e
    exact e
  · decide

/-- what is shown of a rune lies in a row of its own -/
theorem show_any (r : Int) (w : World) :
    Calls Tryd.prog 13 #[.int .i32 r] w fun e w' => ∃ cs : List Value, e = .returned (.slice (some ⟨w.heap.size, 0, none⟩) cs.length cs.length) ∧ w' = w.alloc (.cells cs.toArray 21) ∧ cs = (showM r).map (Value.int .i32) := by
  by_cases hc : ctlB r = true
  · have hs : showM r = [94, if 64 ≤ r then r - 64 else r + 64] := by unfold showM; rw [if_pos hc]
    have hx := xor_ctl hc
    rw [← hx] at hs
    have HS := Lib.hid hs
    have HC := Lib.hid hc; clear hc hx hs
    go_enter Tryd.func13, Tryd.ntmps13
    go_wp2_with (go_at_call 26; refine (control_is r true _ HC).mono ?_; rintro e w' ⟨rfl, rfl⟩)
    go_ret
    exact ⟨[.int .i32 94, .int .i32 (bits .xor .i32 r 64)], rfl, rfl, by rw [HS.out]; rfl⟩
  · have HC := Lib.hid (show ctlB r = false by simpa using hc); clear hc
    by_cases hm : (128 ≤ r ∧ r ≤ 159) ∨ validB r = false
    · have hs : showM r = [65533] := by
        unfold showM
        rw [HC.out, if_neg (by simp), if_pos (by simpa using hm)]
      have HS := Lib.hid hs; clear hs
      by_cases h1 : 128 ≤ r ∧ r ≤ 159
      · obtain ⟨h1, h2⟩ := h1
        clear hm
        go_enter Tryd.func13, Tryd.ntmps13
        go_wp2_with (go_at_call 26; refine (control_is r false _ HC).mono ?_; rintro e w' ⟨rfl, rfl⟩)
        go_ret
        exact ⟨[.int .i32 65533], rfl, rfl, by rw [HS.out]; rfl⟩
      · have HV := Lib.hid (show validB r = false by rcases hm with h | h; exact absurd h h1; exact h)
        clear hm
        by_cases h2 : 128 ≤ r
        · have h3 : ¬ r ≤ 159 := by omega
          clear h1
          go_enter Tryd.func13, Tryd.ntmps13
          go_wp2_with (first
            | (go_at_call 26; refine (control_is r false _ HC).mono ?_; rintro e w' ⟨rfl, rfl⟩)
            | (go_at_call 30; refine (valid_is r false _ HV).mono ?_; rintro e w' ⟨rfl, rfl⟩))
          go_ret
          exact ⟨[.int .i32 65533], rfl, rfl, by rw [HS.out]; rfl⟩
        · clear h1
          go_enter Tryd.func13, Tryd.ntmps13
          go_wp2_with (first
            | (go_at_call 26; refine (control_is r false _ HC).mono ?_; rintro e w' ⟨rfl, rfl⟩)
            | (go_at_call 30; refine (valid_is r false _ HV).mono ?_; rintro e w' ⟨rfl, rfl⟩))
          go_ret
          exact ⟨[.int .i32 65533], rfl, rfl, by rw [HS.out]; rfl⟩
    · have hs : showM r = [r] := by
        unfold showM
        rw [HC.out, if_neg (by simp), if_neg (by simpa using hm)]
      have HS := Lib.hid hs; clear hs
      have HV := Lib.hid (show validB r = true by cases h : validB r; exact absurd (Or.inr h) hm; rfl)
      have h1 : ¬ (128 ≤ r ∧ r ≤ 159) := fun h => hm (.inl h)
      clear hm
      by_cases h2 : 128 ≤ r
      · have h3 : ¬ r ≤ 159 := by omega
        clear h1
        go_enter Tryd.func13, Tryd.ntmps13
        go_wp2_with (first
          | (go_at_call 26; refine (control_is r false _ HC).mono ?_; rintro e w' ⟨rfl, rfl⟩)
          | (go_at_call 30; refine (valid_is r true _ HV).mono ?_; rintro e w' ⟨rfl, rfl⟩))
        go_ret
        exact ⟨[.int .i32 r], rfl, rfl, by rw [HS.out]; rfl⟩
      · clear h1
        go_enter Tryd.func13, Tryd.ntmps13
        go_wp2_with (first
          | (go_at_call 26; refine (control_is r false _ HC).mono ?_; rintro e w' ⟨rfl, rfl⟩)
          | (go_at_call 30; refine (valid_is r true _ HV).mono ?_; rintro e w' ⟨rfl, rfl⟩))
        go_ret
        exact ⟨[.int .i32 r], rfl, rfl, by rw [HS.out]; rfl⟩
end Go.Proofs.YthceooehndiglaaDoor.U
