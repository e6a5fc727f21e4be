/-
  The contracts of slices.Clone at runes, and of New.
-/
import Derived.Test.YtndlebopfojjeaaPIns
namespace Go.Proofs.Ytndlebopfojjeaa.U
open Go.RowKit
set_option linter.unusedVariables false
set_option linter.unusedSimpArgs false
set_option maxRecDepth 100000

theorem clone_nil (w : World) : Calls Try.prog 48 #[.slice none 0 0] w fun e w' => e = .returned (.slice none 0 0) ∧ w = w' := by
  have hq := Lib.run_eql_slice_nil (P := Try.prog) w 31 21 none 0 0 0 0 Try.underlying31
  go_enter Try.func48, Try.ntmps48
  go_wp2
  go_ret
  exact ⟨rfl, rfl⟩

theorem clone_some (ad : Addr) (n c : Nat) (xs : List Int) (w : World) (hr : Rd .i32 w (some ad) n c xs) (hn : n ≤ lim) :
    Calls Try.prog 48 #[.slice (some ad) n c] w fun e w' => ∃ v, e = .returned v ∧ w'.ownsRow w.heap.size 21 1 v n (xs.map (Value.int .i32)) ∧ Below w.heap.size w w' := by
  obtain ⟨i0, hi0, hz0, hz1, hz2⟩ := info_parts infoI
  unfold lim at hn
  have hq := Lib.run_eql_slice_nil (P := Try.prog) w 31 21 (some ad) n c 0 0 Try.underlying31
  have hb0 : Below w.heap.size w (w.alloc (.cells #[] 21)) := (Below.refl _ w).alloc (Nat.le_refl _) _
  obtain ⟨v', w1, hrun, hown, hfr, hnear⟩ := run_append_own_k (P := Try.prog) (w.alloc (.cells #[] 21)) w.heap.size 31 21 i0 _ 1 4 Try.underlying31 hi0 hz0 hz1 hz2 rfl (by decide) (.slice (some ⟨w.heap.size, 0, none⟩) 0 0) 0 [] (World.ownsRow_lit w #[] 0 (Nat.le_refl _) (Nat.zero_le _) rfl) (some ad) n c (xs.map (Value.int .i32)) (by simpa using hr.1) (fun hp => Rd_cells (hr.below hb0) hp) (ints1 _ _) (by unfold maxLen; omega) (by omega) (by simp)
  have HRUN := Lib.hid hrun
  have HO := Lib.hid hown
  have HB : Hid (Below w.heap.size w w1) := by
    show Below _ _ _
    have h1 := (Fr.of_below (fun _ => False) hb0).trans hfr (fun x hx e => by unfold Value.ownBlock at e; simp at e; omega)
    exact h1.below0
  clear hrun hown hfr hnear hb0 hr
  go_enter Try.func48, Try.ntmps48
  go_wp2_with (at_builtin; go_must (with_reducible refine Lib.wpList_append_run _ rfl _ _ _ _ rfl _ _ rfl rfl _ _ (HRUN.out _) ?_))
  go_ret
  refine ⟨v', rfl, ?_, HB.out⟩
  have := HO.out
  rw [Nat.zero_add, List.nil_append] at this
  exact this

theorem clone_any (a : Option Addr) (n c : Nat) (xs : List Int) (w : World) (hr : Rd .i32 w a n c xs) (hn : n ≤ lim) :
    Calls Try.prog 48 #[.slice a n c] w fun e w' => ∃ v, e = .returned v ∧ w'.ownsRow w.heap.size 21 1 v n (xs.map (Value.int .i32)) ∧ Below w.heap.size w w' := by
  cases a with
  | some ad => exact clone_some ad n c xs w hr hn
  | none =>
    have hc := hr.2.2.2.2.1 rfl
    have hnc := hr.2.1
    obtain rfl : c = 0 := hc
    obtain rfl : n = 0 := by omega
    obtain rfl : xs = [] := List.eq_nil_of_length_eq_zero hr.1
    refine (clone_nil w).mono ?_
    rintro e w' ⟨rfl, rfl⟩
    exact ⟨_, rfl, World.ownsRow_nil _ _ _ _, Below.refl _ _⟩

theorem new_none (a : Option Addr) (n c : Nat) (w : World) (hn : 65536 < n) :
    Calls Try.prog 42 #[.slice a n c] w fun e w' => e = .returned (.pointer none) ∧ w = w' := by
  have h : (65536 : Int) < (n : Int) := by omega
  go_enter Try.func42, Try.ntmps42
  go_wp2
  go_ret
  exact ⟨rfl, rfl⟩

/-- what put leaves of a table just made -/
theorem new_put (bt : Nat) (F : Nat → Prop) (xs : List Int) (fv : Value) (w : World) (h : TabOk w F bt ⟨xs, [], fv, .slice none 0 0, .slice none 0 0, .slice none 0 0, false, [], []⟩) (hx : xs.length ≤ 65536) :
    Calls Try.prog 61 #[.pointer (some ⟨bt, 2, none⟩), .int .i64 0, .agg #[.bool false, .int .i64 0, .int .i64 (xs.length : Nat)]] w fun e w' => e = .returned (.tuple #[]) ∧
      ∃ F' D, TabOk w' F' bt D ∧ D.row = xs ∧ D.kept = [] ∧ D.ps.length ≤ 1 ∧ D.gs.length = 0 ∧ Fr F w w' ∧ ∀ k, F' k → F k ∨ w.heap.size ≤ k := by
  by_cases h0 : xs.length = 0
  · obtain rfl : xs = [] := List.eq_nil_of_length_eq_zero h0
    refine (put_0 bt 0 false 0 w (Nat.zero_le _)).mono ?_
    rintro e w' ⟨rfl, hb⟩
    exact ⟨rfl, F, _, h.below hb, rfl, rfl, by simp, rfl, Fr.of_below _ hb, fun _ hk => .inl hk⟩
  · have hp : (Pc.mk false 0 xs.length).ok xs.length ([] : List Int).length := ⟨by simp only; omega, by simp⟩
    refine (put_any bt fv (.slice none 0 0) (.slice none 0 0) (.slice none 0 0) false [] xs [] 0 false 0 xs.length w ⟨h.tb, h.po⟩ h.ok hp (by unfold lim; omega) (Nat.zero_le _) (by simpa [sumL] using hx) (Nat.zero_le _)).mono ?_
    rintro e w' ⟨rfl, v', hR, hfr, hN⟩
    obtain ⟨p1, p2, p3, p4⟩ := putM_spec (fs := xs) (gs := []) (n := 0) (ps := []) (by intro p hp; cases hp) (Nat.zero_le _) hp
    have hq : putM [] 0 ⟨false, 0, xs.length⟩ = [⟨false, 0, xs.length⟩] := by simp [putM, cutM, findM, joinB]
    rw [hq] at p1 p2
    rw [hq] at hR
    have hs : sumL [⟨false, 0, xs.length⟩] = xs.length := by simp [sumL, Pc.len]
    rw [show ((sumL [] + (xs.length - 0) : Nat) : Int) = ((sumL [⟨false, 0, xs.length⟩] : Nat) : Int) from by rw [hs]; simp [sumL]] at hR
    have hT' := tab_row h hR hfr hN p1 (by rw [hs]; exact hx)
    refine ⟨rfl, _, _, hT', ?_, rfl, by simp, rfl, hfr.mono ?_, fun k hk => hk.1⟩
    · show cont xs [] _ = xs
      rw [p2]
      simp [cont, Pc.runes]
    · rintro k hk (e | ⟨_, e⟩)
      · subst e; exact h.inF.1
      · simp [Value.ownBlock] at e

theorem new_ok (w w1 : World) (xs : List Int) (v : Value) (hown : w1.ownsRow w.heap.size 21 1 v xs.length (xs.map (Value.int .i32))) (hs : w.heap.size ≤ w1.heap.size) (hx : xs.length ≤ 65536) (hwf : ∀ x ∈ xs, (Lit.int .i32 x).wf = true) :
    TabOk (w1.alloc (.cells #[v, .slice none 0 0, .slice none 0 0, .int .i64 0, .bool false, .slice none 0 0] 102))
      (fun k => w.heap.size ≤ k ∧ k < (w1.alloc (.cells #[v, .slice none 0 0, .slice none 0 0, .int .i64 0, .bool false, .slice none 0 0] 102)).heap.size) w1.heap.size ⟨xs, [], v, .slice none 0 0, .slice none 0 0, .slice none 0 0, false, [], []⟩ := by
  have no : ∀ k, (Value.slice none 0 0).ownBlock ≠ some k := fun k e => by simp [Value.ownBlock] at e
  refine { tb := heap_alloc_new w1 _, fo := own_mono (hown.alloc _) (Nat.zero_le _), go := World.ownsRow_nil _ _ _ _, fg := fun k _ => no k, po := World.ownsRow_nil _ _ _ _, so := World.ownsRow_nil _ _ _ _, each := (fun x hx => by cases hx), inF := ?_, ok := (fun p hp => by cases hp), room := by simp [sumL], small := hx, wf1 := hwf, wf2 := (fun x hx => by cases hx), lt := fun k hk => hk.2 }
  exact ⟨⟨hs, by simp⟩, fun k e => ⟨(hown.lt k e).1, by have := (hown.lt k e).2; simp; omega⟩, fun k e => (no k e).elim, fun k e => (no k e).elim, fun k e => (no k e).elim⟩

theorem new_tab (a : Option Addr) (n c : Nat) (xs : List Int) (w : World) (hr : Rd .i32 w a n c xs) (hn : n ≤ 65536) :
    Calls Try.prog 42 #[.slice a n c] w fun e w' => ∃ bt F D, e = .returned (.pointer (some ⟨bt, 0, none⟩)) ∧ TabOk w' F bt D ∧ D.row = xs ∧ D.kept = [] ∧ D.ps.length ≤ 1 ∧ D.gs.length = 0 ∧ Below w.heap.size w w' ∧ ∀ k, F k → w.heap.size ≤ k := by
  have hxl := hr.1
  have HC := Lib.hid (clone_any a n c xs w hr (by unfold lim; omega))
  have HWF := Lib.hid hr.2.2.2.1
  have hn' : (n : Int) ≤ 65536 := by omega
  have HXL := Lib.hid hxl
  clear hr hxl
  go_enter Try.func42, Try.ntmps42
  go_wp2_with fail
  refine HC.out.mono ?_
  rintro e w1 ⟨v, rfl, hown, hb⟩
  obtain ⟨a1, c1, rfl⟩ := own_slice hown
  go_wp2_with fail
  obtain ⟨w2, hw2⟩ : ∃ w2, w1.alloc (.cells #[.slice a1 n c1, .slice none 0 0, .slice none 0 0, .int .i64 0, .bool false, .slice none 0 0] 102) = w2 := ⟨_, rfl⟩
  have hT : TabOk w2 (fun k => w.heap.size ≤ k ∧ k < w2.heap.size) w1.heap.size ⟨xs, [], .slice a1 n c1, .slice none 0 0, .slice none 0 0, .slice none 0 0, false, [], []⟩ := by
    rw [← hw2]
    exact new_ok w w1 xs (.slice a1 n c1) (by rw [HXL.out]; exact hown) hb.size (by rw [HXL.out]; exact hn) HWF.out
  have hb2 : Below w.heap.size w w2 := by rw [← hw2]; exact hb.alloc hb.size _
  have hbt : w1.heap.size = w1.heap.size := rfl
  obtain ⟨bt, hbt⟩ : ∃ bt, w1.heap.size = bt := ⟨_, rfl⟩
  rw [hbt] at hT ⊢
  rw [hw2]
  have HP := Lib.hid (new_put bt _ xs (.slice a1 n c1) w2 hT (by rw [HXL.out]; exact hn))
  rw [HXL.out] at HP
  have HB2 := Lib.hid hb2
  clear hT hb2 hb hown hw2 hbt
  refine HP.out.mono ?_
  rintro e w3 ⟨rfl, F', D, h1, h2, h3, h4, h5, h6, h7⟩
  have HFIN : Hid (∃ bt' F D, Ending.returned (.pointer (some ⟨bt, 0, none⟩)) = Ending.returned (.pointer (some ⟨bt', 0, none⟩)) ∧ TabOk w3 F bt' D ∧ D.row = xs ∧ D.kept = [] ∧ D.ps.length ≤ 1 ∧ D.gs.length = 0 ∧ Below w.heap.size w w3 ∧ ∀ k, F k → w.heap.size ≤ k) := by
    refine ⟨bt, F', D, rfl, h1, h2, h3, h4, h5, HB2.out.trans (h6.below HB2.out.size (fun k hk => hk.1)), fun k hk => ?_⟩
    rcases h7 k hk with h | h
    · exact h.1
    · have := HB2.out.size
      omega
  clear h1 h2 h3 h4 h5 h6 h7
  go_wp2_with fail
  go_ret
  exact HFIN.out
end Go.Proofs.Ytndlebopfojjeaa.U
