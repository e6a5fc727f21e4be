/-
  Chapter 3's examples: awake.
-/
import Derived.Test.YtblbbcgdgbajnaaPState
namespace Go.Proofs.Ytblbbcgdgbajnaa.U
open Go.RowKit
set_option linter.unusedVariables false
set_option linter.unusedSimpArgs false

theorem own_rd {w : World} {B : Nat} {a : Option Addr} {n c : Nat} {xs : List Int} (h : w.ownsRow B 21 1 (.slice a n c) n (ints xs)) (hw : ∀ x ∈ xs, (Lit.int .i32 x).wf = true) : Rd .i32 w a n c xs := Rd.own (k := .i32) h hw

set_option maxHeartbeats 2000000 in
theorem awake_any (w : World) : Calls Try.prog 15 #[] w fun e w' => e = .returned (.bool true) ∧ Below w.heap.size w w' := by
  obtain ⟨B, hB⟩ : ∃ B, w.heap.size = B := ⟨_, rfl⟩
  rw [hB]
  have HBE := Lib.hid hB
  have e1 : insM [97, 98, 99] 1 [120, 121] = ([97, 120, 121, 98, 99], 0) := by decide
  have e2 : delM [97, 120, 121, 98, 99] 0 2 = ([121, 98, 99], 0) := by decide
  have e3 : sliM [121, 98, 99] 1 2 = ([98, 99], 0) := by decide
  have e4 : delM [121, 98, 99] 0 3 = ([], 0) := by decide
  have e5 : backM [] [[121, 98, 99]] 1 = ([121, 98, 99], 0) := by decide
  have e6 : sliM [121, 98, 99] 0 3 = ([121, 98, 99], 0) := by decide
  have e7 : delM [121, 98, 99] 4 0 = ([121, 98, 99], 2) := by decide
  have E1 := Lib.hid e1
  have E2 := Lib.hid e2
  have E3 := Lib.hid e3
  have E4 := Lib.hid e4
  have E5 := Lib.hid e5
  have E6 := Lib.hid e6
  have E7 := Lib.hid e7
  clear hB e1 e2 e3 e4 e5 e6 e7
  go_enter Try.func15, Try.ntmps15
  go_wp2_with fail
  refine (ts_new (fun k => B ≤ k) _ 3 3 [97, 98, 99] _ (Rd_new .i32 w _ _ _ 3 rfl rfl (by unfold maxLen; omega) (by decide)) (by omega) (fun k hk => by have := HBE.out; simp at hk; omega)).mono ?_
  rintro e w1 ⟨bt, rfl, T1, hb1⟩
  have HB1 : Hid (Below B w w1) := by
    show Below _ _ _
    have := ((Below.refl w.heap.size w).alloc (Nat.le_refl _) _).trans (hb1.mono (by simp))
    rw [HBE.out] at this
    exact this
  have T1' := Lib.hid T1
  clear hb1 T1
  go_wp2_with fail
  have hs1 : B ≤ w1.heap.size := by have := HB1.out.size; have := HBE.out; omega
  have H2 := ts_insert (fun k => B ≤ k) bt _ _ _ _ _ 2 2 [120, 121] 1 (w1.alloc (.cells #[.int .i32 120, .int .i32 121] 21)) (T1'.out.below ((Below.refl _ w1).alloc (Nat.le_refl _) _)) (fun k hk => by simp at hk; omega) (Rd_new .i32 w1 _ _ _ 2 rfl rfl (by unfold maxLen; omega) (by decide)) (by unfold i64b; omega) (by decide)
  rw [E1.out] at H2
  refine H2.mono ?_
  rintro e w2 ⟨rfl, T2, hf2⟩
  have HB2 : Hid (Below B w w2) := HB1.out.trans (((Below.refl w1.heap.size w1).alloc (Nat.le_refl _) _).mono hs1 |>.trans (hf2.below (by simp; omega) (fun k hk => hk)))
  have T2' := Lib.hid T2
  clear hf2 T2 H2
  have hs2 : B ≤ w2.heap.size := by have := HB2.out.size; have := HBE.out; omega
  go_wp2_with fail
  have H3 := ts_delete (fun k => B ≤ k) bt _ _ _ _ 0 2 w2 T2'.out (fun k hk => by omega) (by unfold i64b; omega) (by unfold i64b; omega) (by decide)
  rw [E2.out] at H3
  refine H3.mono ?_
  rintro e w3 ⟨rfl, T3, hf3⟩
  have HB3 : Hid (Below B w w3) := HB2.out.trans (hf3.below hs2 (fun k hk => hk))
  have T3' := Lib.hid T3
  clear hf3 T3 H3
  have hs3 : B ≤ w3.heap.size := by have := HB3.out.size; have := HBE.out; omega
  go_wp2_with fail
  have H4 := ts_slice (fun k => B ≤ k) bt _ _ _ _ 1 2 w3 T3'.out (by unfold i64b; omega) (by unfold i64b; omega) (by decide)
  rw [E3.out] at H4
  refine H4.mono ?_
  rintro e w4 ⟨a4, c4, rfl, O4, hb4⟩
  have T4 := Lib.hid ((T3'.out.shrink (N := fun k => some k = (Value.slice a4 2 c4).ownBlock) (fun k hk => (O4.lt k hk.symm).1)).below hb4)
  have HB4 : Hid (Below B w w4) := HB3.out.trans (hb4.mono hs3)
  have O4' := Lib.hid O4
  have hN4 : Hid (∀ k, w4.heap.size ≤ k → B ≤ k ∧ ¬ (some k = (Value.slice a4 2 c4).ownBlock)) := fun k hk => ⟨by have := hb4.size; omega, fun e => by have := (O4.lt k e.symm).2; omega⟩
  have hs4 : w3.heap.size ≤ w4.heap.size := hb4.size
  clear hb4 O4 H4
  go_wp2_with fail
  have H5 := ts_save _ bt _ _ _ _ w4 T4.out hN4.out (by decide)
  refine H5.mono ?_
  rintro e w5 ⟨rfl, T5, hf5⟩
  have T5' := Lib.hid T5
  have HB5 : Hid (Below B w w5) := HB4.out.trans (hf5.below (by omega) (fun k hk => hk.1))
  have O5 := Lib.hid (own_fr O4'.out hf5 (fun k e hk => hk.2 e.symm))
  have hs5 : w4.heap.size ≤ w5.heap.size := hf5.size
  clear hf5 T5 H5
  go_wp2_with fail
  have H6 := ts_delete _ bt _ _ _ _ 0 3 w5 T5'.out (fun k hk => hN4.out k (by omega)) (by unfold i64b; omega) (by unfold i64b; omega) (by decide)
  rw [E4.out] at H6
  refine H6.mono ?_
  rintro e w6 ⟨rfl, T6, hf6⟩
  have T6' := Lib.hid T6
  have HB6 : Hid (Below B w w6) := HB5.out.trans (hf6.below (by omega) (fun k hk => hk.1))
  have O6 := Lib.hid (own_fr O5.out hf6 (fun k e hk => hk.2 e.symm))
  have hs6 : w5.heap.size ≤ w6.heap.size := hf6.size
  clear hf6 T6 H6
  go_wp2_with fail
  have H7 := ts_back _ bt _ _ _ _ 1 w6 T6'.out (fun k hk => hN4.out k (by omega)) (by decide)
  rw [List.nil_append, E5.out] at H7
  refine H7.mono ?_
  rintro e w7 ⟨rfl, T7, hf7⟩
  have T7' := Lib.hid T7
  have HB7 : Hid (Below B w w7) := HB6.out.trans (hf7.below (by omega) (fun k hk => hk.1))
  have O7 := Lib.hid (own_fr O6.out hf7 (fun k e hk => hk.2 e.symm))
  have hs7 : w6.heap.size ≤ w7.heap.size := hf7.size
  clear hf7 T7 H7
  go_wp2_with fail
  have H8 := ts_slice _ bt _ _ _ _ 0 3 w7 T7'.out (by unfold i64b; omega) (by unfold i64b; omega) (by decide)
  rw [E6.out] at H8
  refine H8.mono ?_
  rintro e w8 ⟨a8, c8, rfl, O8, hb8⟩
  have T8 := Lib.hid (T7'.out.below hb8)
  have HB8 : Hid (Below B w w8) := HB7.out.trans (hb8.mono (by omega))
  have R8 := Lib.hid (own_rd O8 (by decide))
  have R4 := Lib.hid (own_rd (own_fr O7.out (Fr.of_below (fun _ => False) hb8) (fun _ _ h => h)) (by decide))
  have hs8 : w7.heap.size ≤ w8.heap.size := hb8.size
  clear hb8 O8 H8
  go_wp2_with fail
  refine (runes_same a4 _ 2 c4 2 [98, 99] _ (R4.out.alloc _) (Rd_new .i32 w8 _ _ _ 2 rfl rfl (by unfold maxLen; omega) (by decide))).mono ?_
  rintro e w9 ⟨rfl, hb9⟩
  have B89 := Lib.hid (((Below.refl w8.heap.size w8).alloc (Nat.le_refl _) (.cells #[.int .i32 98, .int .i32 99] 21)).trans (hb9.mono (by simp)))
  have hs9 : w8.heap.size ≤ w9.heap.size := B89.out.size
  clear hb9
  go_wp2_with fail
  refine (runes_same a8 _ 3 c8 3 [121, 98, 99] _ ((R8.out.below B89.out).alloc _) (Rd_new .i32 w9 _ _ _ 3 rfl rfl (by unfold maxLen; omega) (by decide))).mono ?_
  rintro e w10 ⟨rfl, hb10⟩
  have B90 := Lib.hid (B89.out.trans ((((Below.refl w9.heap.size w9).alloc (Nat.le_refl _) (.cells #[.int .i32 121, .int .i32 98, .int .i32 99] 21)).trans (hb10.mono (by simp))).mono hs9))
  have hs10 : w8.heap.size ≤ w10.heap.size := B90.out.size
  clear hb10
  go_wp2_with fail
  have H11 := ts_delete _ bt _ _ _ _ 4 0 w10 (T8.out.below B90.out) (fun k hk => hN4.out k (by omega)) (by unfold i64b; omega) (by unfold i64b; omega) (by decide)
  rw [E7.out] at H11
  refine H11.mono ?_
  rintro e w11 ⟨rfl, T11, hf11⟩
  have HB11 : Hid (Below B w w11) := (HB8.out.trans (B90.out.mono (by omega))).trans (hf11.below (by omega) (fun k hk => hk.1))
  clear hf11 T11 H11
  go_wp2_with fail
  go_ret
  exact ⟨rfl, HB11.out⟩
end Go.Proofs.Ytblbbcgdgbajnaa.U
