/-
  The walk of TextNone.
-/
import Derived.Test.YtndlebopfojjeaaTAwake
namespace Go.Proofs.Ytndlebopfojjeaa.U
open Go.RowKit
set_option linter.unusedVariables false
set_option linter.unusedSimpArgs false
set_option maxRecDepth 100000

set_option maxHeartbeats 4000000 in
theorem textNone_walk (kd n p q r s : Int) (la : Option Addr) (ln lc : Nat) (ma : Option Addr) (mn mc : Nat) (w : World) :
    Calls Try.prog 9 #[.agg #[.int .i64 kd, .int .i64 n, .int .i64 p, .int .i64 q, .int .i64 r, .int .i64 s, .slice la ln lc, .slice ma mn mc]] w fun e w' => e = .returned (.bool true) ∧ Below w.heap.size w w' := by
  obtain ⟨g, hgs⟩ : ∃ g, w.heap.size = g := ⟨_, rfl⟩
  obtain ⟨wb, hwb⟩ : ∃ wb, w.alloc (.cells #[.int .i64 kd, .int .i64 n, .int .i64 p, .int .i64 q, .int .i64 r, .int .i64 s, .slice la ln lc, .slice ma mn mc] 33) = wb := ⟨_, rfl⟩
  have hg : wb.heap[g]? = some (.cells #[.int .i64 kd, .int .i64 n, .int .i64 p, .int .i64 q, .int .i64 r, .int .i64 s, .slice la ln lc, .slice ma mn mc] 33 (0, 0)) := by rw [← hwb, ← hgs]; exact heap_alloc_new w _
  have hB : Below g w wb := by rw [← hwb]; exact (Below.refl _ _).alloc (by omega) _
  have HA : Hid (∀ W, Below (g + 1) wb W → W.cell? ⟨g, 1, none⟩ = some (.int .i64 n) ∧ W.cell? ⟨g, 2, none⟩ = some (.int .i64 p) ∧ W.cell? ⟨g, 3, none⟩ = some (.int .i64 q) ∧ W.cell? ⟨g, 4, none⟩ = some (.int .i64 r) ∧ W.cell? ⟨g, 5, none⟩ = some (.int .i64 s) ∧ W.cell? ⟨g, 6, none⟩ = some (.slice la ln lc) ∧ W.cell? ⟨g, 7, none⟩ = some (.slice ma mn mc) ∧ g < W.heap.size ∧ g + 1 ≤ W.heap.size) := by
    intro W hW
    have h := (hW.block g (by omega)).trans hg
    exact ⟨cell_row h 1, cell_row h 2, cell_row h 3, cell_row h 4, cell_row h 5, cell_row h 6, cell_row h 7, heap_lt h, heap_lt h⟩
  have HWB := Lib.hid hwb
  have HGS := Lib.hid hgs
  have HB := Lib.hid hB
  have X0 : Hid (Below (g + 1) wb wb) := Below.refl _ _
  obtain ⟨b1, b2, b3, b4, b5, b6, b7, bl, bs⟩ := HA.out wb X0.out
  clear hwb hg hB
  go_enter Try.func9, Try.ntmps9
  go_upto_region 2 with fail
  rw [HWB.out]
  clear hgs
  go_wp2_with fail
  refine (line_nil n _).mono ?_
  rintro e w' ⟨rfl, rfl⟩
  go_wp2_with fail
  refine (offset_nil _ p q rfl _).mono ?_
  rintro e w1 ⟨rfl, hb1⟩
  have X1 : Hid (Below (g + 1) wb w1) := X0.out.trans (hb1.mono bs)
  clear b1 b2 b3 b4 b5 b6 b7 bl bs hb1
  obtain ⟨b1, b2, b3, b4, b5, b6, b7, bl, bs⟩ := HA.out w1 X1.out
  clear X0
  go_wp2_with fail
  refine (place_nil n _).mono ?_
  rintro e w2 ⟨rfl, hb2⟩
  have X2 : Hid (Below (g + 1) wb w2) := X1.out.trans (hb2.mono bs)
  clear b1 b2 b3 b4 b5 b6 b7 bl bs hb2
  obtain ⟨b1, b2, b3, b4, b5, b6, b7, bl, bs⟩ := HA.out w2 X2.out
  clear X1
  go_wp2_with fail
  refine (slice_nil p q r s _).mono ?_
  rintro e w3 ⟨rfl, hb3⟩
  have X3 : Hid (Below (g + 1) wb w3) := X2.out.trans ((((Below.refl w2.heap.size w2).alloc (Nat.le_refl _) (.cells #[.int .i64 0, .int .i64 0] 30)).trans (hb3.mono (by simp))).mono bs)
  clear b1 b2 b3 b4 b5 b6 b7 bl bs hb3
  obtain ⟨b1, b2, b3, b4, b5, b6, b7, bl, bs⟩ := HA.out w3 X3.out
  clear X2
  go_wp2_with fail
  refine (count_nil _).mono ?_
  rintro e w' ⟨rfl, rfl⟩
  go_wp2_with fail
  refine (runesT_nil _).mono ?_
  rintro e w' ⟨rfl, rfl⟩
  go_wp2_with fail
  refine (all_nil _).mono ?_
  rintro e w' ⟨rfl, rfl⟩
  go_wp2_with fail
  refine (insert_nil p q (.slice la ln lc) _).mono ?_
  rintro e w4 ⟨rfl, hb4⟩
  have X4 : Hid (Below (g + 1) wb w4) := X3.out.trans (hb4.mono bs)
  clear b1 b2 b3 b4 b5 b6 b7 bl bs hb4
  obtain ⟨b1, b2, b3, b4, b5, b6, b7, bl, bs⟩ := HA.out w4 X4.out
  clear X3
  go_wp2_with fail
  refine (delete_nil p q r s _).mono ?_
  rintro e w5 ⟨rfl, hb5⟩
  have X5 : Hid (Below (g + 1) wb w5) := X4.out.trans (hb5.mono bs)
  clear b1 b2 b3 b4 b5 b6 b7 bl bs hb5
  obtain ⟨b1, b2, b3, b4, b5, b6, b7, bl, bs⟩ := HA.out w5 X5.out
  clear X4
  go_wp2_with fail
  refine (replace_nil n 0 (.slice ma mn mc) _).mono ?_
  rintro e w' ⟨rfl, rfl⟩
  go_wp2_with fail
  refine (awake_any _).mono ?_
  rintro e w6 ⟨rfl, hb6⟩
  have X6 : Hid (Below (g + 1) wb w6) := X5.out.trans (hb6.mono bs)
  clear b1 b2 b3 b4 b5 b6 b7 bl bs hb6
  obtain ⟨b1, b2, b3, b4, b5, b6, b7, bl, bs⟩ := HA.out w6 X6.out
  clear X5
  go_wp2_with fail
  go_ret
  exact ⟨rfl, by rw [HGS.out]; exact HB.out.trans (X6.out.mono (by omega))⟩
end Go.Proofs.Ytndlebopfojjeaa.U
