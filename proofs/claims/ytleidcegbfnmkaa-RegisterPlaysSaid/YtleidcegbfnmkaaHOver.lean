/-
  The program's isOver.
-/
import Derived.Test.YtleidcegbfnmkaaHPlace
namespace Go.Proofs.Ytleidcegbfnmkaa.U
open Go.RowKit
set_option linter.unusedVariables false
set_option linter.unusedSimpArgs false
set_option maxRecDepth 100000

/-- more than may be held -/
def overB (j : Bool) (s1 s2 : Nat) : Bool := decide (65536 < s1 + s2 - (if j then 1 else 0))
set_option maxHeartbeats 2000000 in
theorem pover_any (F G : Nat → Prop) (k1 k2 : Int) (a1 a2 : Option Addr) (n1 n2 c1 c2 : Nat) (L M : List (List Int)) (w : World) (h1 : RdL F w a1 n1 c1 L) (h2 : RdL G w a2 n2 c2 M) (s1 : sizeR L ≤ 1048576) (s2 : sizeR M ≤ 1048576) :
    Calls Try.prog 34 #[rgV k1 a1 n1 c1, rgV k2 a2 n2 c2] w fun e w' => e = .returned (.bool (overB (joinsB n1 k1 k2) (sizeR L) (sizeR M))) ∧ Below w.heap.size w w' := by
  have hl1 := h1.len
  have hsm1 := h1.small
  have hc1 := size_count L
  unfold rgV
  obtain ⟨wb, hwb⟩ : ∃ wb, (w.alloc (.cells #[.int .i64 k1, .slice a1 n1 c1] 31)).alloc (.cells #[.int .i64 k2, .slice a2 n2 c2] 31) = wb := ⟨_, rfl⟩
  have hfou := fou_new w (.int .i64 k1) (.slice a1 n1 c1) (.int .i64 k2) (.slice a2 n2 c2)
  rw [hwb] at hfou
  have hsz : wb.heap.size = w.heap.size + 2 := by rw [← hwb]; simp
  have hB : Below w.heap.size w wb := by rw [← hwb]; exact ((Below.refl _ _).alloc (Nat.le_refl _) _).alloc (by simp) _
  rw [← hsz] at hfou
  have HS1 : Hid (∀ W, Hid (Below wb.heap.size wb W) → Calls Try.prog 41 #[.agg #[.int .i64 k1, .slice a1 n1 c1]] W fun e w' => e = .returned (.int .i64 (sizeR L : Nat)) ∧ Hid (Below wb.heap.size wb w')) := by
    intro W hW
    have hs1 := hW.out.size
    refine (psz_any F k1 a1 n1 c1 L W (h1.below (hB.trans (hW.out.mono (by omega)))) (by omega)).mono ?_
    rintro e w' ⟨rfl, hb⟩
    exact ⟨rfl, hW.out.trans (hb.mono hs1)⟩
  have HS2 : Hid (∀ W, Hid (Below wb.heap.size wb W) → Calls Try.prog 41 #[.agg #[.int .i64 k2, .slice a2 n2 c2]] W fun e w' => e = .returned (.int .i64 (sizeR M : Nat)) ∧ Hid (Below wb.heap.size wb w')) := by
    intro W hW
    have hs1 := hW.out.size
    refine (psz_any G k2 a2 n2 c2 M W (h2.below (hB.trans (hW.out.mono (by omega)))) (by omega)).mono ?_
    rintro e w' ⟨rfl, hb⟩
    exact ⟨rfl, hW.out.trans (hb.mono hs1)⟩
  have HJ : Hid (∀ W, Hid (Below wb.heap.size wb W) → Calls Try.prog 42 #[.agg #[.int .i64 k1, .slice a1 n1 c1], .agg #[.int .i64 k2, .slice a2 n2 c2]] W fun e w' => e = .returned (.bool (joinsB n1 k1 k2)) ∧ Hid (Below wb.heap.size wb w')) := by
    intro W hW
    have hs1 := hW.out.size
    refine (pjoins_any k1 k2 a1 a2 n1 n2 c1 c2 W hsm1).mono ?_
    rintro e w' ⟨rfl, hb⟩
    exact ⟨rfl, hW.out.trans (hb.mono hs1)⟩
  have hjp : joinsB n1 k1 k2 = true → 0 < sizeR L := by
    intro e
    unfold joinsB at e
    simp only [Bool.and_eq_true, decide_eq_true_eq] at e
    unfold sizeR
    omega
  obtain ⟨j, hj⟩ : ∃ j, joinsB n1 k1 k2 = j := ⟨_, rfl⟩
  rw [hj] at HJ hjp ⊢
  obtain ⟨N, hN⟩ : ∃ N, sizeR L = N := ⟨_, rfl⟩
  obtain ⟨O, hO⟩ : ∃ O, sizeR M = O := ⟨_, rfl⟩
  rw [hN] at HS1 s1 hjp ⊢
  rw [hO] at HS2 s2 ⊢
  have HB := Lib.hid (And.intro hB hsz)
  have HW := Lib.hid hwb
  have HF : Hid (∀ W, Below wb.heap.size wb W → Fou w.heap.size (.int .i64 k1) (.slice a1 n1 c1) (.int .i64 k2) (.slice a2 n2 c2) W) := hfou
  have hx := hfou wb (Below.refl _ _)
  clear h1 h2 hwb hB hfou hsz hj hN hO hl1 hsm1 hc1
  obtain ⟨b, hbe⟩ : ∃ b, w.heap.size = b := ⟨_, rfl⟩
  have HBE := Lib.hid hbe
  rw [hbe] at hx HF
  clear hbe
  have HR1 : Hid (Below wb.heap.size wb wb.drew) := (Below.refl _ _).drew
  have HR0 : Hid (Below wb.heap.size wb wb) := Below.refl _ _
  have KS : Hid (∀ W, Below wb.heap.size wb W → (W.cell? ⟨b, 0, none⟩ = some (.int .i64 k1) ∧ W.cell? ⟨b, 1, none⟩ = some (.slice a1 n1 c1) ∧ W.cell? ⟨b + 1, 0, none⟩ = some (.int .i64 k2) ∧ W.cell? ⟨b + 1, 1, none⟩ = some (.slice a2 n2 c2))) := fun W hW => ⟨(HF.out W hW).c0, (HF.out W hW).c1, (HF.out W hW).d0, (HF.out W hW).d1⟩
  obtain ⟨q0, q1, d0, d1, y0, y1, z0, z1, l0, l1⟩ := hx
  have f1 : IntKind.i64.wrap ((N : Int) + (O : Int)) = (N : Int) + (O : Int) := by rw [IntKind.wrap_i64]; omega
  go_enter Try.func34, Try.ntmps34
  go_upto_region 1 with fail
  rw [HW.out, HBE.out]
  go_region_held3 (fun W => (W.cell? ⟨b, 0, none⟩ = some (.int .i64 k1) ∧ W.cell? ⟨b, 1, none⟩ = some (.slice a1 n1 c1) ∧ W.cell? ⟨b + 1, 0, none⟩ = some (.int .i64 k2) ∧ W.cell? ⟨b + 1, 1, none⟩ = some (.slice a2 n2 c2)))
    (first | exact KS.out _ HR0.out | exact KS.out _ HR1.out | exact KS.out _ HB5.out)
    (first
      | (go_at_call 41; (with_reducible refine (HS1.out _ (by first | exact HB5 | exact HR1 | exact HR0)).mono ?_); rintro e w5 ⟨rfl, HB5⟩)
      | (go_at_call 41; (with_reducible refine (HS2.out _ (by first | exact HB5 | exact HR1 | exact HR0)).mono ?_); rintro e w5 ⟨rfl, HB5⟩))
  all_goals
    obtain ⟨q0, q1, d0, d1⟩ := KS.out _ HB5.out
    cases j with
    | true =>
      have hp := hjp rfl
      clear hjp
      go_wp2_with (go_at_call 42; (with_reducible refine (HJ.out _ HB5).mono ?_); rintro e w6 ⟨rfl, HB6⟩)
      go_ret
      refine ⟨ret_boolG ?_, HB.out.1.trans (HB6.out.mono (by have := HB.out.2; omega))⟩
      unfold overB
      rw [decide_eq_decide]
      simp
      omega
    | false =>
      clear hjp
      go_wp2_with (go_at_call 42; (with_reducible refine (HJ.out _ HB5).mono ?_); rintro e w6 ⟨rfl, HB6⟩)
      go_ret
      refine ⟨ret_boolG ?_, HB.out.1.trans (HB6.out.mono (by have := HB.out.2; omega))⟩
      unfold overB
      rw [decide_eq_decide]
      simp
      omega
end Go.Proofs.Ytleidcegbfnmkaa.U
