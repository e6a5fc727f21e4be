/-
  The contract of 'awake': chapter 2's examples.
-/
import Derived.Test.YthceooehndiglaaDoorCUnits
import Derived.Test.YthceooehndiglaaDoorCAt
namespace Go.Proofs.YthceooehndiglaaDoor.U
open Go.RowKit
set_option linter.unusedVariables false
set_option linter.unusedSimpArgs false

theorem ex1 : units [97, 9, 98] 8 = [⟨0, 1, 0, 1⟩, ⟨1, 2, 1, 7⟩, ⟨2, 3, 8, 1⟩] := by decide
theorem ex2 : units [101, 769] 8 = [⟨0, 2, 0, 1⟩] := by decide
theorem ex3 : colM (units [97, 9] 8) 2 = (8, 1) := by decide
theorem ex4 : atM (units [97, 9, 98] 8) 3 3 = 1 := by decide
theorem ex5 : widthM 20013 = 2 := by decide
theorem ex6 : showM 1 = [94, 65] := by decide
theorem ex7 : (textM [97, 9, 98] ⟨1, 2, 1, 7⟩).length = 7 := by decide
theorem tab8 : tabM 8 = 8 := by decide

/-- two units at most: what the examples ask of a slice of units -/
theorem ex_cells {w : World} {a : Option Addr} {len cap : Nat} {vs : List UV} (h : RdU w a len cap vs) {i : Nat} (hi : i < len) {u : Un} (hu : (vs.map UV.u)[i]? = some u) :
    ∃ b off x, a = some ⟨b, off, none⟩ ∧ vs[i]? = some x ∧ x.u = u ∧ w.cell? ⟨b, off + i * 5 + 2, none⟩ = some (.int .i64 u.col) ∧ w.cell? ⟨b, off + i * 5 + 3, none⟩ = some (.int .i64 u.wd) ∧ w.cell? ⟨b, off + i * 5 + 4, none⟩ = some x.val ∧ Rd .i32 w x.ta x.tl x.tc x.tx := by
  obtain ⟨h1, h2, h3, h4, h5, h6⟩ := h
  obtain ⟨b, off, ha, hc⟩ := h5 (by omega)
  obtain ⟨c0, c1, c2, c3, c4⟩ := hc i hi
  have hx : vs[i]? = some (vs.getD i default) := by rw [List.getD_eq_getElem?_getD, List.getElem?_eq_getElem (by omega)]; rfl
  have hxu : (vs.getD i default).u = u := by
    rw [List.getElem?_map, hx] at hu
    simpa using hu
  rw [hxu] at c2 c3
  exact ⟨b, off, _, ha, hx, hxu, c2, c3, c4, h6 _ (List.mem_of_getElem? hx)⟩

theorem runes_is (a1 a2 : Option Addr) (len c1 c2 : Nat) (xs : List Int) (w : World) (h1 : Rd .i32 w a1 len c1 xs) (h2 : Rd .i32 w a2 len c2 xs) :
    Calls Tryd.prog 12 #[.slice a1 len c1, .slice a2 len c2] w fun e w' => e = .returned (.bool true) ∧ Below w.heap.size w w' := runes_same a1 a2 len c1 c2 xs w h1 h2

set_option maxHeartbeats 2000000 in
theorem awake_any (w : World) (hg : Gl w) :
    Calls Tryd.prog 15 #[] w fun e w' => e = .returned (.bool true) ∧ Below w.heap.size w w' := by
  have HG := Lib.hid hg; clear hg
  go_enter Tryd.func15, Tryd.ntmps15
  go_wp2_with fail
  refine (units_any _ 3 3 [97, 9, 98] 8 8 tab8 _ (Rd_new .i32 w _ _ _ 3 rfl rfl (by unfold maxLen; omega) (by decide)) (by omega) (HG.out.alloc _)).mono ?_
  rintro e w1 ⟨a1, n1, k1, vs1, rfl, hr1, hu1, ht1, hb1⟩
  rw [ex1] at hu1
  have hl1 : vs1.length = 3 := by have := congrArg List.length hu1; simpa using this
  obtain rfl : n1 = 3 := by rw [← hr1.len]; exact hl1
  have B1 := Lib.hid (((Below.refl _ w).alloc (Nat.le_refl _) (.cells #[.int .i32 97, .int .i32 9, .int .i32 98] 21)).trans (hb1.mono (B' := w.heap.size) (by simp)))
  have s1 := B1.out.size
  clear hb1
  have HG1 := Lib.hid (HG.out.below HG.out.lt B1.out)
  go_wp2_with fail
  refine (units_any _ 2 2 [101, 769] 8 8 tab8 _ (Rd_new .i32 w1 _ _ _ 2 rfl rfl (by unfold maxLen; omega) (by decide)) (by omega) (HG1.out.alloc _)).mono ?_
  rintro e w2 ⟨a2, n2, k2, vs2, rfl, hr2, hu2, ht2, hb2⟩
  rw [ex2] at hu2
  have hl2 : vs2.length = 1 := by have := congrArg List.length hu2; simpa using this
  obtain rfl : n2 = 1 := by rw [← hr2.len]; exact hl2
  have B2 := Lib.hid (((Below.refl _ w1).alloc (Nat.le_refl _) (.cells #[.int .i32 101, .int .i32 769] 21)).trans (hb2.mono (B' := w1.heap.size) (by simp)))
  have s2 := B2.out.size
  clear hb2
  have HG2 := Lib.hid (HG1.out.below HG1.out.lt B2.out)
  have R1 := Lib.hid (hr1.below B2.out)
  have R2 := Lib.hid hr2
  clear hr1 hr2
  go_wp2_with fail
  refine (col_any _ 2 2 [97, 9] 8 8 tab8 2 _ (Rd_new .i32 w2 _ _ _ 2 rfl rfl (by unfold maxLen; omega) (by decide)) (by omega) (HG2.out.alloc _)).mono ?_
  rintro e w3 ⟨⟨c, d, rfl, hcd⟩, hb3⟩
  rw [ex3] at hcd
  simp only [Prod.mk.injEq] at hcd
  obtain ⟨rfl, rfl⟩ := hcd
  have B3 := Lib.hid (((Below.refl _ w2).alloc (Nat.le_refl _) (.cells #[.int .i32 97, .int .i32 9] 21)).trans (hb3.mono (B' := w2.heap.size) (by simp)))
  have s3 := B3.out.size
  clear hb3
  have HG3 := Lib.hid (HG2.out.below HG2.out.lt B3.out)
  obtain ⟨p1, o1, x12, rfl, hx12, hxu12, q12, -, -, -⟩ := ex_cells (R1.out.below B3.out) (i := 2) (by omega) (u := ⟨2, 3, 8, 1⟩) (by rw [hu1]; rfl)
  obtain ⟨p1', o1', x11, he, hx11, hxu11, -, -, q11, r11⟩ := ex_cells (R1.out.below B3.out) (i := 1) (by omega) (u := ⟨1, 2, 1, 7⟩) (by rw [hu1]; rfl)
  simp only [Option.some.injEq, Addr.mk.injEq, and_true] at he
  obtain ⟨rfl, rfl⟩ := he
  obtain ⟨p2, o2, x20, rfl, hx20, hxu20, -, q20, -, -⟩ := ex_cells (R2.out.below B3.out) (i := 0) (by omega) (u := ⟨0, 2, 0, 1⟩) (by rw [hu2]; rfl)
  have ht7 : x11.tl = 7 := by
    rw [← r11.len, ht1 x11 (List.mem_of_getElem? hx11), hxu11]; exact ex7
  have hv11 : x11.val = .slice x11.ta 7 x11.tc := by unfold UV.val; rw [ht7]
  rw [hv11] at q11
  obtain ⟨t1, ht1'⟩ : ∃ t, x11.ta = t := ⟨_, rfl⟩
  obtain ⟨t2, ht2'⟩ : ∃ t, x11.tc = t := ⟨_, rfl⟩
  rw [ht1', ht2'] at q11
  clear hx12 hxu12 hx11 hxu11 r11 hx20 hxu20 ht7 hv11 ht1' ht2' hu1 hu2 ht1 ht2 R1 R2 hl1 hl2
  simp only [Nat.reduceMul, Nat.zero_mul, Nat.add_zero] at q12 q11 q20
  go_wp2_with fail
  refine (width_is 20013 2 _ HG3.out ex5).mono ?_
  rintro e w3' ⟨rfl, rfl⟩
  go_wp2_with fail
  refine (show_any 1 _).mono ?_
  rintro e w4 ⟨cs, rfl, rfl, hcs⟩
  rw [ex6] at hcs
  subst hcs
  have RS := Lib.hid ((Rd_new .i32 w3 [94, 65] (([94, 65] : List Int).map (Value.int .i32)).toArray 21 2 rfl rfl (by unfold maxLen; omega) (by decide)))
  have HG4 := Lib.hid (HG3.out.alloc (.cells (([94, 65] : List Int).map (Value.int .i32)).toArray 21))
  obtain ⟨w4, hw4⟩ : ∃ w4, w3.alloc (.cells (([94, 65] : List Int).map (Value.int .i32)).toArray 21) = w4 := ⟨_, rfl⟩
  have B4 := Lib.hid ((Below.refl w3.heap.size w3).alloc (Nat.le_refl _) (.cells (([94, 65] : List Int).map (Value.int .i32)).toArray 21))
  rw [hw4] at RS HG4 B4 ⊢
  have s4 := B4.out.size
  clear hw4 q11 q12 q20
  go_wp2_with fail
  refine (runes_is _ _ 2 2 2 [94, 65] _ (RS.out.alloc _) (Rd_new .i32 w4 _ _ _ 2 rfl rfl (by unfold maxLen; omega) (by decide))).mono ?_
  rintro e w5 ⟨rfl, hb5⟩
  have B5 := Lib.hid (((Below.refl _ w4).alloc (Nat.le_refl _) (.cells #[.int .i32 94, .int .i32 65] 21)).trans (hb5.mono (B' := w4.heap.size) (by simp)))
  have s5 := B5.out.size
  clear hb5
  have HG5 := Lib.hid (HG4.out.below HG4.out.lt B5.out)
  go_wp2_with fail
  refine (at_any _ 3 3 [97, 9, 98] 8 8 tab8 3 _ (Rd_new .i32 w5 _ _ _ 3 rfl rfl (by unfold maxLen; omega) (by decide)) (by omega) (HG5.out.alloc _)).mono ?_
  rintro e w6 ⟨rfl, hb6⟩
  rw [ex4]
  have B6 := Lib.hid (((Below.refl _ w5).alloc (Nat.le_refl _) (.cells #[.int .i32 97, .int .i32 9, .int .i32 98] 21)).trans (hb6.mono (B' := w5.heap.size) (by simp)))
  have s6 := B6.out.size
  clear hb6
  go_wp2_with fail
  go_ret
  exact ⟨rfl, ((((B1.out.trans (B2.out.mono (by omega))).trans (B3.out.mono (by omega))).trans (B4.out.mono (by omega))).trans (B5.out.mono (by omega))).trans (B6.out.mono (by omega))⟩
end Go.Proofs.YthceooehndiglaaDoor.U
