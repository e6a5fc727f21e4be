/-
  Chapter 12's examples.
-/
import Derived.Test.YtleidcegbfnmkaaHAwk
import Derived.Deep.RegionHeld3
namespace Go.Proofs.Ytleidcegbfnmkaa.U
open Go.RowKit
set_option linter.unusedVariables false
set_option linter.unusedSimpArgs false
set_option maxRecDepth 100000

set_option maxHeartbeats 8000000 in
theorem awake_any (w : World) : Calls Try.prog 19 #[] w fun e w' => e = .returned (.bool true) ∧ Below w.heap.size w w' := by
  have HNEW := Lib.hid (new_aw w w (Below.refl _ _))
  obtain ⟨b, hbe⟩ : ∃ b, w.heap.size = b := ⟨_, rfl⟩
  have HBE := Lib.hid hbe
  rw [hbe] at HNEW
  clear hbe
  go_enter Try.func19, Try.ntmps19
  go_upto_region 4 with (go_at_call 9; (with_reducible refine HNEW.out.mono ?_); rintro e w1 ⟨rfl, H1⟩)
  have HC : Hid (∀ W, Calls Try.prog 20 #[.string ⟨#[120, 121]⟩] W fun e w' => ∃ a c, e = .returned (.agg #[.int .i64 0, .slice a 1 c]) ∧ Hid (RdL (fun k => W.heap.size ≤ k) w' a 1 c [[120, 121]] ∧ Below W.heap.size W w')) := chr1
  have HP : Hid (∀ W a c, (AwG w W b [] (fun _ => False) ∧ ∃ F, RdL F W a 1 c [[120, 121]]) → Calls Try.prog 15 #[.pointer (some ⟨b, 0, none⟩), .int .i32 97, .agg #[.int .i64 0, .slice a 1 c], .bool false] W fun e w' => e = .returned (.int .i64 0) ∧ Hid (AwG w w' b sA1 (fun _ => False) ∧ Fr (fun k => ¬ False) W w')) := fun W a c h => h.1.put1 h.2 (by decide) rfl pA1
  go_upto_region 5 with (first
    | (go_at_call 20; (with_reducible refine (HC.out _).mono ?_); rintro e w2 ⟨a2, c2, rfl, H2⟩)
    | (go_at_call 15; (with_reducible refine (HP.out _ _ _ ⟨H1.out.1.below H2.out.2, _, H2.out.1⟩).mono ?_); rintro e w3 ⟨rfl, H3⟩))
  have H3' : Hid (AwG w w3 b sA1 (fun _ => False)) := H3.out.1
  clear HC HP H1 H2 H3
  have HC : Hid (∀ W, Calls Try.prog 39 #[.string ⟨#[122]⟩] W fun e w' => ∃ a c, e = .returned (.agg #[.int .i64 1, .slice a 1 c]) ∧ Hid (RdL (fun k => W.heap.size ≤ k) w' a 1 c [[122]] ∧ Below W.heap.size W w')) := lin1
  have HP : Hid (∀ W a c, (AwG w W b sA1 (fun _ => False) ∧ ∃ F, RdL F W a 1 c [[122]]) → Calls Try.prog 15 #[.pointer (some ⟨b, 0, none⟩), .int .i32 65, .agg #[.int .i64 1, .slice a 1 c], .bool false] W fun e w' => e = .returned (.int .i64 0) ∧ Hid (AwG w w' b sA2 (fun _ => False) ∧ Fr (fun k => ¬ False) W w')) := fun W a c h => h.1.put1 h.2 (by decide) rfl pA2
  go_upto_region 6 with (first
    | (go_at_call 39; (with_reducible refine (HC.out _).mono ?_); rintro e w4 ⟨a4, c4, rfl, H4⟩)
    | (go_at_call 15; (with_reducible refine (HP.out _ _ _ ⟨H3'.out.below H4.out.2, _, H4.out.1⟩).mono ?_); rintro e w5 ⟨rfl, H5⟩))
  have H5' : Hid (AwG w w5 b sA2 (fun _ => False)) := H5.out.1
  clear HC HP H3' H4 H5
  have HG : Hid (Calls Try.prog 11 #[.pointer (some ⟨b, 0, none⟩), .int .i32 97] w5 fun e w' => ∃ a c, e = .returned (.tuple #[.agg #[.int .i64 1, .slice a 2 c], .int .i64 0]) ∧ Hid (FreshL w5.heap.size w' a 2 c [[120, 121], [122]] ∧ (∀ x ∈ ([[120, 121], [122]] : List (List Int)), ∀ y ∈ x, (Lit.int .i32 y).wf = true) ∧ Below w5.heap.size w5 w')) := H5'.out.get rfl gA2
  go_upto_region 7 with (go_at_call 11; (with_reducible refine HG.out.mono ?_); rintro e w6 ⟨a6, c6, rfl, H6⟩)
  obtain ⟨wb, hwb⟩ : ∃ wb, w6.alloc (.cells #[.int .i64 1, .slice a6 2 c6] 31) = wb := ⟨_, rfl⟩
  obtain ⟨g4, hg4⟩ : ∃ g, w6.heap.size = g := ⟨_, rfl⟩
  have HD1 : Hid (AwG w wb b sA2 (fun k => w5.heap.size ≤ k ∧ k < wb.heap.size) ∧ RdL (fun k => w5.heap.size ≤ k ∧ k < wb.heap.size) wb a6 2 c6 [[120, 121], [122]] ∧ wb.heap[g4]? = some (.cells #[.int .i64 1, .slice a6 2 c6] 31 (0, 0)) ∧ w5.heap.size ≤ g4) := by
    have hbb : Below w5.heap.size w5 wb := by rw [← hwb]; exact H6.out.2.2.alloc H6.out.2.2.size _
    have hr := ((H6.out.1.rdl H6.out.2.1).boundG).below (w' := wb) (by rw [← hwb]; exact (Below.refl _ _).alloc (Nat.le_refl _) _)
    have hs : w6.heap.size < wb.heap.size := by rw [← hwb]; simp
    refine ⟨H5'.out.turn hbb (fun k hk => ⟨.inr hk.1, hk.2⟩), hr.mono (fun k hk => ⟨hk.1, by omega⟩), ?_, ?_⟩
    · rw [← hwb, ← hg4]; exact heap_alloc_new w6 _
    · rw [← hg4]; exact H6.out.2.2.size
  rw [hwb, hg4]
  clear HG H5' H6 hwb hg4
  have HC : Hid (∀ W, Calls Try.prog 39 #[.string ⟨#[108]⟩] W fun e w' => ∃ a c, e = .returned (.agg #[.int .i64 1, .slice a 1 c]) ∧ Hid (RdL (fun k => W.heap.size ≤ k) w' a 1 c [[108]] ∧ Below W.heap.size W w')) := lin2
  have HP : Hid (∀ W a c, (AwG w W b sA2 (fun k => w5.heap.size ≤ k ∧ k < wb.heap.size) ∧ ∃ F, RdL F W a 1 c [[108]]) → Calls Try.prog 15 #[.pointer (some ⟨b, 0, none⟩), .int .i32 0, .agg #[.int .i64 1, .slice a 1 c], .bool true] W fun e w' => e = .returned (.int .i64 0) ∧ Hid (AwG w w' b sA3 (fun k => w5.heap.size ≤ k ∧ k < wb.heap.size) ∧ Fr (fun k => ¬ (w5.heap.size ≤ k ∧ k < wb.heap.size)) W w')) := fun W a c h => h.1.put1 h.2 (by decide) rfl pA3
  go_upto_region 8 with (first
    | (go_at_call 39; (with_reducible refine (HC.out _).mono ?_); rintro e w7 ⟨a7, c7, rfl, H7⟩)
    | (go_at_call 15; (with_reducible refine (HP.out _ _ _ ⟨HD1.out.1.below H7.out.2, _, H7.out.1⟩).mono ?_); rintro e w8 ⟨rfl, H8⟩))
  have HK8 : Hid (Fr (fun k => ¬ (w5.heap.size ≤ k ∧ k < wb.heap.size)) wb w8) := (Fr.of_below _ H7.out.2).trans H8.out.2 (fun _ _ h => h)
  have H8' : Hid (AwG w w8 b sA3 (fun k => w5.heap.size ≤ k ∧ k < wb.heap.size)) := H8.out.1
  clear HC HP H7 H8
  have HC : Hid (∀ W, Calls Try.prog 39 #[.string ⟨#[109]⟩] W fun e w' => ∃ a c, e = .returned (.agg #[.int .i64 1, .slice a 1 c]) ∧ Hid (RdL (fun k => W.heap.size ≤ k) w' a 1 c [[109]] ∧ Below W.heap.size W w')) := lin3
  have HP : Hid (∀ W a c, (AwG w W b sA3 (fun k => w5.heap.size ≤ k ∧ k < wb.heap.size) ∧ ∃ F, RdL F W a 1 c [[109]]) → Calls Try.prog 15 #[.pointer (some ⟨b, 0, none⟩), .int .i32 0, .agg #[.int .i64 1, .slice a 1 c], .bool true] W fun e w' => e = .returned (.int .i64 0) ∧ Hid (AwG w w' b sA4 (fun k => w5.heap.size ≤ k ∧ k < wb.heap.size) ∧ Fr (fun k => ¬ (w5.heap.size ≤ k ∧ k < wb.heap.size)) W w')) := fun W a c h => h.1.put1 h.2 (by decide) rfl pA4
  go_upto_region 9 with (first
    | (go_at_call 39; (with_reducible refine (HC.out _).mono ?_); rintro e w9 ⟨a9, c9, rfl, H9⟩)
    | (go_at_call 15; (with_reducible refine (HP.out _ _ _ ⟨H8'.out.below H9.out.2, _, H9.out.1⟩).mono ?_); rintro e wA ⟨rfl, HA⟩))
  have HKA : Hid (Fr (fun k => ¬ (w5.heap.size ≤ k ∧ k < wb.heap.size)) wb wA) := HK8.out.trans ((Fr.of_below _ H9.out.2).trans HA.out.2 (fun _ _ h => h)) (fun _ _ h => h)
  have hKAs : Hid (wb.heap.size ≤ wA.heap.size) := HKA.out.size
  have HA' : Hid (AwG w wA b sA4 (fun k => w5.heap.size ≤ k ∧ k < wb.heap.size)) := HA.out.1
  clear HC HP H9 HA H8' HK8
  have HG : Hid (Calls Try.prog 11 #[.pointer (some ⟨b, 0, none⟩), .int .i32 50] wA fun e w' => ∃ a c, e = .returned (.tuple #[.agg #[.int .i64 1, .slice a 1 c], .int .i64 0]) ∧ Hid (FreshL wA.heap.size w' a 1 c [[108]] ∧ (∀ x ∈ ([[108]] : List (List Int)), ∀ y ∈ x, (Lit.int .i32 y).wf = true) ∧ Below wA.heap.size wA w')) := HA'.out.get rfl gA4
  go_upto_region 10 with (go_at_call 11; (with_reducible refine HG.out.mono ?_); rintro e wC ⟨aC, cC, rfl, HCC⟩)
  obtain ⟨wD, hwD⟩ : ∃ wD, wC.alloc (.cells #[.int .i64 1, .slice aC 1 cC] 31) = wD := ⟨_, rfl⟩
  obtain ⟨gC, hgC⟩ : ∃ g, wC.heap.size = g := ⟨_, rfl⟩
  have HDD : Hid (AwG w wD b sA4 (fun k => k = g4 ∨ k = gC) ∧ (∃ F, RdL F wD a6 2 c6 [[120, 121], [122]]) ∧ (∃ F, RdL F wD aC 1 cC [[108]]) ∧ wD.heap[g4]? = some (.cells #[.int .i64 1, .slice a6 2 c6] 31 (0, 0)) ∧ wD.heap[gC]? = some (.cells #[.int .i64 1, .slice aC 1 cC] 31 (0, 0))) := by
    obtain ⟨k1, k2, k3, k4⟩ := HD1.out
    have hbD : Below wA.heap.size wA wD := by rw [← hwD]; exact HCC.out.2.2.alloc HCC.out.2.2.size _
    have hsz : wC.heap.size < wD.heap.size := by rw [← hwD]; simp
    have hsA := HCC.out.2.2.size
    have h4 := heap_lt k3
    have hfD : Fr (fun k => ¬ (w5.heap.size ≤ k ∧ k < wb.heap.size)) wb wD := HKA.out.trans (Fr.of_below _ hbD) (fun _ _ h => h)
    refine ⟨HA'.out.turn hbD (fun k hk => ?_), ⟨_, k2.frF hfD (fun k q1 q2 => q2 q1)⟩, ⟨_, ((HCC.out.1.rdl HCC.out.2.1).below (w' := wD) (by rw [← hwD]; exact (Below.refl _ _).alloc (Nat.le_refl _) _))⟩, (hfD.block g4 h4 (fun q => q ⟨k4, h4⟩)).trans k3, ?_⟩
    · have := hKAs.out
      rcases hk with rfl | rfl
      · exact ⟨.inl ⟨k4, h4⟩, by omega⟩
      · exact ⟨.inr (by omega), by omega⟩
    · rw [← hwD, ← hgC]; exact heap_alloc_new wC _
  rw [hwD, hgC]
  clear HD1 HKA HA' HG HCC hwD hgC hKAs
  obtain ⟨B1, x1, x2, r1, r2⟩ := HDD.out
  have HA0 : Hid (AwG w wD b sA4 (fun k => k = g4 ∨ k = gC)) := B1
  have KS : Hid (∀ W, Below wD.heap.size wD W → (W.cell? ⟨g4, 0, none⟩ = some (.int .i64 1) ∧ W.cell? ⟨g4, 1, none⟩ = some (.slice a6 2 c6) ∧ W.cell? ⟨gC, 0, none⟩ = some (.int .i64 1) ∧ W.cell? ⟨gC, 1, none⟩ = some (.slice aC 1 cC))) := by
    intro W hW
    have e1 := (hW.block g4 (heap_lt r1)).trans r1
    have e2 := (hW.block gC (heap_lt r2)).trans r2
    exact ⟨cell_row e1 0, cell_row e1 1, cell_row e2 0, cell_row e2 1⟩
  have HXY : Hid (Calls Try.prog 13 #[.agg #[.int .i64 1, .slice a6 2 c6], .agg #[.int .i64 1, .slice (some ⟨wD.heap.size + 1 + 1, 0, none⟩) 2 2]] (((wD.alloc (.cells #[.int .i32 120, .int .i32 121] 21)).alloc (.cells #[.int .i32 122] 21)).alloc (.cells #[.slice (some ⟨wD.heap.size, 0, none⟩) 2 2, .slice (some ⟨wD.heap.size + 1, 0, none⟩) 1 1] 39)).drew fun e w' => e = .returned (.bool true) ∧ Hid (Below wD.heap.size wD w')) := by
    obtain ⟨F, hx⟩ := x1
    have hb : Below wD.heap.size wD (((wD.alloc (.cells #[.int .i32 120, .int .i32 121] 21)).alloc (.cells #[.int .i32 122] 21)).alloc (.cells #[.slice (some ⟨wD.heap.size, 0, none⟩) 2 2, .slice (some ⟨wD.heap.size + 1, 0, none⟩) 1 1] 39)).drew := ((((Below.refl _ _).alloc (Nat.le_refl _) _).alloc (by simp) _).alloc (by simp; omega) _).drew
    refine (rsameR_any F _ 1 1 a6 _ 2 2 c6 2 _ _ _ (hx.below hb) ((rdl_lit2 wD [120, 121] [122] _ _ 2 1 rfl rfl rfl rfl (by unfold maxLen; omega) (by unfold maxLen; omega) (by decide) (by decide)).below (Below.refl _ _).drew)).mono ?_
    rintro e w' ⟨rfl, h⟩
    exact ⟨by simp, hb.trans (h.mono hb.size)⟩
  have HYX : Hid (Calls Try.prog 13 #[.agg #[.int .i64 1, .slice a6 2 c6], .agg #[.int .i64 1, .slice (some ⟨wD.heap.size + 1 + 1, 0, none⟩) 2 2]] (((wD.alloc (.cells #[.int .i32 122] 21)).alloc (.cells #[.int .i32 120, .int .i32 121] 21)).alloc (.cells #[.slice (some ⟨wD.heap.size + 1, 0, none⟩) 2 2, .slice (some ⟨wD.heap.size, 0, none⟩) 1 1] 39)).drew fun e w' => e = .returned (.bool true) ∧ Hid (Below wD.heap.size wD w')) := by
    obtain ⟨F, hx⟩ := x1
    have hb : Below wD.heap.size wD (((wD.alloc (.cells #[.int .i32 122] 21)).alloc (.cells #[.int .i32 120, .int .i32 121] 21)).alloc (.cells #[.slice (some ⟨wD.heap.size + 1, 0, none⟩) 2 2, .slice (some ⟨wD.heap.size, 0, none⟩) 1 1] 39)).drew := ((((Below.refl _ _).alloc (Nat.le_refl _) _).alloc (by simp) _).alloc (by simp; omega) _).drew
    refine (rsameR_any F _ 1 1 a6 _ 2 2 c6 2 _ _ _ (hx.below hb) ((rdl_lit2s wD [120, 121] [122] _ _ 2 1 rfl rfl rfl rfl (by unfold maxLen; omega) (by unfold maxLen; omega) (by decide) (by decide)).below (Below.refl _ _).drew)).mono ?_
    rintro e w' ⟨rfl, h⟩
    exact ⟨by simp, hb.trans (h.mono hb.size)⟩
  have HLN : Hid (∀ W, Hid (Below wD.heap.size wD W) → Calls Try.prog 39 #[.string ⟨#[108]⟩] W fun e w' => ∃ a c, e = .returned (.agg #[.int .i64 1, .slice a 1 c]) ∧ Hid (Below wD.heap.size wD w') ∧ Hid (∃ F, RdL F w' a 1 c [[108]])) := by
    intro W hW
    refine (lin2 W).mono ?_
    rintro e w' ⟨a, c, rfl, h⟩
    exact ⟨a, c, rfl, hW.out.trans (h.out.2.mono hW.out.size), _, h.out.1⟩
  have HSB : Hid (∀ W a c, Hid (Below wD.heap.size wD W) → Hid (∃ F, RdL F W a 1 c [[108]]) → Calls Try.prog 13 #[.agg #[.int .i64 1, .slice aC 1 cC], .agg #[.int .i64 1, .slice a 1 c]] W fun e w' => e = .returned (.bool true) ∧ Hid (Below wD.heap.size wD w')) := by
    intro W a c hW hr
    obtain ⟨F, hx⟩ := x2
    obtain ⟨F2, hr2⟩ := hr.out
    refine (rsameR_any F F2 1 1 aC a 1 1 cC c _ _ W (hx.below hW.out) hr2).mono ?_
    rintro e w' ⟨rfl, h⟩
    exact ⟨by simp, hW.out.trans (h.mono hW.out.size)⟩
  have HCH : Hid (∀ W, Hid (Below wD.heap.size wD W) → Calls Try.prog 20 #[.string ⟨#[]⟩] W fun e w' => ∃ a c, e = .returned (.agg #[.int .i64 0, .slice a 1 c]) ∧ Hid (Below wD.heap.size wD w') ∧ Hid (∃ F, RdL F w' a 1 c [[]])) := by
    intro W hW
    refine (chr0 W).mono ?_
    rintro e w' ⟨a, c, rfl, h⟩
    exact ⟨a, c, rfl, hW.out.trans (h.out.2.mono hW.out.size), _, h.out.1⟩
  have HPP : Hid (∀ W a c, Hid (Below wD.heap.size wD W) → Hid (∃ F, RdL F W a 1 c [[]]) → Calls Try.prog 15 #[.pointer (some ⟨b, 0, none⟩), .int .i32 49, .agg #[.int .i64 0, .slice a 1 c], .bool false] W fun e w' => e = .returned (.int .i64 1) ∧ Hid (Below w.heap.size w w' ∧ (w'.cell? ⟨g4, 0, none⟩ = some (.int .i64 1) ∧ w'.cell? ⟨g4, 1, none⟩ = some (.slice a6 2 c6) ∧ w'.cell? ⟨gC, 0, none⟩ = some (.int .i64 1) ∧ w'.cell? ⟨gC, 1, none⟩ = some (.slice aC 1 cC)))) := by
    intro W a c hW hr
    refine ((HA0.out.below hW.out).put1 hr.out (by decide) rfl pA5).mono ?_
    rintro e w' ⟨rfl, h⟩
    have hsW := hW.out.size
    have e1 := ((h.out.2.block g4 (by have := heap_lt r1; omega) (fun q => q (.inl rfl))).trans (hW.out.block g4 (heap_lt r1))).trans r1
    have e2 := ((h.out.2.block gC (by have := heap_lt r2; omega) (fun q => q (.inr rfl))).trans (hW.out.block gC (heap_lt r2))).trans r2
    exact ⟨rfl, h.out.1.bel, cell_row e1 0, cell_row e1 1, cell_row e2 0, cell_row e2 1⟩
  clear x1 x2 r1 r2 B1 HDD
  have q0 := KS.out wD (Below.refl _ _)
  obtain ⟨q0, q1, q2, q3⟩ := q0
  go_region_held3 (fun W => (W.cell? ⟨g4, 0, none⟩ = some (.int .i64 1) ∧ W.cell? ⟨g4, 1, none⟩ = some (.slice a6 2 c6) ∧ W.cell? ⟨gC, 0, none⟩ = some (.int .i64 1) ∧ W.cell? ⟨gC, 1, none⟩ = some (.slice aC 1 cC)))
    (first | exact HQ5.out.2 | exact KS.out _ B14.out | exact KS.out _ B13.out | exact KS.out _ B12.out | exact KS.out _ B11.out | exact KS.out _ (Below.refl _ _) | exact KS.out _ (Below.refl _ _).drew | exact KS.out _ ((Below.refl _ _).alloc (Nat.le_refl _) _).drew | exact KS.out _ (((Below.refl _ _).alloc (Nat.le_refl _) _).alloc (by simp) _).drew | exact KS.out _ ((((Below.refl _ _).alloc (Nat.le_refl _) _).alloc (by simp) _).alloc (by simp; omega) _).drew)
    (first
      | (go_at_call 13; (with_reducible refine (HSB.out _ _ _ B12 R12).mono ?_); rintro e w13 ⟨rfl, B13⟩)
      | (go_at_call 13; (with_reducible refine HXY.out.mono ?_); rintro e w11 ⟨rfl, B11⟩)
      | (go_at_call 13; (with_reducible refine HYX.out.mono ?_); rintro e w11 ⟨rfl, B11⟩)
      | (go_at_call 39; (with_reducible refine (HLN.out _ B11).mono ?_); rintro e w12 ⟨aL, cL, rfl, B12, R12⟩)
      | (go_at_call 20; (with_reducible refine (HCH.out _ B13).mono ?_); rintro e w14 ⟨aM, cM, rfl, B14, R14⟩)
      | (go_at_call 15; (with_reducible refine (HPP.out _ _ _ B14 R14).mono ?_); rintro e w15 ⟨rfl, HQ5⟩))
  all_goals
    go_wp2_with fail
    go_ret
    exact ⟨rfl, HQ5.out.1⟩
end Go.Proofs.Ytleidcegbfnmkaa.U
