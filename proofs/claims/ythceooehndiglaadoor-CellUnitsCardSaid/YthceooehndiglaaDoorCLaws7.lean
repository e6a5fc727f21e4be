/-
  The walks of CellUnits and CellPlaces.
-/
import Derived.Test.YthceooehndiglaaDoorCRefV
import Derived.Test.YthceooehndiglaaDoorCSame
import Derived.Test.YthceooehndiglaaDoorCAwake
import Derived.Deep.RegionHeld3
namespace Go.Proofs.YthceooehndiglaaDoor.U
open Go.RowKit
set_option linter.unusedVariables false
set_option linter.unusedSimpArgs false

set_option maxRecDepth 100000 in
set_option maxHeartbeats 2000000 in
theorem cellUnits_walk (a : Option Addr) (len cap : Nat) (line : List Int) (t : Int) (w : World) (hr : Rd .i32 w a len cap line) (wt : (Lit.int .i64 t).wf = true) (hg : Gl w) :
    Calls Tryd.prog 4 #[.slice a len cap, .int .i64 t] w fun e w' => e = .returned (.bool true) ∧ Below w.heap.size w w' := by
  have hsm := hr.small
  by_cases hL : 1000 < len
  · clear hr hg
    go_enter Tryd.func4, Tryd.ntmps4
    go_wp2_with fail
    go_ret
    exact ⟨rfl, Below.refl _ _⟩
  obtain ⟨tab, htab⟩ : ∃ tab, tabM t = tab := ⟨_, rfl⟩
  have HUN := Lib.hid (units_any a len cap line t tab htab w hr (by omega) hg)
  have HRUN := Lib.hid (fun (W : World) (hW : Below w.heap.size w W) => runits_any a len cap line t tab htab W (hr.below hW) (by omega))
  have HCS := Lib.hid (fun (W : World) (hW : Below w.heap.size w W) => columns_any a len cap line t tab htab W (hr.below hW) (by omega) (hg.below hg.lt hW))
  have HRCS := Lib.hid (fun (W : World) (hW : Below w.heap.size w W) => rcolumns_any a len cap line t tab htab W (hr.below hW) (by omega))
  have HA := Lib.hid (fun (W : World) (hW : Below w.heap.size w W) => awake_any W (hg.below hg.lt hW))
  clear htab hr hg wt
  go_enter Tryd.func4, Tryd.ntmps4
  go_wp2_with fail
  refine HUN.out.mono ?_
  rintro e w1 ⟨ua, n, uc, vs, rfl, hru, huu, htx, hb1⟩
  have HB1 := Lib.hid hb1
  have HRU := Lib.hid hru
  have HUU := Lib.hid huu
  have HTX := Lib.hid htx
  clear hru huu htx hb1 HUN
  go_wp2_with fail
  refine (HRUN.out _ HB1.out).mono ?_
  rintro e w2 ⟨ub, n2, ud, vs2, rfl, hru2, huu2, htx2, hb2⟩
  have e12 : vs.map UV.u = vs2.map UV.u := by rw [HUU.out, huu2]
  have ht12 : vs.map UV.tx = vs2.map UV.tx := by
    have j1 : vs.map UV.tx = (vs.map UV.u).map (textM line) := by rw [List.map_map]; exact List.map_congr_left (fun x hx => HTX.out x hx)
    have j2 : vs2.map UV.tx = (vs2.map UV.u).map (textM line) := by rw [List.map_map]; exact List.map_congr_left (fun x hx => htx2 x hx)
    rw [j1, j2, e12]
  obtain rfl : n = n2 := by
    have := congrArg List.length e12
    simp only [List.length_map] at this
    rw [← HRU.out.len, ← hru2.len, this]
  have HS := Lib.hid (same_quiet ua ub n uc ud vs vs2 w2 (HRU.out.below hb2) hru2 e12 ht12)
  have HB2 := Lib.hid (HB1.out.trans (hb2.mono HB1.out.size))
  clear hru2 huu2 htx2 hb2 e12 ht12
  go_wp2_with fail
  refine HS.out.mono ?_
  rintro e w3 ⟨rfl, hd⟩
  have HB3 := Lib.hid (HB2.out.trans ((drawn_below hd).mono HB2.out.size))
  clear hd
  go_wp2_with fail
  refine (HCS.out _ HB3.out).mono ?_
  rintro e w4 ⟨rfl, hb4⟩
  have HB4 := Lib.hid (HB3.out.trans (hb4.mono HB3.out.size))
  obtain ⟨q, hq⟩ : ∃ q, endCol (units line tab) = q := ⟨_, rfl⟩
  have HQ := Lib.hid hq
  rw [hq]
  have hqq : ((q : Int) == (q : Int)) = true := by simp
  clear hb4 hq
  go_wp2_with fail
  refine (HRCS.out _ HB4.out).mono ?_
  rintro e w5 ⟨rfl, hb5⟩
  rw [HQ.out]
  have HB5 := Lib.hid (HB4.out.trans (hb5.mono HB4.out.size))
  clear hb5
  go_wp2_with fail
  refine (HA.out _ HB5.out).mono ?_
  rintro e w6 ⟨rfl, hb6⟩
  go_wp2_with fail
  go_ret
  exact ⟨rfl, HB5.out.trans (hb6.mono HB5.out.size)⟩

theorem keep1 {b o : Nat} {v : Value} {B : Nat} {w W W' : World} (h : W.cell? ⟨b, o, none⟩ = some v ∧ Below B w W) (hb : Below W.heap.size W W') (hB : B ≤ w.heap.size) :
    W'.cell? ⟨b, o, none⟩ = some v ∧ Below B w W' :=
  ⟨(hb.cell (p := ⟨b, o, none⟩) (block_lt_of_cell h.1)).trans h.1, h.2.trans (hb.mono (by have := h.2.size; omega))⟩

set_option maxRecDepth 100000 in
set_option maxHeartbeats 4000000 in
theorem cellPlaces_walk (a : Option Addr) (len cap : Nat) (line : List Int) (t x y : Int) (w : World) (hr : Rd .i32 w a len cap line) (wt : (Lit.int .i64 t).wf = true) (wx : (Lit.int .i64 x).wf = true) (wy : (Lit.int .i64 y).wf = true) (hg : Gl w) :
    Calls Tryd.prog 5 #[.slice a len cap, .int .i64 t, .agg #[.int .i64 x, .int .i64 y]] w fun e w' => e = .returned (.bool true) ∧ Below w.heap.size w w' := by
  have hsm := hr.small
  by_cases hL : 1000 < len
  · clear hr hg
    go_enter Tryd.func5, Tryd.ntmps5
    go_wp2_with fail
    go_ret
    exact ⟨rfl, (Below.refl _ _).alloc (Nat.le_refl _) _⟩
  obtain ⟨tab, htab⟩ : ∃ tab, tabM t = tab := ⟨_, rfl⟩
  have HB0 := Lib.hid ((Below.refl w.heap.size w).alloc (Nat.le_refl _) (.cells #[.int .i64 x, .int .i64 y] 33))
  have HCOL := Lib.hid (fun (i : Int) (W : World) (hW : Below w.heap.size w W) => col_any a len cap line t tab htab i W (hr.below hW) (by omega) (hg.below hg.lt hW))
  have HRCOL := Lib.hid (fun (i : Int) (W : World) (hW : Below w.heap.size w W) => rcol_any a len cap line t tab htab i W (hr.below hW) (by omega))
  obtain ⟨q, hq⟩ : ∃ q, atM (units line tab) len y = q := ⟨_, rfl⟩
  have HAT : Hid (∀ (W : World), Below w.heap.size w W → Calls Tryd.prog 23 #[.slice a len cap, .int .i64 t, .int .i64 y] W fun e w' => e = .returned (.int .i64 q) ∧ Below W.heap.size W w') := by
    intro W hW
    have h := at_any a len cap line t tab htab y W (hr.below hW) (by omega) (hg.below hg.lt hW)
    rw [hq] at h
    exact h
  have HRAT : Hid (∀ (W : World), Below w.heap.size w W → Calls Tryd.prog 24 #[.slice a len cap, .int .i64 t, .int .i64 y] W fun e w' => e = .returned (.int .i64 q) ∧ Below W.heap.size W w') := by
    intro W hW
    have h := rat_any a len cap line t tab htab y W (hr.below hW) (by omega)
    rw [hq] at h
    exact h
  have HA := Lib.hid (fun (W : World) (hW : Below w.heap.size w W) => awake_any W (hg.below hg.lt hW))
  have hqq : ((q : Int) == (q : Int)) = true := by simp
  clear htab hr hg wt hq
  go_enter Tryd.func5, Tryd.ntmps5
  go_wp2_with fail
  refine (HCOL.out _ _ HB0.out).mono ?_
  rintro e w1 ⟨⟨c, d, rfl, hcd⟩, hb1⟩
  have HB1 := Lib.hid (HB0.out.trans (hb1.mono (by simp)))
  have c0 : w1.cell? ⟨w.heap.size, 0, none⟩ = some (.int .i64 x) := by rw [hb1.cell (p := ⟨w.heap.size, 0, none⟩) (by simp)]; go_simp
  have c1 : w1.cell? ⟨w.heap.size, 1, none⟩ = some (.int .i64 y) := by rw [hb1.cell (p := ⟨w.heap.size, 1, none⟩) (by simp)]; go_simp
  have hl1 := block_lt_of_cell c0
  have HCD := Lib.hid hcd
  clear hcd hb1
  go_wp2_with fail
  refine (HRCOL.out _ _ HB1.out).mono ?_
  rintro e w2 ⟨⟨c', d', rfl, hcd⟩, hb2⟩
  rw [HCD.out] at hcd
  simp only [Prod.mk.injEq] at hcd
  obtain ⟨rfl, rfl⟩ := hcd
  have hB2 := HB1.out.trans (hb2.mono HB1.out.size)
  have k1 : w2.cell? ⟨w.heap.size, 1, none⟩ = some (.int .i64 y) := (hb2.cell (p := ⟨w.heap.size, 1, none⟩) hl1).trans c1
  have HB2 := Lib.hid hB2
  have e1 : ((c : Int) == (c : Int)) = true := by simp
  have e2 : ((d : Int) == (d : Int)) = true := by simp
  clear c0 c1 hb2 hl1
  go_wp2_with fail
  go_region_held3 (fun w' => w'.cell? ⟨w.heap.size, 1, none⟩ = some (.int .i64 y) ∧ Below w.heap.size w w')
    (first | exact ⟨k1, hB2.drew⟩ | (refine keep1 ?_ hb5 (Nat.le_refl _); first | assumption | exact ⟨by assumption, by assumption⟩) | (refine keep1 ?_ hb4 (Nat.le_refl _); first | assumption | exact ⟨by assumption, by assumption⟩) | (refine keep1 ?_ hb3 (Nat.le_refl _); first | assumption | exact ⟨by assumption, by assumption⟩) | go_keep)
    (first
      | (go_at_call 23; refine (HAT.out _ (by first | assumption | exact hB2.drew | exact hB2.drew.trans (hb3.mono hB2.drew.size) | exact (hB2.drew.trans (hb3.mono hB2.drew.size)).trans (hb4.mono (hB2.drew.trans (hb3.mono hB2.drew.size)).size) | exact (And.right (by assumption)))).mono ?_; rintro e w3 ⟨rfl, hb3⟩)
      | (go_at_call 24; refine (HRAT.out _ (by first | assumption | exact hB2.drew | exact hB2.drew.trans (hb3.mono hB2.drew.size) | exact (hB2.drew.trans (hb3.mono hB2.drew.size)).trans (hb4.mono (hB2.drew.trans (hb3.mono hB2.drew.size)).size) | exact (And.right (by assumption)))).mono ?_; rintro e w4 ⟨rfl, hb4⟩)
      | (go_at_call 15; refine (HA.out _ (by first | assumption | exact hB2.drew | exact hB2.drew.trans (hb3.mono hB2.drew.size) | exact (hB2.drew.trans (hb3.mono hB2.drew.size)).trans (hb4.mono (hB2.drew.trans (hb3.mono hB2.drew.size)).size) | exact (And.right (by assumption)))).mono ?_; rintro e w5 ⟨rfl, hb5⟩))
  all_goals
    go_wp2_with fail
    go_ret
    exact ⟨rfl, by first | assumption | exact ((hB2.drew.trans (hb3.mono hB2.drew.size)).trans (hb4.mono (hB2.drew.trans (hb3.mono hB2.drew.size)).size)).trans (hb5.mono ((hB2.drew.trans (hb3.mono hB2.drew.size)).trans (hb4.mono (hB2.drew.trans (hb3.mono hB2.drew.size)).size)).size)⟩
end Go.Proofs.YthceooehndiglaaDoor.U
