/-
  The walk of CellBack.
-/
import Derived.Test.YthceooehndiglaaDoorCLaws2
import Derived.Deep.RegionHeld3
namespace Go.Proofs.YthceooehndiglaaDoor.U
open Go.RowKit
set_option linter.unusedVariables false
set_option linter.unusedSimpArgs false

theorem pre_le {line : List Int} {tab : Nat} : ∀ (n : Nat) (pre : List Un), pre.length = n → pre <+: units line tab → ∀ u ∈ pre, u.to ≤ lastTo pre ∧ u.col + u.wd ≤ endCol pre
  | 0, pre, hn, _ => by
    obtain rfl := List.eq_nil_of_length_eq_zero hn
    simp
  | n + 1, pre, hn, h => by
    rcases snoc_cases pre with rfl | ⟨p, x, rfl⟩
    · simp at hn
    · obtain ⟨h1, h2, h3, h4, h5, _⟩ := next_unit h
      have ih := pre_le n p (by simpa using hn) (prefix_left h)
      intro u hu
      rw [endCol_snoc, lastTo_snoc]
      have h2' : x.fr = lastTo p := h2
      rcases List.mem_append.1 hu with hu | hu
      · have := ih u hu; omega
      · simp only [List.mem_singleton] at hu; subst hu; omega
theorem col_of_unit {line : List Int} {tab n i k : Nat} (hn : (units line tab).length = n) (hi : i < n) {u : Un} (hu : (units line tab).getD i default = u) (h1 : u.fr ≤ k) (h2 : k < u.to) : colM (units line tab) (k : Int) = (u.col, u.wd) := by
  have hp := unit_facts hn hi hu
  obtain ⟨q1, q2, _⟩ := next_unit hp
  have q2' : u.fr = lastTo ((units line tab).take i) := q2
  exact colM_hit hp (fun v hv => by have := pre_le _ _ rfl (prefix_left hp) v hv; omega) (by omega)
theorem at_of_unit {line : List Int} {tab n i k m : Nat} (hn : (units line tab).length = n) (hi : i < n) {u : Un} (hu : (units line tab).getD i default = u) (h2 : k < u.wd) : atM (units line tab) m ((u.col : Int) + (k : Int)) = u.fr := by
  have hp := unit_facts hn hi hu
  obtain ⟨q1, q2, _⟩ := next_unit hp
  exact atM_hit hp (fun v hv => by have := pre_le _ _ rfl (prefix_left hp) v hv; omega) (by omega)
theorem at_end {line : List Int} {tab m : Nat} : atM (units line tab) m (endCol (units line tab) : Nat) = m :=
  atM_none (fun v hv => by have := pre_le _ _ rfl (List.prefix_refl _) v hv; omega)

theorem keep2 {b o1 o2 : Nat} {v1 v2 : Value} {B : Nat} {w W W' : World} (h : W.cell? ⟨b, o1, none⟩ = some v1 ∧ W.cell? ⟨b, o2, none⟩ = some v2 ∧ Below B w W) (hb : Below W.heap.size W W') (hB : B ≤ w.heap.size) :
    W'.cell? ⟨b, o1, none⟩ = some v1 ∧ W'.cell? ⟨b, o2, none⟩ = some v2 ∧ Below B w W' := by
  obtain ⟨h1, h2, h3⟩ := h
  have hlt := block_lt_of_cell h1
  exact ⟨(hb.cell (p := ⟨b, o1, none⟩) hlt).trans h1, (hb.cell (p := ⟨b, o2, none⟩) hlt).trans h2, h3.trans (hb.mono (by have := h3.size; omega))⟩

set_option maxRecDepth 100000 in
set_option maxHeartbeats 4000000 in
theorem cellBack_walk (a : Option Addr) (len cap : Nat) (line : List Int) (t : Int) (w : World) (hr : Rd .i32 w a len cap line) (wt : (Lit.int .i64 t).wf = true) (hg : Gl w) :
    Calls Tryd.prog 8 #[.slice a len cap, .int .i64 t] w fun e w' => e = .returned (.bool true) ∧ Below w.heap.size w w' := by
  have hsm := hr.small
  by_cases hL : 1000 < len
  · clear hr hg
    go_enter Tryd.func8, Tryd.ntmps8
    go_wp2_with fail
    go_ret
    exact ⟨rfl, Below.refl _ _⟩
  obtain ⟨tab, htab⟩ : ∃ tab, tabM t = tab := ⟨_, rfl⟩
  have hT := tabM_in t
  rw [htab] at hT
  have HUN := Lib.hid (units_any a len cap line t tab htab w hr (by omega) hg)
  have HCOL := Lib.hid (fun (i : Int) (W : World) (hW : Below w.heap.size w W) => col_any a len cap line t tab htab i W (hr.below hW) (by omega) (hg.below hg.lt hW))
  have HAT := Lib.hid (fun (i : Int) (W : World) (hW : Below w.heap.size w W) => at_any a len cap line t tab htab i W (hr.below hW) (by omega) (hg.below hg.lt hW))
  have HCS := Lib.hid (fun (W : World) (hW : Below w.heap.size w W) => columns_any a len cap line t tab htab W (hr.below hW) (by omega) (hg.below hg.lt hW))
  have HA := Lib.hid (fun (W : World) (hW : Below w.heap.size w W) => awake_any W (hg.below hg.lt hW))
  have HLL := Lib.hid hr.len
  clear htab hr hg wt
  go_enter Tryd.func8, Tryd.ntmps8
  go_wp2_with fail
  refine HUN.out.mono ?_
  rintro e w1 ⟨ua, n, uc, vs, rfl, hru, huu, htx, hb1⟩
  have hnl := units_len huu hru.len
  have hns := hru.small
  have HRU := Lib.hid hru
  have HUU := Lib.hid huu
  have HB1 := Lib.hid hb1
  have HNL := Lib.hid hnl
  clear hru huu hb1 htx hnl HUN
  have fin : ∀ wr : World, Below w1.heap.size w1 wr → Below w.heap.size w wr := fun wr h => HB1.out.trans (h.mono HB1.out.size)
  have HFIN := Lib.hid fin; clear fin
  by_cases hn0 : n = 0
  · subst hn0
    go_wp2_with fail
    go_loopw [6] (fun i wr => i = .int .i64 0 ∧ wr = w1) (fun _ _ => 0)
    case atStart => exact ⟨rfl, rfl⟩
    case round =>
      obtain ⟨rfl, rfl⟩ := hrel
      go_wp2_with fail
      refine (HCS.out _ HB1.out).mono ?_
      rintro e w2 ⟨rfl, hb2⟩
      have HB2 := Lib.hid (HB1.out.trans (hb2.mono HB1.out.size))
      have hee := Lib.hid (at_end (line := line) (tab := tab) (m := len))
      obtain ⟨ec, hec⟩ : ∃ ec, endCol (units line tab) = ec := ⟨_, rfl⟩
      rw [hec] at hee ⊢
      clear hb2 hec
      go_wp2_with fail
      refine (HAT.out _ _ HB2.out).mono ?_
      rintro e w3 ⟨rfl, hb3⟩
      rw [hee.out]
      have HB3 := Lib.hid (HB2.out.trans (hb3.mono HB2.out.size))
      have hll : ((len : Int) == (len : Int)) = true := by simp
      clear hb3
      go_wp2_with fail
      refine (HA.out _ HB3.out).mono ?_
      rintro e w4 ⟨rfl, hb4⟩
      go_wp2_with fail
      go_ret
      exact ⟨rfl, HB3.out.trans (hb4.mono HB3.out.size)⟩
  obtain ⟨b, off, rfl, hbl⟩ := rdu_some HRU.out (by omega)
  go_wp2_with fail
  go_loopw [6] (fun i wr => ∃ k : Nat, k ≤ n ∧ i = .int .i64 k ∧ Below w1.heap.size w1 wr) (fun i _ => n - (intOf i).toNat)
  case atStart => exact ⟨0, by omega, rfl, Below.refl _ _⟩
  case round =>
    obtain ⟨k, hk, rfl, hbw⟩ := hrel
    by_cases hlt : k < n
    · obtain ⟨⟨⟨f, g, c, d⟩, ta, tl, tc, tx⟩, hmem, hux, c0, c1, c2, c3, c4, -⟩ := unit_cells (HRU.out.below hbw) HUU.out hlt
      obtain ⟨q1, q2, q3, q4, q5, q6, -, -⟩ := next_unit (unit_facts HNL.out hlt hux)
      have hcb := pre_bound hT (unit_facts HNL.out hlt hux)
      rw [endCol_snoc] at hcb
      simp only at q1 q2 q3 q4 q5 q6 c0 c1 c2 c3 c4 hcb
      rw [HLL.out] at q4 hcb
      have HC := Lib.hid (fun (m : Nat) (h1 : f ≤ m) (h2 : m < g) => col_of_unit HNL.out hlt hux (k := m) h1 h2)
      have HAU := Lib.hid (fun (m : Nat) (h2 : m < d) => at_of_unit HNL.out hlt hux (k := m) (m := len) h2)
      have HCELLS := Lib.hid (fun (W : World) (hW : Below w1.heap.size w1 W) => unit_cells (HRU.out.below hW) HUU.out hlt)
      have HUX := Lib.hid hux
      have HBW := Lib.hid hbw
      have hcells : ∀ W : World, Below w1.heap.size w1 W → W.cell? ⟨b, off + k * 5, none⟩ = some (.int .i64 f) ∧ W.cell? ⟨b, off + k * 5 + 1, none⟩ = some (.int .i64 g) ∧ W.cell? ⟨b, off + k * 5 + 2, none⟩ = some (.int .i64 c) ∧ W.cell? ⟨b, off + k * 5 + 3, none⟩ = some (.int .i64 d) := by
        intro W hW
        have hlt2 : b < w1.heap.size := hbl
        obtain ⟨y, _, hy, k0, k1, k2, k3, _, _⟩ := HCELLS.out W hW
        rw [HUX.out] at hy
        rw [← hy] at k0 k1 k2 k3
        exact ⟨k0, k1, k2, k3⟩
      have HCE := Lib.hid hcells
      clear hmem hux q1 q2 q5 q6 hbw hcells HCELLS HUX c4
      go_wp2_with fail
      go_loopw [7] (fun j wx => ∃ m : Nat, f ≤ m ∧ m ≤ g ∧ j = .int .i64 m ∧ Below w1.heap.size w1 wx) (fun j _ => g - (intOf j).toNat)
      case atStart => exact ⟨f, by omega, by omega, rfl, HBW.out⟩
      case round =>
        obtain ⟨m, hm1, hm2, rfl, hbx⟩ := hrel
        obtain ⟨k0, k1, k2, k3⟩ := HCE.out _ hbx
        clear c0 c1 c2 c3
        by_cases hml : m < g
        · have hcm := HC.out m hm1 hml
          have HBX := Lib.hid hbx
          clear hbx
          go_wp2_with fail
          refine (HCOL.out _ _ (HFIN.out _ HBX.out)).mono ?_
          rintro e w2 ⟨⟨x, y, rfl, hxy⟩, hb2⟩
          rw [hcm] at hxy
          simp only [Prod.mk.injEq] at hxy
          obtain ⟨rfl, rfl⟩ := hxy
          have hb12 := HBX.out.trans (hb2.mono HBX.out.size)
          obtain ⟨j0, j1, j2, j3⟩ := HCE.out _ hb12
          have HB12 := Lib.hid hb12
          have e1 : ((c : Int) != (c : Int)) = false := by simp
          have e2 : ((d : Int) != (d : Int)) = false := by simp
          clear hb12 hb2 hcm k0 k1 k2 k3
          go_wp2_with fail
          go_roundw
          case rel => exact ⟨m + 1, by omega, by omega, by go_num, HB12.out⟩
          case measure => simp [intOf]; omega
        · obtain rfl : m = g := by omega
          have HBX := Lib.hid hbx
          clear hbx
          go_wp2_with fail
          go_loopw [10] (fun j wx => ∃ m : Nat, m ≤ d ∧ j = .int .i64 m ∧ Below w1.heap.size w1 wx) (fun j _ => d - (intOf j).toNat)
          case atStart => exact ⟨0, by omega, rfl, HBX.out⟩
          case round =>
            obtain ⟨p, hp, rfl, hby⟩ := hrel
            obtain ⟨j0, j1, j2, j3⟩ := HCE.out _ hby
            clear k0 k1 k2 k3
            by_cases hpl : p < d
            · have ham := HAU.out p hpl
              have HBY := Lib.hid hby
              have HCALL : Hid (∀ W : World, Below w1.heap.size w1 W → Calls Tryd.prog 23 #[.slice a len cap, .int .i64 t, .int .i64 ((c : Int) + (p : Int))] W fun e w' => e = .returned (.int .i64 f) ∧ Below W.heap.size W w') := by
                intro W hW
                have h := HAT.out ((c : Int) + (p : Int)) W (HFIN.out _ hW)
                (try simp only at ham)
                rw [ham] at h
                exact h
              have i3 : (0 : Int) ≤ (k : Int) := by omega
              have i4 : (k : Int) < (n : Int) := by omega
              have w1' : IntKind.i64.wrap ((c : Int) + (p : Int)) = (c : Int) + (p : Int) := by rw [IntKind.wrap_i64]; omega
              have e1 : ((f : Int) != (f : Int)) = false := by simp
              clear ham
              go_wp2_with fail
              go_region_held3 (fun w' => w'.cell? ⟨b, off + k * 5, none⟩ = some (.int .i64 f) ∧ w'.cell? ⟨b, off + k * 5 + 2, none⟩ = some (.int .i64 c) ∧ Below w1.heap.size w1 w')
                (first | exact ⟨j0, j2, hby.drew⟩ | (refine keep2 ?_ hb2 (Nat.le_refl _); first | assumption | exact ⟨by assumption, by assumption, by assumption⟩) | go_keep)
                (first | (go_at_call 23; refine (HCALL.out _ (by first | assumption | exact hby.drew | exact hby)).mono ?_; rintro e w2 ⟨rfl, hb2⟩))
              all_goals
                go_wp2_with fail
                go_roundw
                case rel => exact ⟨p + 1, by omega, by go_num, by first | assumption | exact hby.drew.trans (hb2.mono hby.size)⟩
                case measure => simp [intOf]; omega
            · obtain rfl : p = d := by omega
              go_wp2_with fail
              go_roundw
              case rel => exact ⟨k + 1, by omega, by go_num, hby⟩
              case measure => simp [intOf]; omega
    · obtain rfl : k = n := by omega
      have HBW := Lib.hid (HFIN.out _ hbw)
      clear hbw
      go_wp2_with fail
      refine (HCS.out _ HBW.out).mono ?_
      rintro e w2 ⟨rfl, hb2⟩
      have HB2 := Lib.hid (HBW.out.trans (hb2.mono HBW.out.size))
      have hee := Lib.hid (at_end (line := line) (tab := tab) (m := len))
      obtain ⟨ec, hec⟩ : ∃ ec, endCol (units line tab) = ec := ⟨_, rfl⟩
      rw [hec] at hee ⊢
      clear hb2 hec
      go_wp2_with fail
      refine (HAT.out _ _ HB2.out).mono ?_
      rintro e w3 ⟨rfl, hb3⟩
      rw [hee.out]
      have HB3 := Lib.hid (HB2.out.trans (hb3.mono HB2.out.size))
      have hll : ((len : Int) == (len : Int)) = true := by simp
      clear hb3
      go_wp2_with fail
      refine (HA.out _ HB3.out).mono ?_
      rintro e w4 ⟨rfl, hb4⟩
      go_wp2_with fail
      go_ret
      exact ⟨rfl, HB3.out.trans (hb4.mono HB3.out.size)⟩
end Go.Proofs.YthceooehndiglaaDoor.U
