/-
  The contracts of the document's Runes and Same, of rows that are the same: they read alone.
-/
import Derived.Test.YthceooehndiglaaDoorCUn
namespace Go.Proofs.YthceooehndiglaaDoor.U
open Go.RowKit
set_option linter.unusedVariables false
set_option linter.unusedSimpArgs false

theorem drawn_below {w wr : World} (h : ∃ q, wr = w.drewN q) : Below w.heap.size w wr := by
  obtain ⟨q, rfl⟩ := h
  exact bdrewN (Below.refl _ _) _
theorem drawn_on {w wr : World} (h : ∃ q, wr = w.drewN q) (n : Nat) : ∃ q, wr.drewN n = w.drewN q := by
  obtain ⟨q, rfl⟩ := h
  exact ⟨q + n, by rw [World.drewN_drewN]⟩

theorem runes_quiet (a1 a2 : Option Addr) (len c1 c2 : Nat) (xs : List Int) (w : World) (h1 : Rd .i32 w a1 len c1 xs) (h2 : Rd .i32 w a2 len c2 xs) :
    Calls Tryd.prog 12 #[.slice a1 len c1, .slice a2 len c2] w fun e w' => e = .returned (.bool true) ∧ ∃ m, w' = w.drewN m := by
  have hsm := h1.small
  have heq : ((len : Int) != (len : Int)) = false := by simp
  by_cases h0 : len = 0
  · subst h0
    go_enter Tryd.func12, Tryd.ntmps12
    go_wp2_with fail
    go_loopw [5] (fun i wr => i = .int .i64 0 ∧ wr = w) (fun _ _ => 0)
    case atStart => exact ⟨rfl, rfl⟩
    case round =>
      obtain ⟨rfl, rfl⟩ := hrel
      go_wp2
      go_ret
      exact ⟨rfl, 0, rfl⟩
  · obtain ⟨p1, o1, rfl, hc1⟩ := h1.2.2.2.2.2 (by omega)
    obtain ⟨p2, o2, rfl, hc2⟩ := h2.2.2.2.2.2 (by omega)
    have hp1 := block_lt_of_cell (hc1 0 (by omega))
    have hp2 := block_lt_of_cell (hc2 0 (by omega))
    have HC1 := Lib.hid hc1; clear hc1
    have HC2 := Lib.hid hc2; clear hc2
    clear h1 h2
    go_enter Tryd.func12, Tryd.ntmps12
    go_wp2_with fail
    go_loopw [5] (fun i wr => ∃ k : Nat, k ≤ len ∧ i = .int .i64 k ∧ Hid (∃ q, wr = w.drewN q)) (fun i _ => len - (intOf i).toNat)
    case atStart => exact ⟨0, by omega, rfl, 0, rfl⟩
    case round =>
      obtain ⟨k, hk, rfl, hwr⟩ := hrel
      have hbl := drawn_below hwr.out
      by_cases hlt : k < len
      · have e1 := (hbl.cell (p := ⟨p1, o1 + k, none⟩) hp1).trans (HC1.out k hlt)
        have e2 := (hbl.cell (p := ⟨p2, o2 + k, none⟩) hp2).trans (HC2.out k hlt)
        obtain ⟨x, hx⟩ : ∃ x, xs.getD k 0 = x := ⟨_, rfl⟩
        rw [hx] at e1 e2
        clear hx
        have hxx : (x != x) = false := by simp
        go_wp2_with fail
        go_quiet (fail)
        go_wp2_with fail
        go_roundw
        case rel => exact ⟨k + 1, by omega, by go_num, drawn_on hwr.out _⟩
        case measure => simp [intOf]; omega
      · obtain rfl : k = len := by omega
        go_wp2
        go_ret
        exact ⟨rfl, hwr.out⟩

theorem unit_cells' {w : World} {b off n cap : Nat} {vs : List UV} (hr : RdU w (some ⟨b, off, none⟩) n cap vs) {i : Nat} (hi : i < n) {x : UV} (hx : vs.getD i default = x) :
    w.cell? ⟨b, off + i * 5, none⟩ = some (.int .i64 x.u.fr) ∧ w.cell? ⟨b, off + i * 5 + 1, none⟩ = some (.int .i64 x.u.to) ∧ w.cell? ⟨b, off + i * 5 + 2, none⟩ = some (.int .i64 x.u.col) ∧
      w.cell? ⟨b, off + i * 5 + 3, none⟩ = some (.int .i64 x.u.wd) ∧ w.cell? ⟨b, off + i * 5 + 4, none⟩ = some (.slice x.ta x.tl x.tc) ∧ Rd .i32 w x.ta x.tl x.tc x.tx := by
  subst hx
  obtain ⟨h1, h2, h3, h4, h5, h6⟩ := hr
  obtain ⟨b', off', ha, hc⟩ := h5 (by omega)
  simp only [Option.some.injEq, Addr.mk.injEq, and_true] at ha
  obtain ⟨rfl, rfl⟩ := ha
  obtain ⟨c0, c1, c2, c3, c4⟩ := hc i hi
  have hx : vs[i]? = some (vs.getD i default) := by rw [List.getD_eq_getElem?_getD, List.getElem?_eq_getElem (by omega)]; rfl
  exact ⟨c0, c1, c2, c3, c4, h6 _ (List.mem_of_getElem? hx)⟩

set_option maxRecDepth 100000 in
set_option maxHeartbeats 4000000 in
theorem same_quiet (a1 a2 : Option Addr) (n c1 c2 : Nat) (vs1 vs2 : List UV) (w : World) (h1 : RdU w a1 n c1 vs1) (h2 : RdU w a2 n c2 vs2) (hu : vs1.map UV.u = vs2.map UV.u) (ht : vs1.map UV.tx = vs2.map UV.tx) :
    Calls Tryd.prog 16 #[.slice a1 n c1, .slice a2 n c2] w fun e w' => e = .returned (.bool true) ∧ ∃ m, w' = w.drewN m := by
  have hsm := h1.small
  have heq : ((n : Int) != (n : Int)) = false := by simp
  by_cases h0 : n = 0
  · subst h0
    go_enter Tryd.func16, Tryd.ntmps16
    go_wp2_with fail
    go_loopw [5] (fun i wr => i = .int .i64 0 ∧ wr = w) (fun _ _ => 0)
    case atStart => exact ⟨rfl, rfl⟩
    case round =>
      obtain ⟨rfl, rfl⟩ := hrel
      go_wp2
      go_ret
      exact ⟨rfl, 0, rfl⟩
  · obtain ⟨p1, o1, rfl, hp1⟩ : ∃ b off, a1 = some ⟨b, off, none⟩ ∧ b < w.heap.size := by
      obtain ⟨b, off, e, hc⟩ := h1.2.2.2.2.1 (by omega)
      exact ⟨b, off, e, block_lt_of_cell (hc 0 (by omega)).1⟩
    obtain ⟨p2, o2, rfl, hp2⟩ : ∃ b off, a2 = some ⟨b, off, none⟩ ∧ b < w.heap.size := by
      obtain ⟨b, off, e, hc⟩ := h2.2.2.2.2.1 (by omega)
      exact ⟨b, off, e, block_lt_of_cell (hc 0 (by omega)).1⟩
    have H1 := Lib.hid h1
    have H2 := Lib.hid h2
    have HU := Lib.hid hu
    have HT := Lib.hid ht
    clear h1 h2 hu ht
    go_enter Tryd.func16, Tryd.ntmps16
    go_wp2_with fail
    go_loopw [5] (fun i wr => ∃ k : Nat, k ≤ n ∧ i = .int .i64 k ∧ Hid (∃ q, wr = w.drewN q)) (fun i _ => n - (intOf i).toNat)
    case atStart => exact ⟨0, by omega, rfl, 0, rfl⟩
    case round =>
      obtain ⟨k, hk, rfl, hwr⟩ := hrel
      have hbl := drawn_below hwr.out
      by_cases hlt : k < n
      · obtain ⟨x, hx⟩ : ∃ x, vs1.getD k default = x := ⟨_, rfl⟩
        obtain ⟨y, hy⟩ : ∃ y, vs2.getD k default = y := ⟨_, rfl⟩
        obtain ⟨b0, b1, b2, b3, b4, rx⟩ := unit_cells' (H1.out.below hbl) hlt hx
        obtain ⟨d0, d1, d2, d3, d4, ry⟩ := unit_cells' (H2.out.below hbl) hlt hy
        have hx' : vs1[k]? = some x := by rw [← hx, List.getD_eq_getElem?_getD, List.getElem?_eq_getElem (by rw [H1.out.len]; exact hlt)]; rfl
        have hy' : vs2[k]? = some y := by rw [← hy, List.getD_eq_getElem?_getD, List.getElem?_eq_getElem (by rw [H2.out.len]; exact hlt)]; rfl
        have eu : x.u = y.u := by
          have h := congrArg (fun l : List Un => l[k]?) HU.out
          simp only [List.getElem?_map, hx', hy', Option.map_some, Option.some.injEq] at h
          exact h
        have et : x.tx = y.tx := by
          have h := congrArg (fun l : List (List Int) => l[k]?) HT.out
          simp only [List.getElem?_map, hx', hy', Option.map_some, Option.some.injEq] at h
          exact h
        obtain ⟨⟨f, g, c, d⟩, ta, tl, tc, tx⟩ := x
        obtain ⟨⟨f', g', c', d'⟩, ta', tl', tc', tx'⟩ := y
        dsimp only at b0 b1 b2 b3 b4 d0 d1 d2 d3 d4 rx ry eu et
        simp only [Un.mk.injEq] at eu
        obtain ⟨rfl, rfl, rfl, rfl⟩ := eu
        subst et
        obtain rfl : tl = tl' := by rw [← rx.len, ← ry.len]
        have HX := Lib.hid rx
        have HY := Lib.hid ry
        have e0 : ((f : Int) != (f : Int)) = false := by simp
        have e1 : ((g : Int) != (g : Int)) = false := by simp
        have e2 : ((c : Int) != (c : Int)) = false := by simp
        have e3 : ((d : Int) != (d : Int)) = false := by simp
        have i3 : (0 : Int) ≤ (k : Int) := by omega
        have i4 : (k : Int) < (n : Int) := by omega
        clear rx ry hx hy hx' hy' hbl
        go_wp2_with fail
        go_quiet (first | (go_at_call 12; refine Calls.quiet_of (runes_quiet ta ta' tl tc tc' tx _ (HX.out.below (bdrewN (Below.refl _ _) _)) (HY.out.below (bdrewN (Below.refl _ _) _)))))
        go_wp2_with fail
        go_roundw
        case rel => exact ⟨k + 1, by omega, by go_num, drawn_on hwr.out _⟩
        case measure => simp [intOf]; omega
      · obtain rfl : k = n := by omega
        go_wp2
        go_ret
        exact ⟨rfl, hwr.out⟩
end Go.Proofs.YthceooehndiglaaDoor.U
