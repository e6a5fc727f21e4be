/-
  The document's words. (MADE by wip/tools/gen_rwords.py.)
-/
import Derived.Test.YthlhgkeodaifcaaDoorBRun
namespace Go.Proofs.YthlhgkeodaifcaaDoor.U
open Go.RowKit
set_option linter.unusedVariables false
set_option linter.unusedSimpArgs false
set_option maxRecDepth 100000
def woV : Option (Nat × Nat) → Value
  | none => .tuple #[.int .i64 0, .int .i64 0, .bool false]
  | some r => .tuple #[.int .i64 (r.1 : Nat), .int .i64 (r.2 : Nat), .bool true]
set_option maxHeartbeats 2000000 in
theorem rwords_any (a : Option Addr) (m c : Nat) (x : List Int) (col : Nat) (big around : Bool) (w : World) (h : Rd .i32 w a m c x) (hcol : col ≤ m - 1) :
    Calls Tryd.prog 20 #[.slice a m c, .int .i64 (col : Nat), .bool big, .bool around] w fun e w' => e = .returned (woV (wordsP x col big around)) ∧ w = w' := by
  have hms := h.small
  have hml := h.len
  obtain ⟨res, hres⟩ : ∃ r, wordsP x col big around = r := ⟨_, rfl⟩
  rw [hres]
  unfold wordsP at hres
  by_cases hm0 : m = 0
  · have hx : x = [] := List.eq_nil_of_length_eq_zero (by omega)
    have e0 : ((m : Int) == 0) = true := by simp; omega
    rw [if_pos hx] at hres
    subst hres
    clear h hx hml hm0
    go_enter Tryd.func20, Tryd.ntmps20
    go_wp2_with fail
    go_ret3
    exact ⟨rfl, rfl⟩
  have hx : ¬ x = [] := by rintro rfl; simp at hml; omega
  have e0 : ((m : Int) == 0) = false := by simp; omega
  have hcm : col < m := by omega
  have hcI : (col : Int) < (m : Int) := by omega
  rw [if_neg hx] at hres
  obtain ⟨b1, b2, b3, -⟩ := run_props (big := big) (x := x) (k := col) (by omega)
  have HR0 := Lib.hid (rrun_any a m c x col big w h hcm)
  obtain ⟨⟨lo, hi⟩, hrn⟩ : ∃ r, runC big x col = r := ⟨_, rfl⟩
  rw [hrn] at HR0 hres b1 b2 b3
  simp only at HR0 hres b1 b2 b3
  rw [hml] at b3
  cases around with
  | false =>
    rw [if_pos rfl] at hres
    subst hres
    clear h hx hml hm0 hrn
    go_enter Tryd.func20, Tryd.ntmps20
    go_wp2_with (go_at_call 32; refine HR0.out.mono ?_; rintro e w' ⟨rfl, hw⟩; subst hw)
    go_ret3
    exact ⟨rfl, rfl⟩
  | true =>
    rw [if_neg (by decide)] at hres
    obtain ⟨rb, ro, rfl, hrb, hc⟩ := h.all_ (by omega)
    have c0 := hc col hcm
    obtain ⟨r0, hr0⟩ : ∃ r, x.getD col 0 = r := ⟨_, rfl⟩
    rw [hr0] at c0
    have HC0 := Lib.hid (rclass_any r0 big w)
    have hk0 : clsAt big x col = cls big r0 := by unfold clsAt; rw [hr0]
    rw [hk0] at hres
    obtain ⟨k0, hk0'⟩ : ∃ k, cls big r0 = k := ⟨_, rfl⟩
    rw [hk0'] at HC0 hres
    rw [hml] at hres
    clear hk0 hk0' hr0 hm0 hx hml hrn
    have hhI : (hi : Int) + 1 ≤ 9223372036854775807 := by omega
    by_cases hh : hi + 1 < m
    · obtain ⟨n1, hn1⟩ : ∃ n1, hi + 1 = n1 := ⟨_, rfl⟩
      rw [hn1] at hres hh
      have s1 : (hi : Int) + 1 = (n1 : Int) := by omega
      have g1 : (n1 : Int) < (m : Int) := by omega
      have g2 : decide ((n1 : Int) < (m : Int)) = true := by simp; omega
      have g3 : decide (n1 < m) = true := by simp; omega
      have c1 := hc n1 hh
      obtain ⟨r1, hr1⟩ : ∃ r, x.getD n1 0 = r := ⟨_, rfl⟩
      rw [hr1] at c1
      have HC1 := Lib.hid (rclass_any r1 big w)
      have hk1 : clsAt big x n1 = cls big r1 := by unfold clsAt; rw [hr1]
      rw [hk1] at hres
      obtain ⟨k1, hk1'⟩ : ∃ k, cls big r1 = k := ⟨_, rfl⟩
      rw [hk1'] at HC1 hres
      have HR1 := Lib.hid (rrun_any _ m c x n1 big w h hh)
      obtain ⟨⟨lo2, hi2⟩, hrn1⟩ : ∃ r, runC big x n1 = r := ⟨_, rfl⟩
      rw [hrn1] at HR1 hres
      simp only at HR1 hres
      clear hk1 hk1' hrn1 hr1 hn1
      by_cases hz : k0 = 0
      · have e1 : (k0 == 0) = true := by simp [hz]
        rw [if_pos ⟨hh, Or.inl hz⟩] at hres
        subst hres
        clear h hc hz
        go_enter Tryd.func20, Tryd.ntmps20
        go_wp2_with (first
          | (go_at_call 32; with_reducible refine HR0.out.mono ?_; rintro e w' ⟨rfl, hw⟩; subst hw)
          | (go_at_call 14; with_reducible refine HC0.out.mono ?_; rintro e w' ⟨rfl, hw⟩; subst hw)
          | (go_at_call 32; with_reducible refine HR1.out.mono ?_; rintro e w' ⟨rfl, hw⟩; subst hw)
          | (go_at_call 14; with_reducible refine HC1.out.mono ?_; rintro e w' ⟨rfl, hw⟩; subst hw)
          | (go_at_call 32; with_reducible refine HR2.out.mono ?_; rintro e w' ⟨rfl, hw⟩; subst hw)
          | (go_at_call 14; with_reducible refine HC2.out.mono ?_; rintro e w' ⟨rfl, hw⟩; subst hw))
        go_ret3
        exact ⟨rfl, rfl⟩
      · have e1 : (k0 == 0) = false := by simp [hz]
        by_cases hz1 : k1 = 0
        · have e3 : (k1 == 0) = true := by simp [hz1]
          rw [if_pos ⟨hh, Or.inr hz1⟩] at hres
          subst hres
          clear h hc hz hz1
          go_enter Tryd.func20, Tryd.ntmps20
          go_wp2_with (first
            | (go_at_call 32; with_reducible refine HR0.out.mono ?_; rintro e w' ⟨rfl, hw⟩; subst hw)
            | (go_at_call 14; with_reducible refine HC0.out.mono ?_; rintro e w' ⟨rfl, hw⟩; subst hw)
            | (go_at_call 32; with_reducible refine HR1.out.mono ?_; rintro e w' ⟨rfl, hw⟩; subst hw)
            | (go_at_call 14; with_reducible refine HC1.out.mono ?_; rintro e w' ⟨rfl, hw⟩; subst hw)
            | (go_at_call 32; with_reducible refine HR2.out.mono ?_; rintro e w' ⟨rfl, hw⟩; subst hw)
            | (go_at_call 14; with_reducible refine HC2.out.mono ?_; rintro e w' ⟨rfl, hw⟩; subst hw))
          go_ret3
          exact ⟨rfl, rfl⟩
        · have e3 : (k1 == 0) = false := by simp [hz1]
          rw [if_neg (by rintro ⟨_, e | e⟩; exact hz e; exact hz1 e), if_neg hz] at hres
          clear hz hz1
          by_cases hl0 : 0 < lo
          · have l1 : (0 : Int) < (lo : Int) := by omega
            have l2 : decide ((0 : Int) < (lo : Int)) = true := by simp; omega
            have l3 : decide (0 < lo) = true := by simp; omega
            obtain ⟨p1, hp1⟩ : ∃ p1, lo - 1 = p1 := ⟨_, rfl⟩
            rw [hp1] at hres
            have s2 : (lo : Int) - 1 = (p1 : Int) := by omega
            have g9 : p1 < m := by omega
            have g9I : (p1 : Int) < (m : Int) := by omega
            have c2 := hc p1 g9
            obtain ⟨r2, hr2⟩ : ∃ r, x.getD p1 0 = r := ⟨_, rfl⟩
            rw [hr2] at c2
            have HC2 := Lib.hid (rclass_any r2 big w)
            have hk2 : clsAt big x p1 = cls big r2 := by unfold clsAt; rw [hr2]
            rw [hk2] at hres
            obtain ⟨k2, hk2'⟩ : ∃ k, cls big r2 = k := ⟨_, rfl⟩
            rw [hk2'] at HC2 hres
            have HR2 := Lib.hid (rrun_any _ m c x p1 big w h g9)
            obtain ⟨⟨lo3, hi3⟩, hrn2⟩ : ∃ r, runC big x p1 = r := ⟨_, rfl⟩
            rw [hrn2] at HR2 hres
            simp only at HR2
            clear hk2 hk2' hrn2 hr2 hp1
            by_cases hz2 : k2 = 0
            · have e2 : (k2 == 0) = true := by simp [hz2]
              rw [if_pos ⟨hl0, hz2⟩] at hres
              subst hres
              clear h hc hl0 hz2
              go_enter Tryd.func20, Tryd.ntmps20
              go_wp2_with (first
                | (go_at_call 32; with_reducible refine HR0.out.mono ?_; rintro e w' ⟨rfl, hw⟩; subst hw)
                | (go_at_call 14; with_reducible refine HC0.out.mono ?_; rintro e w' ⟨rfl, hw⟩; subst hw)
                | (go_at_call 32; with_reducible refine HR1.out.mono ?_; rintro e w' ⟨rfl, hw⟩; subst hw)
                | (go_at_call 14; with_reducible refine HC1.out.mono ?_; rintro e w' ⟨rfl, hw⟩; subst hw)
                | (go_at_call 32; with_reducible refine HR2.out.mono ?_; rintro e w' ⟨rfl, hw⟩; subst hw)
                | (go_at_call 14; with_reducible refine HC2.out.mono ?_; rintro e w' ⟨rfl, hw⟩; subst hw))
              go_ret3
              exact ⟨rfl, rfl⟩
            · have e2 : (k2 == 0) = false := by simp [hz2]
              rw [if_neg (by rintro ⟨_, e⟩; exact hz2 e)] at hres
              subst hres
              clear h hc hl0 hz2
              go_enter Tryd.func20, Tryd.ntmps20
              go_wp2_with (first
                | (go_at_call 32; with_reducible refine HR0.out.mono ?_; rintro e w' ⟨rfl, hw⟩; subst hw)
                | (go_at_call 14; with_reducible refine HC0.out.mono ?_; rintro e w' ⟨rfl, hw⟩; subst hw)
                | (go_at_call 32; with_reducible refine HR1.out.mono ?_; rintro e w' ⟨rfl, hw⟩; subst hw)
                | (go_at_call 14; with_reducible refine HC1.out.mono ?_; rintro e w' ⟨rfl, hw⟩; subst hw)
                | (go_at_call 32; with_reducible refine HR2.out.mono ?_; rintro e w' ⟨rfl, hw⟩; subst hw)
                | (go_at_call 14; with_reducible refine HC2.out.mono ?_; rintro e w' ⟨rfl, hw⟩; subst hw))
              go_ret3
              exact ⟨rfl, rfl⟩
          · have l1 : ¬ (0 : Int) < (lo : Int) := by omega
            have l2 : decide ((0 : Int) < (lo : Int)) = false := by simp; omega
            have l3 : decide (0 < lo) = false := by simp; omega
            rw [if_neg (by rintro ⟨e, _⟩; exact hl0 e)] at hres
            subst hres
            clear h hc hl0
            go_enter Tryd.func20, Tryd.ntmps20
            go_wp2_with (first
              | (go_at_call 32; with_reducible refine HR0.out.mono ?_; rintro e w' ⟨rfl, hw⟩; subst hw)
              | (go_at_call 14; with_reducible refine HC0.out.mono ?_; rintro e w' ⟨rfl, hw⟩; subst hw)
              | (go_at_call 32; with_reducible refine HR1.out.mono ?_; rintro e w' ⟨rfl, hw⟩; subst hw)
              | (go_at_call 14; with_reducible refine HC1.out.mono ?_; rintro e w' ⟨rfl, hw⟩; subst hw)
              | (go_at_call 32; with_reducible refine HR2.out.mono ?_; rintro e w' ⟨rfl, hw⟩; subst hw)
              | (go_at_call 14; with_reducible refine HC2.out.mono ?_; rintro e w' ⟨rfl, hw⟩; subst hw))
            go_ret3
            exact ⟨rfl, rfl⟩
    · have g1 : ¬ (hi : Int) + 1 < (m : Int) := by omega
      have g2 : decide ((hi : Int) + 1 < (m : Int)) = false := by simp; omega
      have g3 : decide (hi + 1 < m) = false := by simp; omega
      rw [if_neg (by rintro ⟨e, _⟩; exact hh e)] at hres
      by_cases hz : k0 = 0
      · have e1 : (k0 == 0) = true := by simp [hz]
        rw [if_pos hz] at hres
        subst hres
        clear h hc hz
        go_enter Tryd.func20, Tryd.ntmps20
        go_wp2_with (first
          | (go_at_call 32; with_reducible refine HR0.out.mono ?_; rintro e w' ⟨rfl, hw⟩; subst hw)
          | (go_at_call 14; with_reducible refine HC0.out.mono ?_; rintro e w' ⟨rfl, hw⟩; subst hw)
          | (go_at_call 32; with_reducible refine HR1.out.mono ?_; rintro e w' ⟨rfl, hw⟩; subst hw)
          | (go_at_call 14; with_reducible refine HC1.out.mono ?_; rintro e w' ⟨rfl, hw⟩; subst hw)
          | (go_at_call 32; with_reducible refine HR2.out.mono ?_; rintro e w' ⟨rfl, hw⟩; subst hw)
          | (go_at_call 14; with_reducible refine HC2.out.mono ?_; rintro e w' ⟨rfl, hw⟩; subst hw))
        go_ret3
        exact ⟨rfl, rfl⟩
      · have e1 : (k0 == 0) = false := by simp [hz]
        rw [if_neg hz] at hres
        clear hz
        by_cases hl0 : 0 < lo
        · have l1 : (0 : Int) < (lo : Int) := by omega
          have l2 : decide ((0 : Int) < (lo : Int)) = true := by simp; omega
          have l3 : decide (0 < lo) = true := by simp; omega
          obtain ⟨p1, hp1⟩ : ∃ p1, lo - 1 = p1 := ⟨_, rfl⟩
          rw [hp1] at hres
          have s2 : (lo : Int) - 1 = (p1 : Int) := by omega
          have g9 : p1 < m := by omega
          have g9I : (p1 : Int) < (m : Int) := by omega
          have c2 := hc p1 g9
          obtain ⟨r2, hr2⟩ : ∃ r, x.getD p1 0 = r := ⟨_, rfl⟩
          rw [hr2] at c2
          have HC2 := Lib.hid (rclass_any r2 big w)
          have hk2 : clsAt big x p1 = cls big r2 := by unfold clsAt; rw [hr2]
          rw [hk2] at hres
          obtain ⟨k2, hk2'⟩ : ∃ k, cls big r2 = k := ⟨_, rfl⟩
          rw [hk2'] at HC2 hres
          have HR2 := Lib.hid (rrun_any _ m c x p1 big w h g9)
          obtain ⟨⟨lo3, hi3⟩, hrn2⟩ : ∃ r, runC big x p1 = r := ⟨_, rfl⟩
          rw [hrn2] at HR2 hres
          simp only at HR2
          clear hk2 hk2' hrn2 hr2 hp1
          by_cases hz2 : k2 = 0
          · have e2 : (k2 == 0) = true := by simp [hz2]
            rw [if_pos ⟨hl0, hz2⟩] at hres
            subst hres
            clear h hc hl0 hz2
            go_enter Tryd.func20, Tryd.ntmps20
            go_wp2_with (first
              | (go_at_call 32; with_reducible refine HR0.out.mono ?_; rintro e w' ⟨rfl, hw⟩; subst hw)
              | (go_at_call 14; with_reducible refine HC0.out.mono ?_; rintro e w' ⟨rfl, hw⟩; subst hw)
              | (go_at_call 32; with_reducible refine HR1.out.mono ?_; rintro e w' ⟨rfl, hw⟩; subst hw)
              | (go_at_call 14; with_reducible refine HC1.out.mono ?_; rintro e w' ⟨rfl, hw⟩; subst hw)
              | (go_at_call 32; with_reducible refine HR2.out.mono ?_; rintro e w' ⟨rfl, hw⟩; subst hw)
              | (go_at_call 14; with_reducible refine HC2.out.mono ?_; rintro e w' ⟨rfl, hw⟩; subst hw))
            go_ret3
            exact ⟨rfl, rfl⟩
          · have e2 : (k2 == 0) = false := by simp [hz2]
            rw [if_neg (by rintro ⟨_, e⟩; exact hz2 e)] at hres
            subst hres
            clear h hc hl0 hz2
            go_enter Tryd.func20, Tryd.ntmps20
            go_wp2_with (first
              | (go_at_call 32; with_reducible refine HR0.out.mono ?_; rintro e w' ⟨rfl, hw⟩; subst hw)
              | (go_at_call 14; with_reducible refine HC0.out.mono ?_; rintro e w' ⟨rfl, hw⟩; subst hw)
              | (go_at_call 32; with_reducible refine HR1.out.mono ?_; rintro e w' ⟨rfl, hw⟩; subst hw)
              | (go_at_call 14; with_reducible refine HC1.out.mono ?_; rintro e w' ⟨rfl, hw⟩; subst hw)
              | (go_at_call 32; with_reducible refine HR2.out.mono ?_; rintro e w' ⟨rfl, hw⟩; subst hw)
              | (go_at_call 14; with_reducible refine HC2.out.mono ?_; rintro e w' ⟨rfl, hw⟩; subst hw))
            go_ret3
            exact ⟨rfl, rfl⟩
        · have l1 : ¬ (0 : Int) < (lo : Int) := by omega
          have l2 : decide ((0 : Int) < (lo : Int)) = false := by simp; omega
          have l3 : decide (0 < lo) = false := by simp; omega
          rw [if_neg (by rintro ⟨e, _⟩; exact hl0 e)] at hres
          subst hres
          clear h hc hl0
          go_enter Tryd.func20, Tryd.ntmps20
          go_wp2_with (first
            | (go_at_call 32; with_reducible refine HR0.out.mono ?_; rintro e w' ⟨rfl, hw⟩; subst hw)
            | (go_at_call 14; with_reducible refine HC0.out.mono ?_; rintro e w' ⟨rfl, hw⟩; subst hw)
            | (go_at_call 32; with_reducible refine HR1.out.mono ?_; rintro e w' ⟨rfl, hw⟩; subst hw)
            | (go_at_call 14; with_reducible refine HC1.out.mono ?_; rintro e w' ⟨rfl, hw⟩; subst hw)
            | (go_at_call 32; with_reducible refine HR2.out.mono ?_; rintro e w' ⟨rfl, hw⟩; subst hw)
            | (go_at_call 14; with_reducible refine HC2.out.mono ?_; rintro e w' ⟨rfl, hw⟩; subst hw))
          go_ret3
          exact ⟨rfl, rfl⟩
end Go.Proofs.YthlhgkeodaifcaaDoor.U
