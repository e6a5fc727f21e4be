/-
  The contract of Next: with which rune bytes begin.
-/
import Derived.Test.YtcjngpgicegacaaULeaf
import Derived.Deep.QuietTactic
import Derived.BigQuiet
namespace Go.Proofs.Ytcjngpgicegacaa.U
open Go.RowKit
set_option linter.unusedVariables false
set_option linter.unusedSimpArgs false

theorem lead_is (c n l m : Int) (w : World) (h0 : 0 ≤ c) (h1 : c ≤ 255) (hn : leadN c = n) (hl : leadL c = l) (hm : leadM c = m) :
    Calls Try.prog 29 #[.int .u8 c] w fun e w' => e = .returned (.tuple #[.int .i64 n, .int .u8 l, .int .u8 m]) ∧ w = w' := by
  subst hn hl hm; exact lead_any c w h0 h1

theorem next_empty (a : Option Addr) (cap : Nat) (w : World) :
    Calls Try.prog 20 #[.slice a 0 cap] w fun e w' => e = .returned (.tuple #[.int .i32 0, .int .i64 0, .bool true]) ∧ Below w.heap.size w w' := by
  go_enter Try.func20, Try.ntmps20
  go_wp2
  go_ret3
  exact ⟨rfl, Below.refl _ _⟩

theorem next_01 (b off len cap : Nat) (c n l m R : Int) (w : World) (hlen : 0 < len) (hlen2 : len ≤ 9223372036854775807) (hc0 : w.cell? ⟨b, off, none⟩ = some (.int .u8 c)) (h0 : 0 ≤ c) (h1 : c ≤ 255)
    (H : Hid (leadN c = n ∧ leadL c = l ∧ leadM c = m)) (hn : (n = 0 ∧ R = 65533) ∨ (n = 1 ∧ R = c)) :
    Calls Try.prog 20 #[.slice (some ⟨b, off, none⟩) len cap] w fun e w' => e = .returned (.tuple #[.int .i32 R, .int .i64 1, .bool false]) ∧ Below w.heap.size w w' := by
  have hne : ((len : Int) == 0) = false := by simp; omega
  rcases hn with ⟨rfl, rfl⟩ | ⟨rfl, rfl⟩
  · go_enter Try.func20, Try.ntmps20
    go_wp2_with (go_at_call 29; refine (lead_is _ 0 l m _ h0 h1 H.out.1 H.out.2.1 H.out.2.2).mono ?_; rintro e w' ⟨rfl, rfl⟩)
    go_ret3
    exact ⟨rfl, Below.refl _ _⟩
  · go_enter Try.func20, Try.ntmps20
    go_wp2_with (go_at_call 29; refine (lead_is _ 1 l m _ h0 h1 H.out.1 H.out.2.1 H.out.2.2).mono ?_; rintro e w' ⟨rfl, rfl⟩)
    go_ret3
    exact ⟨rfl, Below.refl _ _⟩

theorem lead_bd (c : Int) : 0 ≤ leadL c ∧ leadL c ≤ 255 ∧ 0 ≤ leadM c ∧ leadM c ≤ 255 := by
  refine ⟨?_, ?_, ?_, ?_⟩
  · unfold leadL; repeat' split <;> omega
  · unfold leadL; repeat' split <;> omega
  · unfold leadM; repeat' split <;> omega
  · unfold leadM; repeat' split <;> omega

set_option maxHeartbeats 1000000 in
theorem next_2 (b off len cap : Nat) (xs : List Int) (l m R N : Int) (M : Bool) (w : World) (hlen : 0 < len) (hlen2 : len ≤ 9223372036854775807)
    (hxl : Hid (xs.length = len)) (hc : ∀ i, i < len → w.cell? ⟨b, off + i, none⟩ = some (.int .u8 (xs.getD i 0))) (hu : ∀ i, 0 ≤ xs.getD i 0 ∧ xs.getD i 0 ≤ 255)
    (H : Hid (leadN (xs.getD 0 0) = 2 ∧ leadL (xs.getD 0 0) = l ∧ leadM (xs.getD 0 0) = m)) (HV : Hid (nextV xs = (R, N, M))) :
    Calls Try.prog 20 #[.slice (some ⟨b, off, none⟩) len cap] w fun e w' => e = .returned (.tuple #[.int .i32 R, .int .i64 N, .bool M]) ∧ Below w.heap.size w w' := by
  have hne : ((len : Int) == 0) = false := by simp; omega
  have hc0 := hc 0 (by omega)
  rw [Nat.add_zero] at hc0
  have h0 := (hu 0).1
  have h1 := (hu 0).2
  have HC := Lib.hid hc; clear hc
  have HU := Lib.hid hu; clear hu
  have hx : ∃ c, xs.getD 0 0 = c := ⟨_, rfl⟩
  obtain ⟨c, hx⟩ := hx
  have HS : Hid (nextGo (xs.drop 1) (2 - 1) (c % 32) l m (2 : Nat) = (R, N, M)) := by
    have h := HV.out
    rw [nextV_many xs 2 (by have := hxl.out; omega) H.out.1 (by omega), H.out.2.1, H.out.2.2, hx] at h
    exact h
  have Hl : 0 ≤ l ∧ l ≤ 255 ∧ 0 ≤ m ∧ m ≤ 255 := by
    have h := H.out.2
    rw [← h.1, ← h.2]
    exact lead_bd _
  rw [hx] at hc0 h0 h1
  have Hx := Lib.hid hx; clear hx
  have HB : Hid (rBd 1 (c % 32)) := by show rBd _ _; unfold rBd; omega
  go_enter Try.func20, Try.ntmps20
  go_wp2_with (go_at_call 29; refine (lead_is _ 2 l m _ h0 h1 (by rw [← Hx.out]; exact H.out.1) (by rw [← Hx.out]; exact H.out.2.1) (by rw [← Hx.out]; exact H.out.2.2)).mono ?_; rintro e w' ⟨rfl, rfl⟩)
  go_quiet (fail)
  go_wp2_with fail
  go_loop [6, 7, 8, 9] (fun lo hi r i => ∃ (k : Nat) (lo' hi' r' : Int), i = .int .i64 k ∧ lo = .int .u8 lo' ∧ hi = .int .u8 hi' ∧ r = .int .i32 r' ∧ 1 ≤ k ∧ k ≤ 2 ∧ k ≤ len ∧ (0 ≤ lo' ∧ lo' ≤ 255 ∧ 0 ≤ hi' ∧ hi' ≤ 255) ∧ Hid (rBd k r') ∧ Hid (nextGo (xs.drop k) (2 - k) r' lo' hi' (2 : Nat) = (R, N, M)))
    (fun _ _ _ i => 2 - (intOf i).toNat)
  case atStart => exact ⟨1, _, _, _, rfl, rfl, rfl, rfl, by omega, by omega, by omega, Hl, HB, HS⟩
  case round =>
    obtain ⟨k, lo, hi, r, rfl, rfl, rfl, rfl, hk1, hkn, hkl, hbd, HR, HG⟩ := hrel
    by_cases e1 : k = 2
    · subst e1
      obtain ⟨rfl, rfl, rfl⟩ := go_done HG.out rfl
      go_wp2
      go_ret3
      exact ⟨rfl, bdrewN (Below.refl _ _) _⟩
    have hkn' : k < 2 := by omega
    by_cases e2 : k = len
    · obtain ⟨rfl, rfl, rfl⟩ := go_out HG.out hkn' (e2.trans hxl.out.symm)
      subst e2
      have heq : ((k : Int) == (k : Int)) = true := by simp
      go_wp2
      go_ret3
      exact ⟨rfl, bdrewN (Below.refl _ _) _⟩
    have hkl' : k < len := by omega
    have hnel : ((k : Int) == (len : Int)) = false := by simp; omega
    have hcx := HC.out k hkl'
    have hx0 := (HU.out k).1
    have hx1 := (HU.out k).2
    have hkxs : k < xs.length := by have := hxl.out; omega
    obtain ⟨x, hx⟩ : ∃ x, xs.getD k 0 = x := ⟨_, rfl⟩
    have hr := rBd_in HR.out hk1 (by omega)
    by_cases e3 : x < lo ∨ hi < x
    · obtain ⟨rfl, rfl, rfl⟩ := go_bad HG.out hkn' hkxs (by rw [hx]; exact e3)
      rw [hx] at hcx hx0 hx1
      have HX := Lib.hid hx; clear hx hkxs
      by_cases e4 : x < lo
      · clear e3
        go_wp2
        go_ret3
        exact ⟨rfl, bdrewN (Below.refl _ _) _⟩
      · have e5 : hi < x := by omega
        clear e3
        go_wp2
        go_ret3
        exact ⟨rfl, bdrewN (Below.refl _ _) _⟩
    · have HG2 := Lib.hid (go_on HG.out hkn' hkxs (by rw [hx]; exact e3))
      rw [hx] at hcx hx0 hx1 HG2
      have HR2 := Lib.hid (rBd_next (x := x) HR.out hk1 (by omega))
      have HX := Lib.hid hx; clear hx hkxs
      have e4 : ¬ x < lo := by omega
      have e5 : ¬ hi < x := by omega
      clear e3
      go_wp2
      go_round
      case rel => exact ⟨k + 1, _, _, _, by go_num, rfl, rfl, rfl, by omega, by omega, by omega, by omega, HR2, HG2⟩
      case measure => simp [intOf]; omega

set_option maxHeartbeats 1000000 in
theorem next_3 (b off len cap : Nat) (xs : List Int) (l m R N : Int) (M : Bool) (w : World) (hlen : 0 < len) (hlen2 : len ≤ 9223372036854775807)
    (hxl : Hid (xs.length = len)) (hc : ∀ i, i < len → w.cell? ⟨b, off + i, none⟩ = some (.int .u8 (xs.getD i 0))) (hu : ∀ i, 0 ≤ xs.getD i 0 ∧ xs.getD i 0 ≤ 255)
    (H : Hid (leadN (xs.getD 0 0) = 3 ∧ leadL (xs.getD 0 0) = l ∧ leadM (xs.getD 0 0) = m)) (HV : Hid (nextV xs = (R, N, M))) :
    Calls Try.prog 20 #[.slice (some ⟨b, off, none⟩) len cap] w fun e w' => e = .returned (.tuple #[.int .i32 R, .int .i64 N, .bool M]) ∧ Below w.heap.size w w' := by
  have hne : ((len : Int) == 0) = false := by simp; omega
  have hc0 := hc 0 (by omega)
  rw [Nat.add_zero] at hc0
  have h0 := (hu 0).1
  have h1 := (hu 0).2
  have HC := Lib.hid hc; clear hc
  have HU := Lib.hid hu; clear hu
  have hx : ∃ c, xs.getD 0 0 = c := ⟨_, rfl⟩
  obtain ⟨c, hx⟩ := hx
  have HS : Hid (nextGo (xs.drop 1) (3 - 1) (c % 16) l m (3 : Nat) = (R, N, M)) := by
    have h := HV.out
    rw [nextV_many xs 3 (by have := hxl.out; omega) H.out.1 (by omega), H.out.2.1, H.out.2.2, hx] at h
    exact h
  have Hl : 0 ≤ l ∧ l ≤ 255 ∧ 0 ≤ m ∧ m ≤ 255 := by
    have h := H.out.2
    rw [← h.1, ← h.2]
    exact lead_bd _
  rw [hx] at hc0 h0 h1
  have Hx := Lib.hid hx; clear hx
  have HB : Hid (rBd 1 (c % 16)) := by show rBd _ _; unfold rBd; omega
  go_enter Try.func20, Try.ntmps20
  go_wp2_with (go_at_call 29; refine (lead_is _ 3 l m _ h0 h1 (by rw [← Hx.out]; exact H.out.1) (by rw [← Hx.out]; exact H.out.2.1) (by rw [← Hx.out]; exact H.out.2.2)).mono ?_; rintro e w' ⟨rfl, rfl⟩)
  go_quiet (fail)
  go_wp2_with fail
  go_loop [6, 7, 8, 9] (fun lo hi r i => ∃ (k : Nat) (lo' hi' r' : Int), i = .int .i64 k ∧ lo = .int .u8 lo' ∧ hi = .int .u8 hi' ∧ r = .int .i32 r' ∧ 1 ≤ k ∧ k ≤ 3 ∧ k ≤ len ∧ (0 ≤ lo' ∧ lo' ≤ 255 ∧ 0 ≤ hi' ∧ hi' ≤ 255) ∧ Hid (rBd k r') ∧ Hid (nextGo (xs.drop k) (3 - k) r' lo' hi' (3 : Nat) = (R, N, M)))
    (fun _ _ _ i => 3 - (intOf i).toNat)
  case atStart => exact ⟨1, _, _, _, rfl, rfl, rfl, rfl, by omega, by omega, by omega, Hl, HB, HS⟩
  case round =>
    obtain ⟨k, lo, hi, r, rfl, rfl, rfl, rfl, hk1, hkn, hkl, hbd, HR, HG⟩ := hrel
    by_cases e1 : k = 3
    · subst e1
      obtain ⟨rfl, rfl, rfl⟩ := go_done HG.out rfl
      go_wp2
      go_ret3
      exact ⟨rfl, bdrewN (Below.refl _ _) _⟩
    have hkn' : k < 3 := by omega
    by_cases e2 : k = len
    · obtain ⟨rfl, rfl, rfl⟩ := go_out HG.out hkn' (e2.trans hxl.out.symm)
      subst e2
      have heq : ((k : Int) == (k : Int)) = true := by simp
      go_wp2
      go_ret3
      exact ⟨rfl, bdrewN (Below.refl _ _) _⟩
    have hkl' : k < len := by omega
    have hnel : ((k : Int) == (len : Int)) = false := by simp; omega
    have hcx := HC.out k hkl'
    have hx0 := (HU.out k).1
    have hx1 := (HU.out k).2
    have hkxs : k < xs.length := by have := hxl.out; omega
    obtain ⟨x, hx⟩ : ∃ x, xs.getD k 0 = x := ⟨_, rfl⟩
    have hr := rBd_in HR.out hk1 (by omega)
    by_cases e3 : x < lo ∨ hi < x
    · obtain ⟨rfl, rfl, rfl⟩ := go_bad HG.out hkn' hkxs (by rw [hx]; exact e3)
      rw [hx] at hcx hx0 hx1
      have HX := Lib.hid hx; clear hx hkxs
      by_cases e4 : x < lo
      · clear e3
        go_wp2
        go_ret3
        exact ⟨rfl, bdrewN (Below.refl _ _) _⟩
      · have e5 : hi < x := by omega
        clear e3
        go_wp2
        go_ret3
        exact ⟨rfl, bdrewN (Below.refl _ _) _⟩
    · have HG2 := Lib.hid (go_on HG.out hkn' hkxs (by rw [hx]; exact e3))
      rw [hx] at hcx hx0 hx1 HG2
      have HR2 := Lib.hid (rBd_next (x := x) HR.out hk1 (by omega))
      have HX := Lib.hid hx; clear hx hkxs
      have e4 : ¬ x < lo := by omega
      have e5 : ¬ hi < x := by omega
      clear e3
      go_wp2
      go_round
      case rel => exact ⟨k + 1, _, _, _, by go_num, rfl, rfl, rfl, by omega, by omega, by omega, by omega, HR2, HG2⟩
      case measure => simp [intOf]; omega

set_option maxHeartbeats 1000000 in
theorem next_4 (b off len cap : Nat) (xs : List Int) (l m R N : Int) (M : Bool) (w : World) (hlen : 0 < len) (hlen2 : len ≤ 9223372036854775807)
    (hxl : Hid (xs.length = len)) (hc : ∀ i, i < len → w.cell? ⟨b, off + i, none⟩ = some (.int .u8 (xs.getD i 0))) (hu : ∀ i, 0 ≤ xs.getD i 0 ∧ xs.getD i 0 ≤ 255)
    (H : Hid (leadN (xs.getD 0 0) = 4 ∧ leadL (xs.getD 0 0) = l ∧ leadM (xs.getD 0 0) = m)) (HV : Hid (nextV xs = (R, N, M))) :
    Calls Try.prog 20 #[.slice (some ⟨b, off, none⟩) len cap] w fun e w' => e = .returned (.tuple #[.int .i32 R, .int .i64 N, .bool M]) ∧ Below w.heap.size w w' := by
  have hne : ((len : Int) == 0) = false := by simp; omega
  have hc0 := hc 0 (by omega)
  rw [Nat.add_zero] at hc0
  have h0 := (hu 0).1
  have h1 := (hu 0).2
  have HC := Lib.hid hc; clear hc
  have HU := Lib.hid hu; clear hu
  have hx : ∃ c, xs.getD 0 0 = c := ⟨_, rfl⟩
  obtain ⟨c, hx⟩ := hx
  have HS : Hid (nextGo (xs.drop 1) (4 - 1) (c % 8) l m (4 : Nat) = (R, N, M)) := by
    have h := HV.out
    rw [nextV_many xs 4 (by have := hxl.out; omega) H.out.1 (by omega), H.out.2.1, H.out.2.2, hx] at h
    exact h
  have Hl : 0 ≤ l ∧ l ≤ 255 ∧ 0 ≤ m ∧ m ≤ 255 := by
    have h := H.out.2
    rw [← h.1, ← h.2]
    exact lead_bd _
  rw [hx] at hc0 h0 h1
  have Hx := Lib.hid hx; clear hx
  have HB : Hid (rBd 1 (c % 8)) := by show rBd _ _; unfold rBd; omega
  go_enter Try.func20, Try.ntmps20
  go_wp2_with (go_at_call 29; refine (lead_is _ 4 l m _ h0 h1 (by rw [← Hx.out]; exact H.out.1) (by rw [← Hx.out]; exact H.out.2.1) (by rw [← Hx.out]; exact H.out.2.2)).mono ?_; rintro e w' ⟨rfl, rfl⟩)
  go_quiet (fail)
  go_wp2_with fail
  go_loop [6, 7, 8, 9] (fun lo hi r i => ∃ (k : Nat) (lo' hi' r' : Int), i = .int .i64 k ∧ lo = .int .u8 lo' ∧ hi = .int .u8 hi' ∧ r = .int .i32 r' ∧ 1 ≤ k ∧ k ≤ 4 ∧ k ≤ len ∧ (0 ≤ lo' ∧ lo' ≤ 255 ∧ 0 ≤ hi' ∧ hi' ≤ 255) ∧ Hid (rBd k r') ∧ Hid (nextGo (xs.drop k) (4 - k) r' lo' hi' (4 : Nat) = (R, N, M)))
    (fun _ _ _ i => 4 - (intOf i).toNat)
  case atStart => exact ⟨1, _, _, _, rfl, rfl, rfl, rfl, by omega, by omega, by omega, Hl, HB, HS⟩
  case round =>
    obtain ⟨k, lo, hi, r, rfl, rfl, rfl, rfl, hk1, hkn, hkl, hbd, HR, HG⟩ := hrel
    by_cases e1 : k = 4
    · subst e1
      obtain ⟨rfl, rfl, rfl⟩ := go_done HG.out rfl
      go_wp2
      go_ret3
      exact ⟨rfl, bdrewN (Below.refl _ _) _⟩
    have hkn' : k < 4 := by omega
    by_cases e2 : k = len
    · obtain ⟨rfl, rfl, rfl⟩ := go_out HG.out hkn' (e2.trans hxl.out.symm)
      subst e2
      have heq : ((k : Int) == (k : Int)) = true := by simp
      go_wp2
      go_ret3
      exact ⟨rfl, bdrewN (Below.refl _ _) _⟩
    have hkl' : k < len := by omega
    have hnel : ((k : Int) == (len : Int)) = false := by simp; omega
    have hcx := HC.out k hkl'
    have hx0 := (HU.out k).1
    have hx1 := (HU.out k).2
    have hkxs : k < xs.length := by have := hxl.out; omega
    obtain ⟨x, hx⟩ : ∃ x, xs.getD k 0 = x := ⟨_, rfl⟩
    have hr := rBd_in HR.out hk1 (by omega)
    by_cases e3 : x < lo ∨ hi < x
    · obtain ⟨rfl, rfl, rfl⟩ := go_bad HG.out hkn' hkxs (by rw [hx]; exact e3)
      rw [hx] at hcx hx0 hx1
      have HX := Lib.hid hx; clear hx hkxs
      by_cases e4 : x < lo
      · clear e3
        go_wp2
        go_ret3
        exact ⟨rfl, bdrewN (Below.refl _ _) _⟩
      · have e5 : hi < x := by omega
        clear e3
        go_wp2
        go_ret3
        exact ⟨rfl, bdrewN (Below.refl _ _) _⟩
    · have HG2 := Lib.hid (go_on HG.out hkn' hkxs (by rw [hx]; exact e3))
      rw [hx] at hcx hx0 hx1 HG2
      have HR2 := Lib.hid (rBd_next (x := x) HR.out hk1 (by omega))
      have HX := Lib.hid hx; clear hx hkxs
      have e4 : ¬ x < lo := by omega
      have e5 : ¬ hi < x := by omega
      clear e3
      go_wp2
      go_round
      case rel => exact ⟨k + 1, _, _, _, by go_num, rfl, rfl, rfl, by omega, by omega, by omega, by omega, HR2, HG2⟩
      case measure => simp [intOf]; omega


theorem next_any (a : Option Addr) (len cap : Nat) (xs : List Int) (R N : Int) (M : Bool) (w : World) (hr : Rd .u8 w a len cap xs) (HV : Hid (nextV xs = (R, N, M))) :
    Calls Try.prog 20 #[.slice a len cap] w fun e w' => e = .returned (.tuple #[.int .i32 R, .int .i64 N, .bool M]) ∧ Below w.heap.size w w' := by
  have hu := hr.u8
  have hsm := hr.small
  obtain ⟨r1, r2, r3, r4, r6, r5⟩ := hr
  by_cases h0 : len = 0
  · subst h0
    obtain rfl : xs = [] := List.eq_nil_of_length_eq_zero r1
    have h := HV.out
    simp only [nextV, Prod.mk.injEq] at h
    obtain ⟨rfl, rfl, rfl⟩ := h
    exact next_empty a cap w
  · obtain ⟨b, off, rfl, hc⟩ := r5 (by omega)
    have hc0 := hc 0 (by omega)
    rw [Nat.add_zero] at hc0
    have hp : 0 < xs.length := by omega
    obtain ⟨n, hn⟩ : ∃ n, leadN (xs.getD 0 0) = n := ⟨_, rfl⟩
    have hb : n = 0 ∨ n = 1 ∨ n = 2 ∨ n = 3 ∨ n = 4 := by subst hn; unfold leadN; repeat' split <;> omega
    rcases hb with rfl | rfl | rfl | rfl | rfl
    · have h := HV.out
      rw [nextV_0 xs hp hn] at h
      simp only [Prod.mk.injEq] at h
      obtain ⟨rfl, rfl, rfl⟩ := h
      exact next_01 b off len cap _ 0 _ _ _ w (by omega) hsm hc0 (hu 0).1 (hu 0).2 ⟨hn, rfl, rfl⟩ (.inl ⟨rfl, rfl⟩)
    · have h := HV.out
      rw [nextV_1 xs hp hn] at h
      simp only [Prod.mk.injEq] at h
      obtain ⟨rfl, rfl, rfl⟩ := h
      exact next_01 b off len cap _ 1 _ _ _ w (by omega) hsm hc0 (hu 0).1 (hu 0).2 ⟨hn, rfl, rfl⟩ (.inr ⟨rfl, rfl⟩)
    · exact next_2 b off len cap xs _ _ R N M w (by omega) hsm r1 hc hu ⟨hn, rfl, rfl⟩ HV
    · exact next_3 b off len cap xs _ _ R N M w (by omega) hsm r1 hc hu ⟨hn, rfl, rfl⟩ HV
    · exact next_4 b off len cap xs _ _ R N M w (by omega) hsm r1 hc hu ⟨hn, rfl, rfl⟩ HV

end Go.Proofs.Ytcjngpgicegacaa.U
