/-
  The walk of RegisterRoom.
-/
import Derived.Test.YtleidcegbfnmkaaHAwake
import Derived.Lib.MinMax
import Derived.Deep.CutBlock
namespace Go.Proofs.Ytleidcegbfnmkaa.U
open Go.RowKit
set_option linter.unusedVariables false
set_option linter.unusedSimpArgs false
set_option maxRecDepth 100000

theorem makeI (w : World) (n : Nat) (hn : n ≤ 1073741824) : (Instr.makeSlice 39 (.int .i64 n) (.int .i64 n)).run Try.prog w = .ok (.slice (some ⟨w.heap.size, 0, none⟩) n n) (w.alloc (.cells (madeCells #[.int .i32 0] n) 21)) := by
  obtain ⟨i, hi, hz0, hz1, hz2⟩ := info_parts infoI
  have hr := run_make (P := Try.prog) w 39 21 i _ Try.underlying39 hi hz0 .i64 .i64 n n (by omega) (Int.le_refl _) (by rw [hz2]; omega) (by omega)
  simpa [hz1, Value.cells] using hr
theorem zeros_rd (w : World) (n : Nat) (hn : n ≤ 1073741824) : Rd .i32 (w.alloc (.cells (madeCells #[.int .i32 0] n) 21)) (some ⟨w.heap.size, 0, none⟩) n n (List.replicate n 0) := by
  refine Rd_new .i32 w _ _ _ n ?_ (by simp) (by unfold maxLen; omega) (by intro x hx; rw [List.mem_replicate] at hx; rw [hx.2]; rfl)
  apply Array.toList_inj.1
  rw [toList_madeCells_one]
  simp
theorem size_one (xs : List Int) : sizeR [xs] = xs.length + 1 := by simp [sizeR, lens, sizeN]
/-- one line under a letter -/
theorem put_one (s : List Nm) {n : Int} {xs : List Int} {k : Int} (d : Bool) (hn : littleR n = true) (hk : 0 ≤ k ∧ k ≤ 2) (hx : xs.length + 1 ≤ 65536) : putR s n ⟨k, [xs]⟩ d = (finR s n ⟨k, [xs]⟩, 0) :=
  put_letter s d hn ⟨hk.1, hk.2, by simp, by rw [size_one]; exact hx⟩
theorem put_long (s : List Nm) (n : Int) {xs : List Int} {k : Int} (d : Bool) (hx : 65536 < xs.length + 1) : putR s n ⟨k, [xs]⟩ d = (s, 1) := by
  refine bad_put s n k [xs] d ?_
  unfold regB
  rw [size_one]
  have : decide (xs.length + 1 ≤ 65536) = false := by simp; omega
  rw [this]
  simp
/-- one line behind another one -/
theorem put_more (s : List Nm) {n : Int} {xs ys : List Int} (d : Bool) (hn : bigR n = true) (hx : xs.length + 1 ≤ 65536) (hh : holdsR s (n + 32) = some ⟨0, [ys]⟩) :
    putR s n ⟨0, [xs]⟩ d = if 65536 < ys.length + xs.length + 1 then (s, 3) else (finR s (n + 32) ⟨0, [ys ++ xs]⟩, 0) := by
  have hr : regB 0 [xs] = true := by unfold regB; rw [size_one]; simp; omega
  have hg : grownR s (n + 32) (normR ⟨0, [xs]⟩) = ⟨0, [ys ++ xs]⟩ := by
    unfold grownR
    rw [hh]
    exact join_one ys xs
  rw [big_put s n 0 [xs] d hr hn, hg]
  simp only [size_one, List.length_append]
theorem fin_holds (s : List Nm) (n : Int) (r : Rg) : holdsR (finR s n r) n = some r := by rw [holds_fin, if_pos (.inr rfl)]
/-- a line of zeros is laid, and what holds it -/
theorem laid_zeros (w : World) (n : Nat) (hn : n ≤ 1073741824) : RdL (fun k => w.heap.size ≤ k) ((w.alloc (.cells (madeCells #[.int .i32 0] n) 21)).alloc (.cells #[.slice (some ⟨w.heap.size, 0, none⟩) n n] 39)) (some ⟨w.heap.size + 1, 0, none⟩) 1 1 [List.replicate n 0] := by
  have h := one_new (B := w.heap.size) (zeros_rd w n hn) (fun _ ad e => by cases e; exact Nat.le_refl _) (by simp)
  rw [show (w.alloc (.cells (madeCells #[.int .i32 0] n) 21)).heap.size = w.heap.size + 1 by simp] at h
  exact h
theorem below_two (w : World) (o1 o2 : Obj) : Below w.heap.size w ((w.alloc o1).alloc o2) := ((Below.refl _ _).alloc (Nat.le_refl _) _).alloc (by simp) _
/-- zeros are put -/
theorem put_zeros {w W : World} {b : Nat} {s s2 : List Nm} {er r : Int} (h : AwG w W b s (fun _ => False)) (n : Nat) (hn : n ≤ 65537) (hwr : (Lit.int .i32 r).wf = true) (hp : putR s r ⟨0, [List.replicate n 0]⟩ false = (s2, er)) :
    Calls Try.prog 15 #[.pointer (some ⟨b, 0, none⟩), .int .i32 r, .agg #[.int .i64 0, .slice (some ⟨W.heap.size + 1, 0, none⟩) 1 1], .bool false] ((W.alloc (.cells (madeCells #[.int .i32 0] n) 21)).alloc (.cells #[.slice (some ⟨W.heap.size, 0, none⟩) n n] 39)) fun e w' => e = .returned (.int .i64 er) ∧ Hid (AwG w w' b s2 (fun _ => False)) := by
  refine ((h.below (below_two W _ _)).put1 ⟨_, laid_zeros W n (by omega)⟩ (by simp; omega) hwr hp).mono ?_
  rintro e w' ⟨rfl, q⟩
  exact ⟨rfl, q.out.1⟩
theorem put_1 {w W : World} {b : Nat} {s s2 : List Nm} {er r : Int} (h : AwG w W b s (fun _ => False)) (hwr : (Lit.int .i32 r).wf = true) (hp : putR s r ⟨0, [[1]]⟩ false = (s2, er)) :
    Calls Try.prog 15 #[.pointer (some ⟨b, 0, none⟩), .int .i32 r, .agg #[.int .i64 0, .slice (some ⟨W.heap.size + 1, 0, none⟩) 1 1], .bool false] ((W.alloc (.cells #[.int .i32 1] 21)).alloc (.cells #[.slice (some ⟨W.heap.size, 0, none⟩) 1 1] 39)) fun e w' => e = .returned (.int .i64 er) ∧ Hid (AwG w w' b s2 (fun _ => False)) := by
  have h2 := one_new (B := W.heap.size) (Rd_new .i32 W [1] #[.int .i32 1] 21 1 rfl rfl (by unfold maxLen; omega) (by decide)) (fun _ ad e => by cases e; exact Nat.le_refl _) (by simp)
  rw [show (W.alloc (.cells #[.int .i32 1] 21)).heap.size = W.heap.size + 1 by simp] at h2
  refine ((h.below (below_two W _ _)).put1 ⟨_, h2⟩ (by decide) hwr hp).mono ?_
  rintro e w' ⟨rfl, q⟩
  exact ⟨rfl, q.out.1⟩
set_option maxHeartbeats 4000000 in
theorem registerRoom_wide (n : Int) (w : World) (hn : (Lit.int .i64 n).wf = true) :
    Calls Try.prog 7 #[.int .i64 n] w fun e w' => e = .returned (.bool true) ∧ Below w.heap.size w w' := by
  obtain ⟨n1, n2⟩ := wf_i64_in hn
  clear hn
  go_enter Try.func7, Try.ntmps7
  go_upto_region 1 with fail
  go_cut [0] (fun s0 wx => ∃ m : Nat, s0 = .int .i64 m ∧ m ≤ 65534 ∧ wx = w)
  case first =>
    by_cases h1 : n < 0
    · go_wp2_with fail
      go_meet
      exact ⟨0, by first | rfl | (congr 1; omega) | (congr 1; simp only [Int.min_def, Int.max_def]; split <;> split <;> omega), by omega, rfl⟩
    · by_cases h2 : n ≤ 65534
      · go_wp2_with fail
        all_goals
          go_meet
          exact ⟨n.toNat, by first | rfl | (congr 1; omega) | (congr 1; simp only [Int.min_def, Int.max_def]; split <;> split <;> omega), by omega, rfl⟩
      · go_wp2_with fail
        go_meet
        exact ⟨65534, by first | rfl | (congr 1; omega) | (congr 1; simp only [Int.min_def, Int.max_def]; split <;> split <;> omega), by omega, rfl⟩
  case rest =>
    obtain ⟨m, rfl, hm, rfl⟩ := hcut
    have HNEW := Lib.hid (new_aw wc wc (Below.refl _ _))
    obtain ⟨b, hbe⟩ : ∃ b, wc.heap.size = b := ⟨_, rfl⟩
    rw [hbe] at HNEW
    clear hbe n1 n2
    have z0 : (List.replicate m (0 : Int)).length = m := by simp
    have P1 : Hid (putR [] 97 ⟨0, [List.replicate m 0]⟩ false = (finR [] 97 ⟨0, [List.replicate m 0]⟩, 0)) := put_one [] false (by decide) (by decide) (by omega)
    obtain ⟨s1, hs1⟩ : ∃ s, finR [] 97 ⟨0, [List.replicate m 0]⟩ = s := ⟨_, rfl⟩
    have H1s : Hid (holdsR s1 97 = some ⟨0, [List.replicate m 0]⟩) := by show _ = _; rw [← hs1]; exact fin_holds _ _ _
    rw [hs1] at P1
    clear hs1
    have P2 : Hid (putR s1 65 ⟨0, [List.replicate (65536 - m) 0]⟩ false = (s1, if m = 0 then 1 else 3)) := by
      show _ = _
      by_cases h0 : m = 0
      · rw [if_pos h0, put_long s1 65 false (by rw [List.length_replicate]; omega)]
      · rw [if_neg h0, put_more s1 false (by decide) (by rw [List.length_replicate]; omega) H1s.out, if_pos (by simp; omega)]
    have P3 : Hid (putR s1 65 ⟨0, [List.replicate (65535 - m) 0]⟩ false = (finR s1 97 ⟨0, [List.replicate m 0 ++ List.replicate (65535 - m) 0]⟩, 0)) := by
      show _ = _
      rw [put_more s1 false (by decide) (by rw [List.length_replicate]; omega) H1s.out, if_neg (by simp; omega)]
      rfl
    obtain ⟨s2, hs2⟩ : ∃ s, finR s1 97 ⟨0, [List.replicate m 0 ++ List.replicate (65535 - m) 0]⟩ = s := ⟨_, rfl⟩
    have H2s : Hid (holdsR s2 97 = some ⟨0, [List.replicate m 0 ++ List.replicate (65535 - m) 0]⟩) := by show _ = _; rw [← hs2]; exact fin_holds _ _ _
    rw [hs2] at P3
    clear hs2
    have P4 : Hid (putR s2 65 ⟨0, [[1]]⟩ false = (s2, 3)) := by
      show _ = _
      rw [put_more s2 false (by decide) (by simp) H2s.out, if_pos (by simp only [List.length_append, List.length_replicate, List.length_singleton]; omega)]
    have P5 : Hid (putR s2 98 ⟨0, [List.replicate 65536 0]⟩ false = (s2, 1)) := by
      show _ = _
      exact put_long s2 98 false (by rw [List.length_replicate]; omega)
    obtain ⟨er, her⟩ : ∃ er : Int, (if m = 0 then 1 else 3) = er := ⟨_, rfl⟩
    rw [her] at P2
    have HER := Lib.hid her
    clear her z0 H1s H2s
    go_upto_region 3 with (go_at_call 9; (with_reducible refine HNEW.out.mono ?_); rintro e w1 ⟨rfl, H1⟩)
    have HMK : Hid (∀ (W : World) (k : Nat), k ≤ 1073741824 → (Instr.makeSlice 39 (.int .i64 k) (.int .i64 k)).run Try.prog W = .ok (.slice (some ⟨W.heap.size, 0, none⟩) k k) (W.alloc (.cells (madeCells #[.int .i32 0] k) 21))) := fun W k hk => makeI W k hk
    have hmk1 := HMK.out w1 m (by omega)
    have HC := Lib.hid (put_zeros H1.out.1 m (by omega) rfl P1.out)
    go_upto_region 5 with (go_at_call 15; (with_reducible refine HC.out.mono ?_); rintro e w2 ⟨rfl, H2⟩)
    clear HC hmk1 H1
    have hmk2 : (Instr.makeSlice 39 (.int .i64 (65536 - (m : Int))) (.int .i64 (65536 - (m : Int)))).run Try.prog w2 = .ok (.slice (some ⟨w2.heap.size, 0, none⟩) (65536 - m) (65536 - m)) (w2.alloc (.cells (madeCells #[.int .i32 0] (65536 - m)) 21)) := by
      have h := HMK.out w2 (65536 - m) (by omega)
      rw [show ((65536 - m : Nat) : Int) = 65536 - (m : Int) from by omega] at h
      exact h
    have HC := Lib.hid (put_zeros H2.out (65536 - m) (by omega) rfl P2.out)
    have q1 : (0 : Int) ≤ 65536 - (m : Int) := by omega
    go_upto_region 6 with (go_at_call 15; (with_reducible refine HC.out.mono ?_); rintro e w3 ⟨rfl, H3⟩)
    clear HC hmk2 H2
    have hmk3 : (Instr.makeSlice 39 (.int .i64 (65536 - (m : Int) - 1)) (.int .i64 (65536 - (m : Int) - 1))).run Try.prog w3 = .ok (.slice (some ⟨w3.heap.size, 0, none⟩) (65535 - m) (65535 - m)) (w3.alloc (.cells (madeCells #[.int .i32 0] (65535 - m)) 21)) := by
      have h := HMK.out w3 (65535 - m) (by omega)
      rw [show ((65535 - m : Nat) : Int) = 65536 - (m : Int) - 1 from by omega] at h
      exact h
    have HC := Lib.hid (put_zeros H3.out (65535 - m) (by omega) rfl P3.out)
    have q2 : (0 : Int) ≤ 65536 - (m : Int) - 1 := by omega
    go_upto_region 7 with (go_at_call 15; (with_reducible refine HC.out.mono ?_); rintro e w4 ⟨rfl, H4⟩)
    clear HC hmk3 H3
    have HC := Lib.hid (put_1 H4.out rfl P4.out)
    go_upto_region 8 with (go_at_call 15; (with_reducible refine HC.out.mono ?_); rintro e w5 ⟨rfl, H5⟩)
    clear HC H4
    have hmk5 : (Instr.makeSlice 39 (.int .i64 65536) (.int .i64 65536)).run Try.prog w5 = .ok (.slice (some ⟨w5.heap.size, 0, none⟩) 65536 65536) (w5.alloc (.cells (madeCells #[.int .i32 0] 65536) 21)) := HMK.out w5 65536 (by omega)
    have HC := Lib.hid (put_zeros H5.out 65536 (by omega) rfl P5.out)
    go_upto_region 10 with (go_at_call 15; (with_reducible refine HC.out.mono ?_); rintro e w6 ⟨rfl, H6⟩)
    clear HC hmk5 H5
    have HK : Hid (Calls Try.prog 19 #[] w6 fun e w' => e = .returned (.bool true) ∧ Hid (Below wc.heap.size wc w')) := by
      refine (awake_any w6).mono ?_
      rintro e w' ⟨rfl, h⟩
      exact ⟨rfl, H6.out.bel.trans (h.mono H6.out.bel.size)⟩
    by_cases h0 : m = 0
    · have he : er = 1 := by have := HER.out; rw [if_pos h0] at this; omega
      have f0 : ((m : Int) == 0) = true := by simp [h0]
      subst he
      clear h0
      go_wp2_with (go_at_call 19; (with_reducible refine HK.out.mono ?_); rintro e w7 ⟨rfl, H7⟩)
      go_ret
      exact ⟨rfl, H7.out⟩
    · have he : er = 3 := by have := HER.out; rw [if_neg h0] at this; omega
      have f0 : ((m : Int) == 0) = false := by simpa using h0
      subst he
      clear h0
      go_wp2_with (go_at_call 19; (with_reducible refine HK.out.mono ?_); rintro e w7 ⟨rfl, H7⟩)
      go_ret
      exact ⟨rfl, H7.out⟩
end Go.Proofs.Ytleidcegbfnmkaa.U
