/-
  The walk of PatTimes.
-/
import Derived.Test.YtkjiobbkbhmijaaRPatT
namespace Go.Proofs.Ytkjiobbkbhmijaa.U
open Go.RowKit
set_option linter.unusedVariables false
set_option linter.unusedSimpArgs false
set_option maxRecDepth 100000

def erOf (r : Rs (Re × Nat)) : Int :=
  match r with
  | .error c => c
  | .ok _ => 0
theorem PrAns.any {w : World} {r : Rs (Re × Nat)} {e : Ending} {w' : World} (h : PrAns w r e w') : ∃ k4 r4 sa4 sn4 sc4 nt4 l4 h4 pa4 pn4 pc4, e = .returned (.tuple #[.agg #[.int .i64 k4, .int .i32 r4, .slice sa4 sn4 sc4, .bool nt4, .int .i64 l4, .int .i64 h4, .slice pa4 pn4 pc4], .int .i64 (erOf r)]) ∧ Below w.heap.size w w' := by
  match r, h with
  | .error c, h => exact ⟨0, 0, none, 0, 0, false, 0, 0, none, 0, 0, h.1, h.2⟩
  | .ok (y, n), ⟨k4, r4, sa4, sn4, sc4, nt4, l4, h4, pa4, pn4, pc4, he, hre, hb⟩ => exact ⟨k4, r4, sa4, sn4, sc4, nt4, l4, h4, pa4, pn4, pc4, he, hb⟩
set_option maxHeartbeats 2000000 in
theorem patTimes_walk (m n : Int) (w : World) (hm : (Lit.int .i64 m).wf = true) (hn : (Lit.int .i64 n).wf = true) :
    Calls Try.prog 7 #[.int .i64 m, .int .i64 n] w fun e w' => e = .returned (.bool true) ∧ Below w.heap.size w w' := by
  obtain ⟨hm0, hm1⟩ := wf_i64_in hm
  obtain ⟨hn0, hn1⟩ := wf_i64_in hn
  obtain ⟨M, hM⟩ : ∃ M : Nat, (max 0 (min m 120)).toNat = M := ⟨_, rfl⟩
  obtain ⟨N, hN⟩ : ∃ N : Nat, (max 0 (min n 120)).toNat = N := ⟨_, rfl⟩
  have hM2 : M ≤ 120 := by omega
  have hN2 : N ≤ 120 := by omega
  have HM := Lib.hid hM
  have HN := Lib.hid hN
  clear hm hn hM hN
  go_enter Try.func7, Try.ntmps7
  go_upto_region 1 with fail
  go_cut [0, 1] from 12 to 17 (fun v0 v1 wx => v0 = .int .i64 (M : Nat) ∧ v1 = .int .i64 (N : Nat) ∧ wx = w)
  case first =>
    go_wp2
    all_goals go_meet
    all_goals
      have h1 := HM.out
      have h2 := HN.out
      refine ⟨congrArg (Value.int .i64) ?_, congrArg (Value.int .i64) ?_, rfl⟩ <;> omega
  case rest =>
  obtain ⟨rfl, rfl, rfl⟩ := hcut
  clear hm0 hm1 hn0 hn1 HM HN
  obtain ⟨w1, hw1⟩ : ∃ w1, wc.alloc (.cells #[.int .i32 97, .int .i32 92, .int .i32 123] 21) = w1 := ⟨_, rfl⟩
  have H0 : Hid (OwR w1 wc.heap.size (some ⟨wc.heap.size, 0, none⟩) 3 3 [97, 92, 123] ∧ Below wc.heap.size wc w1) := by
    rw [← hw1]
    exact ⟨owr_lit wc _ [97, 92, 123] 3 rfl rfl (by omega) (by decide), bal _ _⟩
  have hpar := parse_patA M N hM2 hN2
  have HPAR := Lib.hid hpar
  clear hpar
  have tokA : True := trivial
  go_upto_region 6 with (first
    | (go_at_call 18; have _t := tokA; refine (dec_any 2 M (by omega) (by omega) w1).mono ?_; clear tokA _t; rintro e w2 ⟨a2, k2, c2, rfl, hk2, H2⟩; obtain ⟨a3, c3, w3, HR3, H3⟩ := (H0.out.1.below H2.out.2).app (by have := H0.out.2.size; have := H2.out.2.size; omega) H2.out.1.rd (by omega); obtain ⟨a4, c4, w4, HR4, H4⟩ := H3.out.1.appL (by have := H0.out.2.size; have := H2.out.2.size; have := H3.out.2.size; omega) #[.int .i32 44] [44] 1 rfl rfl (by omega) (by decide) (by omega))
    | (at_builtin; with_reducible refine Lib.wpList_append_run _ rfl (.tmp 18) (.tmp 20) _ _ rfl _ _ rfl rfl _ _ (HR3.out _) ?_)
    | (at_builtin; with_reducible refine Lib.wpList_append_run _ rfl (.tmp 22) (.tmp 23) _ _ rfl _ _ rfl rfl _ _ (HR4.out _) ?_)
    | (go_at_call 18; refine (dec_any 2 N (by omega) (by omega) w4).mono ?_; rintro e w5 ⟨a5, k5, c5, rfl, hk5, H5⟩; obtain ⟨a6, c6, w6, HR6, H6⟩ := (H4.out.1.below H5.out.2).app (by have := H0.out.2.size; have := H2.out.2.size; have := H3.out.2.size; have := H4.out.2.size; have := H5.out.2.size; omega) H5.out.1.rd (by omega); obtain ⟨a7, c7, w7, HR7, H7⟩ := H6.out.1.appL (by have := H0.out.2.size; have := H2.out.2.size; have := H3.out.2.size; have := H4.out.2.size; have := H5.out.2.size; have := H6.out.2.size; omega) #[.int .i32 92, .int .i32 125] [92, 125] 2 rfl rfl (by omega) (by decide) (by omega))
    | (at_builtin; with_reducible refine Lib.wpList_append_run _ rfl (.tmp 25) (.tmp 27) _ _ rfl _ _ rfl rfl _ _ (HR6.out _) ?_)
    | (at_builtin; with_reducible refine Lib.wpList_append_run _ rfl (.tmp 29) (.tmp 30) _ _ rfl _ _ rfl rfl _ _ (HR7.out _) ?_))
  obtain ⟨L, hL⟩ : ∃ L, 3 + k2 + 1 + k5 + 2 = L := ⟨_, rfl⟩
  have HP7 : Hid (OwR w7 wc.heap.size a7 L c7 (patA M N []) ∧ Below wc.heap.size wc w7) := by
    have h1 := H7.out
    have e1 : [97, 92, 123] ++ decF 2 M ++ [44] ++ decF 2 N ++ [92, 125] = patA M N [] := by simp [patA, List.append_assoc]
    rw [e1, hL] at h1
    exact ⟨h1.1, (((((H0.out.2.trans (H2.out.2.mono H0.out.2.size)).trans H3.out.2).trans H4.out.2).trans (H5.out.2.mono (by have := H0.out.2.size; have := H2.out.2.size; have := H3.out.2.size; have := H4.out.2.size; omega))).trans H6.out.2).trans h1.2⟩
  have hL2 : L ≤ 12 := by omega
  rw [hL]
  clear hL H0 H2 H3 H4 H5 H6 H7 HR3 HR4 HR6 HR7
  by_cases hbad : (decide (100 < M) || decide (100 < N) || decide (N < M)) = true
  · have HPE : Hid (parse (patA M N []) = .error 11) := by show _ = _; rw [HPAR.out, if_pos hbad]
    clear HPAR
    have h3 : (100 < M) ∨ (¬ 100 < M ∧ 100 < N) ∨ (¬ 100 < M ∧ ¬ 100 < N ∧ N < M) := by
      simp only [Bool.or_eq_true, decide_eq_true_eq] at hbad
      omega
    clear hbad
    rcases h3 with h | ⟨h, h'⟩ | ⟨h, h', h''⟩
    · have g1 : (100 : Int) < (M : Int) := by omega
      go_wp2_with (first
        | (go_at_call 8; refine (prErr (patA M N []) L 11 HPE.out (by omega) _ _ w7 HP7.out.1.rd).mono ?_; rintro e w8 ⟨rfl, H8⟩)
        | (go_at_call 14; refine (awake_any _).mono ?_; rintro e w9 ⟨rfl, hb9⟩))
      go_ret
      exact ⟨rfl, HP7.out.2.trans ((btr H8.out (btr (bal w8 _) hb9)).mono HP7.out.2.size)⟩
    · have g1 : ¬ (100 : Int) < (M : Int) := by omega
      have g2 : (100 : Int) < (N : Int) := by omega
      go_wp2_with (first
        | (go_at_call 8; refine (prErr (patA M N []) L 11 HPE.out (by omega) _ _ w7 HP7.out.1.rd).mono ?_; rintro e w8 ⟨rfl, H8⟩)
        | (go_at_call 14; refine (awake_any _).mono ?_; rintro e w9 ⟨rfl, hb9⟩))
      go_ret
      exact ⟨rfl, HP7.out.2.trans ((btr H8.out (btr (bal w8 _) hb9)).mono HP7.out.2.size)⟩
    · have g1 : ¬ (100 : Int) < (M : Int) := by omega
      have g2 : ¬ (100 : Int) < (N : Int) := by omega
      have g3 : (N : Int) < (M : Int) := by omega
      go_wp2_with (first
        | (go_at_call 8; refine (prErr (patA M N []) L 11 HPE.out (by omega) _ _ w7 HP7.out.1.rd).mono ?_; rintro e w8 ⟨rfl, H8⟩)
        | (go_at_call 14; refine (awake_any _).mono ?_; rintro e w9 ⟨rfl, hb9⟩))
      go_ret
      exact ⟨rfl, HP7.out.2.trans ((btr H8.out (btr (bal w8 _) hb9)).mono HP7.out.2.size)⟩
  · simp only [Bool.or_eq_true, decide_eq_true_eq] at hbad
    have hM3 : M ≤ 100 := by omega
    have hN3 : N ≤ 100 := by omega
    have hMN : M ≤ N := by omega
    have HPK : Hid (parse (patA M N []) = .ok ((Re.rune 97).star M N, 0)) := by
      show _ = _
      rw [HPAR.out, if_neg (by simp; omega)]
    have HPB := Lib.hid (parse_patB M N hM3 hN3 hMN)
    obtain ⟨S, hS⟩ : ∃ S, 1 + (2 + max 1 N) * max 1 M = S := ⟨_, rfl⟩
    rw [hS] at HPB
    have HS := Lib.hid hS
    have g1 : ¬ (100 : Int) < (M : Int) := by omega
    have g2 : ¬ (100 : Int) < (N : Int) := by omega
    have g3 : ¬ (N : Int) < (M : Int) := by omega
    clear HPAR hbad hS
    go_upto_region 7 with (go_at_call 8; refine (parse_any _ _ _ (patA M N []) w7 HP7.out.1.rd (by omega)).mono ?_; rw [HPK.out]; intro e w8 hh; obtain ⟨k4, r4, sa4, sn4, sc4, nt4, l4, h4, pa4, pn4, pc4, he, hre, hb8⟩ := hh; subst he; obtain ⟨e1, -, -, -, e2, e3, -⟩ := hre.parts; subst e1 e2 e3; have HB8 := Lib.hid hb8; clear hre hb8)
    obtain ⟨w9, hw9⟩ : ∃ w9, w8.alloc (.cells #[.int .i64 10, .int .i32 r4, .slice sa4 sn4 sc4, .bool nt4, .int .i64 M, .int .i64 N, .slice pa4 pn4 pc4] 26) = w9 := ⟨_, rfl⟩
    have hb9 : Below w8.heap.size w8 w9 := by rw [← hw9]; exact bal _ _
    have hg9 : w9.heap[w8.heap.size]? = some (.cells #[.int .i64 10, .int .i32 r4, .slice sa4 sn4 sc4, .bool nt4, .int .i64 M, .int .i64 N, .slice pa4 pn4 pc4] 26 (0, 0)) := by rw [← hw9]; exact heap_alloc_new w8 _
    rw [hw9]
    have H9 : Hid (OwR w9 wc.heap.size a7 L c7 (patA M N []) ∧ Below wc.heap.size wc w9 ∧ wc.heap.size ≤ w8.heap.size) := ⟨(HP7.out.1.below HB8.out).below hb9, (HP7.out.2.trans (HB8.out.mono HP7.out.2.size)).trans (hb9.mono (by have := HP7.out.2.size; have := HB8.out.size; omega)), by have := HP7.out.2.size; have := HB8.out.size; omega⟩
    have hb10 := bal w9 (.cells #[.int .i32 92, .int .i32 40] 21)
    obtain ⟨a11, c11, w11, HR11, H11⟩ := (owr_lit w9 #[.int .i32 92, .int .i32 40] [92, 40] 2 rfl rfl (by omega) (by decide)).app hb10.size (H9.out.1.below hb10).rd (by omega)
    have H11b : Hid (Below w9.heap.size w9 w11) := hb10.trans H11.out.2
    obtain ⟨a12, c12, w12, HR12, H12⟩ := H11.out.1.appL H11b.out.size #[.int .i32 92, .int .i32 41, .int .i32 92, .int .i32 123] [92, 41, 92, 123] 4 rfl rfl (by omega) (by decide) (by omega)
    have HG9 := Lib.hid hg9
    clear hw9 hb9 hg9 hb10
    go_upto_region 12 with (first
      | (at_builtin; with_reducible refine Lib.wpList_append_run _ rfl (.tmp 53) (.tmp 54) _ _ rfl _ _ rfl rfl _ _ (HR11.out _) ?_)
      | (at_builtin; with_reducible refine Lib.wpList_append_run _ rfl (.tmp 55) (.tmp 56) _ _ rfl _ _ rfl rfl _ _ (HR12.out _) ?_)
      | (go_at_call 18; refine (dec_any 2 M (by omega) (by omega) w12).mono ?_; rintro e w13 ⟨a13, k13, c13, rfl, hk13, H13⟩; obtain ⟨a14, c14, w14, HR14, H14⟩ := (H12.out.1.below H13.out.2).app (by have := H11b.out.size; have := H12.out.2.size; have := H13.out.2.size; omega) H13.out.1.rd (by omega); obtain ⟨a15, c15, w15, HR15, H15⟩ := H14.out.1.appL (by have := H11b.out.size; have := H12.out.2.size; have := H13.out.2.size; have := H14.out.2.size; omega) #[.int .i32 92, .int .i32 125] [92, 125] 2 rfl rfl (by omega) (by decide) (by omega))
      | (at_builtin; with_reducible refine Lib.wpList_append_run _ rfl (.tmp 58) (.tmp 60) _ _ rfl _ _ rfl rfl _ _ (HR14.out _) ?_)
      | (at_builtin; with_reducible refine Lib.wpList_append_run _ rfl (.tmp 62) (.tmp 63) _ _ rfl _ _ rfl rfl _ _ (HR15.out _) ?_))
    obtain ⟨L2, hL2'⟩ : ∃ L2, 2 + L + 4 + k13 + 2 = L2 := ⟨_, rfl⟩
    have HP15 : Hid (OwR w15 w9.heap.size a15 L2 c15 (patB M N) ∧ Below w9.heap.size w9 w15) := by
      have h1 := H15.out
      have e1 : [92, 40] ++ patA M N [] ++ [92, 41, 92, 123] ++ decF 2 M ++ [92, 125] = patB M N := by simp [patA, patB, List.append_assoc]
      rw [e1, hL2'] at h1
      exact ⟨h1.1, (((H11b.out.trans H12.out.2).trans (H13.out.2.mono (by have := H11b.out.size; have := H12.out.2.size; omega))).trans H14.out.2).trans h1.2⟩
    have hL3 : L2 ≤ 30 := by omega
    rw [hL2']
    clear hL2' H11 H11b H12 H13 H14 H15 HR11 HR12 HR14 HR15
    obtain ⟨er, her⟩ : ∃ er, erOf (parse (patB M N)) = er := ⟨_, rfl⟩
    have HER : Hid ((er = 12 ∧ 400 < S) ∨ (er = 0 ∧ ¬ 400 < S)) := by
      show _ ∨ _
      rw [← her, HPB.out]
      by_cases h : 400 < S
      · rw [if_pos h]; exact Or.inl ⟨rfl, h⟩
      · rw [if_neg h]; exact Or.inr ⟨rfl, h⟩
    have HERD := Lib.hid her
    clear her
    go_upto_region 13 with (go_at_call 8; refine (parse_any _ _ _ (patB M N) w15 HP15.out.1.rd (by omega)).mono ?_; intro e w16 hh; obtain ⟨k5', r5', sa5', sn5', sc5', nt5', l5', h5', pa5', pn5', pc5', he, hb16⟩ := hh.any; subst he; rw [HERD.out]; have HB16 := Lib.hid hb16; clear hh hb16)
    obtain ⟨w17, hw17⟩ : ∃ w17, w16.alloc (.cells #[.int .i64 k5', .int .i32 r5', .slice sa5' sn5' sc5', .bool nt5', .int .i64 l5', .int .i64 h5', .slice pa5' pn5' pc5'] 26) = w17 := ⟨_, rfl⟩
    rw [hw17]
    have hb17 : Below w9.heap.size w9 w17 := by
      rw [← hw17]
      exact HP15.out.2.trans ((btr HB16.out (bal w16 _)).mono HP15.out.2.size)
    have hg17 := (hb17.block _ (heap_lt HG9.out)).trans HG9.out
    obtain ⟨p0, -, -, -, p4, p5, -⟩ := row7 hg17
    have H17 : Hid (Below wc.heap.size wc w17) := H9.out.2.1.trans (hb17.mono H9.out.2.1.size)
    clear hw17 hb17 hg17
    go_cut [11] from 70 to 76 (fun v wx => v = .int .i64 (S : Nat) ∧ wx = w17)
    case first =>
      have h6 : (M = 0 ∧ N = 0) ∨ (M = 0 ∧ N = 1) ∨ (M = 0 ∧ 2 ≤ N) ∨ (M = 1 ∧ N = 1) ∨ (M = 1 ∧ 2 ≤ N) ∨ (2 ≤ M ∧ 2 ≤ N) := by omega
      rcases h6 with ⟨hM0, hN0⟩ | ⟨hM0, hN0⟩ | ⟨hM0, hN0⟩ | ⟨hM0, hN0⟩ | ⟨hM0, hN0⟩ | ⟨hM0, hN0⟩
      · have hS1 : S = 4 := by rw [← HS.out, hM0, hN0]; rfl
        subst hM0 hN0
        go_wp2
        all_goals go_meet
        all_goals (refine ⟨congrArg (Value.int .i64) ?_, rfl⟩; omega)

      · have hS1 : S = 4 := by rw [← HS.out, hM0, hN0]; rfl
        subst hM0 hN0
        go_wp2
        all_goals go_meet
        all_goals (refine ⟨congrArg (Value.int .i64) ?_, rfl⟩; omega)

      · have hS1 : S = 1 + (2 + N) := by rw [← HS.out, hM0, show max 1 N = N by omega, show max 1 0 = 1 from rfl, Nat.mul_one]
        subst hM0
        have gn : (1 : Int) < (N : Int) := by omega
        go_wp2
        all_goals go_meet
        all_goals (refine ⟨congrArg (Value.int .i64) ?_, rfl⟩; omega)

      · have hS1 : S = 4 := by rw [← HS.out, hM0, hN0]; rfl
        subst hM0 hN0
        go_wp2
        all_goals go_meet
        all_goals (refine ⟨congrArg (Value.int .i64) ?_, rfl⟩; omega)

      · have hS1 : S = 1 + (2 + N) := by rw [← HS.out, hM0, show max 1 N = N by omega, show max 1 1 = 1 from rfl, Nat.mul_one]
        subst hM0
        have gn : (1 : Int) < (N : Int) := by omega
        go_wp2
        all_goals go_meet
        all_goals (refine ⟨congrArg (Value.int .i64) ?_, rfl⟩; omega)

      · have gm : (1 : Int) < (M : Int) := by omega
        have gn : (1 : Int) < (N : Int) := by omega
        obtain ⟨P, hP⟩ : ∃ P : Nat, (2 + N) * M = P := ⟨_, rfl⟩
        have hP1 : (2 + (N : Int)) * (M : Int) = (P : Int) := by rw [← hP]; simp
        have hP2 : P ≤ 102 * 100 := by rw [← hP]; exact Nat.mul_le_mul (by omega) hM3
        have hS1 : S = 1 + P := by rw [← HS.out, show max 1 N = N by omega, show max 1 M = M by omega, hP]
        clear hP
        go_wp2
        all_goals go_meet
        all_goals (refine ⟨congrArg (Value.int .i64) ?_, rfl⟩; omega)

    case rest =>
    obtain ⟨rfl, rfl⟩ := hcut
    rcases HER.out with ⟨rfl, h⟩ | ⟨rfl, h⟩
    · have g4 : ¬ (S : Int) ≤ 400 := by omega
      clear h HER
      go_wp2_with (go_at_call 14; refine (awake_any _).mono ?_; rintro e w18 ⟨rfl, hb18⟩)
      go_ret
      exact ⟨rfl, H17.out.trans (hb18.mono H17.out.size)⟩
    · have g4 : (S : Int) ≤ 400 := by omega
      clear h HER
      go_wp2_with (go_at_call 14; refine (awake_any _).mono ?_; rintro e w18 ⟨rfl, hb18⟩)
      go_ret
      exact ⟨rfl, H17.out.trans (hb18.mono H17.out.size)⟩
end Go.Proofs.Ytkjiobbkbhmijaa.U
