/-
  The walk of PatGroups.
-/
import Derived.Test.YtkjiobbkbhmijaaRTimes
import Derived.Test.YtkjiobbkbhmijaaRQuote
import Derived.Test.YtkjiobbkbhmijaaRSame
namespace Go.Proofs.Ytkjiobbkbhmijaa.U
open Go.RowKit
set_option linter.unusedVariables false
set_option linter.unusedSimpArgs false
set_option maxRecDepth 100000

/-- a box that holds a part whose blocks are F -/
def BxS (F : Nat → Prop) (g : Nat) (y : Re) (w : World) : Prop :=
  ∃ k4 r4 sa4 sn4 sc4 nt4 l4 h4 pa4 pn4 pc4, w.heap[g]? = some (.cells #[.int .i64 k4, .int .i32 r4, .slice sa4 sn4 sc4, .bool nt4, .int .i64 l4, .int .i64 h4, .slice pa4 pn4 pc4] 26 (0, 0)) ∧ ReAt F w [.int .i64 k4, .int .i32 r4, .slice sa4 sn4 sc4, .bool nt4, .int .i64 l4, .int .i64 h4, .slice pa4 pn4 pc4] y
theorem nestP_len (n : Nat) : (nestP n).length = 4 * n + 1 := by
  have h1 : ∀ k, (opens k).length = 2 * k := by
    intro k
    induction k with
    | zero => rfl
    | succ k ih => rw [opens, List.length_append, ih]; simp; omega
  have h2 : ∀ k, (closes k).length = 2 * k := by
    intro k
    induction k with
    | zero => rfl
    | succ k ih => rw [closes, List.length_append, ih]; simp; omega
  rw [nestP]
  simp [h1, h2]
  omega
set_option maxHeartbeats 4000000 in
theorem patGroups_walk (n : Int) (w : World) (hn : (Lit.int .i64 n).wf = true) :
    Calls Try.prog 6 #[.int .i64 n] w fun e w' => e = .returned (.bool true) ∧ Below w.heap.size w w' := by
  obtain ⟨hn0, hn1⟩ := wf_i64_in hn
  obtain ⟨N, hN⟩ : ∃ N : Nat, (max 0 (min n 20)).toNat = N := ⟨_, rfl⟩
  have hN2 : N ≤ 20 := by omega
  have HN := Lib.hid hN
  clear hn hN
  go_enter Try.func6, Try.ntmps6
  go_upto_region 1 with fail
  go_cut [0] from 11 to 13 (fun v0 wx => v0 = .int .i64 (N : Nat) ∧ wx = w)
  case first =>
    go_wp2
    all_goals go_meet
    all_goals
      have h1 := HN.out
      refine ⟨congrArg (Value.int .i64) ?_, rfl⟩; omega
  case rest =>
  obtain ⟨rfl, rfl⟩ := hcut
  clear hn0 hn1 HN
  go_wp2_with fail
  go_loopw [3, 4] (fun v3 v4 wr => ∃ (i : Nat) (a' : Option Addr) (n' c' : Nat), v3 = .slice a' n' c' ∧ v4 = .int .i64 (i : Nat) ∧ i ≤ N ∧ Hid (n' = 2 * i) ∧ Hid (OwR wr wc.heap.size a' n' c' (opens i) ∧ Below wc.heap.size wc wr)) (fun _ v4 _ => N - (intOf v4).toNat)
  case atStart => exact ⟨0, none, 0, 0, rfl, rfl, by omega, rfl, ⟨rfl, World.ownsRow_nil _ _ _ _, fun x hx => by simp [opens] at hx⟩, Below.refl _ _⟩
  case round =>
    obtain ⟨i, a1, n1, c1, rfl, rfl, hi, hn1, HW⟩ := hrel
    by_cases hlt : i < N
    · have hgi : (i : Int) < (N : Int) := by omega
      obtain ⟨a5, c5, w5, HR5, H5⟩ := HW.out.1.appL HW.out.2.size #[.int .i32 92, .int .i32 40] [92, 40] 2 rfl rfl (by omega) (by decide) (by have := hn1.out; omega)
      go_wp2_with (at_builtin; with_reducible refine Lib.wpList_append_run _ rfl (.tmp 19) (.tmp 20) _ _ rfl _ _ rfl rfl _ _ (HR5.out _) ?_)
      go_roundw
      case rel => exact ⟨i + 1, a5, n1 + 2, c5, rfl, by go_num, by omega, (by have := hn1.out; show _ = _; omega), H5.out.1, HW.out.2.trans H5.out.2⟩
      case measure => simp [intOf]; omega
    · obtain rfl : i = N := by omega
      obtain ⟨a2, c2, w2, HR2, H2⟩ := HW.out.1.appL HW.out.2.size #[.int .i32 97] [97] 1 rfl rfl (by omega) (by decide) (by have := hn1.out; omega)
      have HB2 : Hid (Below wc.heap.size wc w2) := HW.out.2.trans H2.out.2
      obtain ⟨n2, hn2⟩ : ∃ n2, n1 + 1 = n2 := ⟨_, rfl⟩
      have HO2 : Hid (OwR w2 wc.heap.size a2 n2 c2 (opens i ++ [97])) := by
        have := H2.out.1
        rw [hn2] at this
        exact this
      have hn2' : Hid (n2 = 2 * i + 1) := by have := hn1.out; show _ = _; omega
      go_upto_region 7 with fail
      go_upto_region 8 with (at_builtin; with_reducible refine Lib.wpList_append_run _ rfl (.tmp 22) (.tmp 23) _ _ rfl _ _ rfl rfl _ _ (HR2.out _) ?_)
      (try rw [hn2])
      clear hn2 hn1 H2 HW HR2
      go_wp2_with fail
      go_loopw [3, 5] (fun v3 v5 wr => ∃ (j : Nat) (a' : Option Addr) (n' c' : Nat), v3 = .slice a' n' c' ∧ v5 = .int .i64 (j : Nat) ∧ j ≤ i ∧ Hid (n' = 2 * i + 1 + 2 * j) ∧ Hid (OwR wr wc.heap.size a' n' c' (opens i ++ [97] ++ closes j) ∧ Below wc.heap.size wc wr)) (fun _ v5 _ => i - (intOf v5).toNat)
      case atStart => exact ⟨0, a2, n2, c2, rfl, rfl, by omega, (by have := hn2'.out; show _ = _; omega), by rw [closes, List.append_nil]; exact HO2.out, HB2.out⟩
      case round =>
        rename World => wz
        obtain ⟨j, a3, n3, c3, rfl, rfl, hj, hn3, HW⟩ := hrel
        by_cases hjl : j < i
        · have hgj : (j : Int) < (i : Int) := by omega
          obtain ⟨a5, c5, w5, HR5, H5⟩ := HW.out.1.appL HW.out.2.size #[.int .i32 92, .int .i32 41] [92, 41] 2 rfl rfl (by omega) (by decide) (by have := hn3.out; omega)
          go_wp2_with (at_builtin; with_reducible refine Lib.wpList_append_run _ rfl (.tmp 30) (.tmp 31) _ _ rfl _ _ rfl rfl _ _ (HR5.out _) ?_)
          go_roundw
          case rel => exact ⟨j + 1, a5, n3 + 2, c5, rfl, by go_num, by omega, (by have := hn3.out; show _ = _; omega), by rw [closes, ← List.append_assoc]; exact H5.out.1, HW.out.2.trans H5.out.2⟩
          case measure => simp [intOf]; omega
        · obtain rfl : j = i := by omega
          have HO3 : Hid (OwR wz wc.heap.size a3 n3 c3 (nestP j)) := HW.out.1
          have HB3 : Hid (Below wc.heap.size wc wz) := HW.out.2
          clear HW HO2 HB2
          have hf := nest_facts j hN2
          have hn3b : n3 ≤ 100 := by have := hn3.out; omega
          by_cases h16 : 16 < j
          · have g1 : (16 : Int) < (j : Int) := by omega
            have HPE := Lib.hid (hf.2.1 h16)
            clear hf
            go_wp2_with (first
              | (go_at_call 8; refine (prErr (nestP j) n3 12 HPE.out (by omega) _ _ wz HO3.out.rd).mono ?_; rintro e w8 ⟨rfl, H8⟩)
              | (go_at_call 14; refine (awake_any _).mono ?_; rintro e w9 ⟨rfl, hb9⟩))
            go_ret
            exact ⟨rfl, HB3.out.trans ((btr H8.out (btr (bal w8 _) hb9)).mono HB3.out.size)⟩
          · have g1 : ¬ (16 : Int) < (j : Int) := by omega
            obtain ⟨gg, hpk⟩ := hf.1 (by omega)
            have HPK := Lib.hid hpk
            have HPE := Lib.hid (hf.2.2 (by omega))
            clear hf hpk
            go_upto_region 13 with (go_at_call 8; refine (parse_any _ _ _ (nestP j) wz HO3.out.rd (by omega)).mono ?_; rw [HPK.out]; intro e w8 hh; obtain ⟨k4, r4, sa4, sn4, sc4, nt4, l4, h4, pa4, pn4, pc4, he, hre, hb8⟩ := hh; subst he; have HB8 := Lib.hid hb8; have HRE := Lib.hid hre; clear hre hb8)
            obtain ⟨w9, hw9⟩ : ∃ w9, w8.alloc (.cells #[.int .i64 k4, .int .i32 r4, .slice sa4 sn4 sc4, .bool nt4, .int .i64 l4, .int .i64 h4, .slice pa4 pn4 pc4] 26) = w9 := ⟨_, rfl⟩
            have hb9 : Below w8.heap.size w8 w9 := by rw [← hw9]; exact bal _ _
            have hg9 : w9.heap[w8.heap.size]? = some (.cells #[.int .i64 k4, .int .i32 r4, .slice sa4 sn4 sc4, .bool nt4, .int .i64 l4, .int .i64 h4, .slice pa4 pn4 pc4] 26 (0, 0)) := by rw [← hw9]; exact heap_alloc_new w8 _
            rw [hw9]
            have HX9 : Hid (BxS (New wz w8) w8.heap.size (nestR j 1) w9) := ⟨k4, r4, sa4, sn4, sc4, nt4, l4, h4, pa4, pn4, pc4, hg9, ReAt.frF (Fr.of_below (fun _ => False) hb9) (fun _ _ h => h) _ HRE.out⟩
            have H9 : Hid (OwR w9 wc.heap.size a3 n3 c3 (nestP j) ∧ Below wc.heap.size wc w9 ∧ wc.heap.size ≤ w8.heap.size ∧ w8.heap.size < w9.heap.size) := ⟨(HO3.out.below HB8.out).below hb9, (HB3.out.trans (HB8.out.mono HB3.out.size)).trans (hb9.mono (by have := HB3.out.size; have := HB8.out.size; omega)), by have := HB3.out.size; have := HB8.out.size; omega, heap_lt hg9⟩
            clear hw9 hb9 hg9 HRE
            have hb10 := bal w9 (.cells #[] 21)
            obtain ⟨a11, c11, w11, HR11, H11⟩ := (owr_lit w9 #[] [] 0 rfl rfl (by omega) (by simp)).app hb10.size (H9.out.1.below hb10).rd (by omega)
            rw [Nat.zero_add] at HR11 H11
            have H11b : Hid (Below w9.heap.size w9 w11) := hb10.trans H11.out.2
            obtain ⟨a12, c12, w12, HR12, H12⟩ := H11.out.1.appL H11b.out.size #[.int .i32 92, .int .i32 41] [92, 41] 2 rfl rfl (by omega) (by decide) (by omega)
            have HO12 : Hid (OwR w12 w9.heap.size a12 (n3 + 2) c12 (nestP j ++ [92, 41]) ∧ Below w9.heap.size w9 w12) := ⟨H12.out.1, H11b.out.trans H12.out.2⟩
            clear hb10 H11 H11b H12
            go_upto_region 16 with (first
              | (at_builtin; with_reducible refine Lib.wpList_append_run _ rfl (.tmp 46) (.tmp 47) _ _ rfl _ _ rfl rfl _ _ (HR11.out _) ?_)
              | (at_builtin; with_reducible refine Lib.wpList_append_run _ rfl (.tmp 48) (.tmp 49) _ _ rfl _ _ rfl rfl _ _ (HR12.out _) ?_)
              | (go_at_call 8; refine (prErr (nestP j ++ [92, 41]) _ 10 HPE.out (by omega) _ _ w12 HO12.out.1.rd).mono ?_; rintro e w13 ⟨rfl, H13⟩))
            obtain ⟨w14, hw14⟩ : ∃ w14, w13.alloc (.cells #[.int .i64 0, .int .i32 0, .slice none 0 0, .bool false, .int .i64 0, .int .i64 0, .slice none 0 0] 26) = w14 := ⟨_, rfl⟩
            rw [hw14]
            have hb14 : Below w9.heap.size w9 w14 := by
              rw [← hw14]
              exact HO12.out.2.trans ((btr H13.out (bal w13 _)).mono HO12.out.2.size)
            obtain ⟨G, hG⟩ : ∃ G, w8.heap.size = G := ⟨_, rfl⟩
            rw [hG]
            have HX14 : Hid (BxS (New wz w8) G (nestR j 1) w14 ∧ Below wc.heap.size wc w14 ∧ wc.heap.size ≤ G) := by
              rw [← hG]
              obtain ⟨k4, r4, sa4, sn4, sc4, nt4, l4, h4, pa4, pn4, pc4, h1, h2⟩ := HX9.out
              exact ⟨⟨k4, r4, sa4, sn4, sc4, nt4, l4, h4, pa4, pn4, pc4, (hb14.block _ (heap_lt h1)).trans h1, ReAt.frF (Fr.of_below (fun _ => False) hb14) (fun _ _ h => h) _ h2⟩, H9.out.2.1.trans (hb14.mono H9.out.2.1.size), H9.out.2.2.1⟩
            have HNG : Hid (∀ k, New wz w8 k → ¬ k = G) := by
              rintro k ⟨-, h⟩ e
              omega
            clear hw14 hb14 HR11 HR12 HO12 H9 HX9 hG
            go_wp2_with fail
            go_loopw [10] (fun v10 wq => ∃ (i k : Nat), v10 = .int .i64 (i : Nat) ∧ i + k = j + 1 ∧ 1 ≤ i ∧ Hid (BxS (New wz w8) G (nestR k i) wq ∧ Below wc.heap.size wc wq)) (fun v10 _ => j + 1 - (intOf v10).toNat)
            case atStart => exact ⟨1, j, rfl, by omega, by omega, HX14.out.1, HX14.out.2.1⟩
            case round =>
              obtain ⟨i, k, rfl, hik, hi1, HW⟩ := hrel
              obtain ⟨K, r, sa, sn, sc, nt, lo, hh, pa, pn, pc, hgx, hre⟩ := HW.out.1
              by_cases hlt : i ≤ j
              · have hgi : (i : Int) ≤ (j : Int) := by omega
                obtain ⟨k, rfl⟩ : ∃ k', k = k' + 1 := ⟨k - 1, by omega⟩
                have hre2 : ReAt (New wz w8) wr [.int .i64 K, .int .i32 r, .slice sa sn sc, .bool nt, .int .i64 lo, .int .i64 hh, .slice pa pn pc] (.mk 11 0 [] false (i : Nat) 0 [nestR k (i + 1)]) := hre
                obtain ⟨rfl, rfl, rfl, rfl, rfl, rfl, hpn, hget⟩ := hre2.parts
                have hpn1 : pn = 1 := hpn
                subst hpn1
                obtain ⟨b, off, rfl, v, hv, hc⟩ := hget 0 _ rfl
                obtain ⟨k5, r5, sa5, sn5, sc5, nt5, l5, h5, pa5, pn5, pc5, rfl⟩ := hv.rev7
                have c0 : wr.cell? ⟨b, off, none⟩ = some (.int .i64 k5) := hc 0 _ rfl
                have c1 : wr.cell? ⟨b, off + 1, none⟩ = some (.int .i32 r5) := hc 1 _ rfl
                have c2 : wr.cell? ⟨b, off + 2, none⟩ = some (.slice sa5 sn5 sc5) := hc 2 _ rfl
                have c3 : wr.cell? ⟨b, off + 3, none⟩ = some (.bool nt5) := hc 3 _ rfl
                have c4 : wr.cell? ⟨b, off + 4, none⟩ = some (.int .i64 l5) := hc 4 _ rfl
                have c5 : wr.cell? ⟨b, off + 5, none⟩ = some (.int .i64 h5) := hc 5 _ rfl
                have c6 : wr.cell? ⟨b, off + 6, none⟩ = some (.slice pa5 pn5 pc5) := hc 6 _ rfl
                obtain ⟨p0, p1, p2, p3, p4, p5, p6, f0, f1, f2, f3, f4, f5, f6⟩ := row7 hgx
                have HPUT := Lib.hid (put7 hgx (.int .i64 k5) (.int .i32 r5) (.slice sa5 sn5 sc5) (.bool nt5) (.int .i64 l5) (.int .i64 h5) (.slice pa5 pn5 pc5))
                have HV := Lib.hid hv
                clear hc hget hre hre2 hv hpn hgx
                go_wp2_with fail
                go_roundw
                case rel =>
                  refine ⟨i + 1, k, by go_num, by omega, by omega, ⟨k5, r5, sa5, sn5, sc5, nt5, l5, h5, pa5, pn5, pc5, HPUT.out.1, ReAt.frF HPUT.out.2 HNG.out _ HV.out⟩, ?_⟩
                  (repeat' (refine setCell_below ?_ _ _ _ ?_)) <;> first | exact HW.out.2 | exact HX14.out.2.2
                case measure => simp [intOf]; omega
              · have hgi : ¬ (i : Int) ≤ (j : Int) := by omega
                obtain rfl : k = 0 := by omega
                obtain ⟨p0, p1, p2, p3, p4, p5, p6, -⟩ := row7 hgx
                have HSAME : Hid (∀ W : World, Below wr.heap.size wr W → Calls Try.prog 10 #[.agg #[.int .i64 K, .int .i32 r, .slice sa sn sc, .bool nt, .int .i64 lo, .int .i64 hh, .slice pa pn pc], .agg #[.int .i64 1, .int .i32 97, .slice none 0 0, .bool false, .int .i64 0, .int .i64 0, .slice none 0 0]] W fun e w' => e = .returned (.bool true) ∧ Below W.heap.size W w') := by
                  intro W hW
                  have h := same_any (Re.rune 97) (Re.rune 97) (New wz w8) (fun _ => False) _ _ W (ReAt.frF (Fr.of_below (fun _ => False) hW) (fun _ _ h => h) _ hre) (ReAt.simple _ W 1 97 false)
                  rw [(Re.same_iff (Re.rune 97) (Re.rune 97)).2 rfl] at h
                  exact h
                clear hgx hre
                go_wp2_with (first
                  | (go_at_call 10; refine (HSAME.out _ (by first | exact Below.refl _ _ | exact (Below.refl _ _).drew)).mono ?_; rintro e w15 ⟨rfl, hb15⟩; have HB15 := Lib.hid hb15; clear hb15)
                  | (go_at_call 14; refine (awake_any _).mono ?_; rintro e w16 ⟨rfl, hb16⟩; have HB16 := Lib.hid hb16; clear hb16))
                go_ret
                exact ⟨rfl, HW.out.2.trans ((btr HB15.out HB16.out).mono HW.out.2.size)⟩
end Go.Proofs.Ytkjiobbkbhmijaa.U
