/-
  The walk of MarksRound.
-/
import Derived.Test.YtbgbhlnidabhnaaMRnd
namespace Go.Proofs.Ytbgbhlnidabhnaa.U
open Go.RowKit
set_option linter.unusedVariables false
set_option linter.unusedSimpArgs false
set_option maxRecDepth 100000

theorem new_a (w : World) : Calls Try.prog 12 #[] w fun e w' => ∃ bt, e = .returned (.pointer (some ⟨bt, 0, none⟩)) ∧ Hid (Aw w.heap.size [] w' bt ms0) ∧ Hid (Below w.heap.size w w') := by
  refine (new_any _).mono ?_
  rintro e w' ⟨rfl, hM, hb⟩
  exact ⟨_, rfl, Aw.fresh hM (fun k hk => hk.1), hb⟩

theorem ans_here : ansV (some herE) = .tuple #[.agg #[.int .i64 1000, .int .i64 5], .bool true] := rfl
theorem Aw.getH {B : Nat} {hs : List (Nat × Po)} {w : World} {bt : Nat} {s : Ms} (h : Aw B hs w bt s) {k : Nat} (hk : (k, herE) ∈ hs) : w.cell? ⟨k, 0, none⟩ = some (.int .i64 1000) ∧ w.cell? ⟨k, 1, none⟩ = some (.int .i64 5) := h.get hk
theorem Aw.moreH {B : Nat} {hs : List (Nat × Po)} {w : World} {bt : Nat} {s : Ms} (h : Aw B hs w bt s) : Aw B ((w.heap.size, herE) :: hs) (w.alloc (.cells #[.int .i64 1000, .int .i64 5] 23)) bt s := h.more herE
set_option maxHeartbeats 4000000 in
theorem marksRound_walk (n : Int) (w : World) (hn : (Lit.int .i64 n).wf = true) :
    Calls Try.prog 6 #[.int .i64 n] w fun e w' => e = .returned (.bool true) ∧ Below w.heap.size w w' := by
  obtain ⟨n1, n2⟩ := wf_i64_in hn
  clear hn
  have tok1 : True := trivial
  have tok2 : True := trivial
  have tok3 : True := trivial
  have tok4 : True := trivial
  have tok5 : True := trivial
  have tok6 : True := trivial
  go_enter Try.func6, Try.ntmps6
  go_upto_region 1 with fail
  go_cut [0] (fun s0 wx => ∃ m : Nat, s0 = .int .i64 m ∧ 1 ≤ m ∧ m ≤ 99 ∧ wx = w)
  case first =>
    by_cases h1 : n < 1
    · go_wp2_with fail
      all_goals
        go_meet
        exact ⟨1, by first | rfl | (congr 1; omega) | (congr 1; simp only [Int.min_def, Int.max_def]; split <;> split <;> omega), by omega, by omega, rfl⟩
    · by_cases h2 : n ≤ 99
      · go_wp2_with fail
        all_goals
          go_meet
          exact ⟨n.toNat, by first | rfl | (congr 1; omega) | (congr 1; simp only [Int.min_def, Int.max_def]; split <;> split <;> omega), by omega, by omega, rfl⟩
      · go_wp2_with fail
        all_goals
          go_meet
          exact ⟨99, by first | rfl | (congr 1; omega) | (congr 1; simp only [Int.min_def, Int.max_def]; split <;> split <;> omega), by omega, by omega, rfl⟩
  case rest =>
    obtain ⟨m, rfl, hm1, hm2, rfl⟩ := hcut
    clear n1 n2
    go_wp2_with (go_at_call 12; have _t := tok1; refine (new_a _).mono ?_; rintro e w1 ⟨bt, rfl, hA1, hb1⟩; clear tok1 _t)
    go_loopw [4] (fun iv wr => ∃ k : Nat, k ≤ m ∧ iv = .int .i64 k ∧ Hid (Aw wc.heap.size [] wr bt ⟨[], rowJ k, k⟩) ∧ Hid (Below wc.heap.size wc wr)) (fun i _ => m - (intOf i).toNat)
    case atStart => exact ⟨0, by omega, rfl, hA1, hb1⟩
    case round =>
      obtain ⟨k, hk, rfl, hA, hB⟩ := hrel
      by_cases hlt : k < m
      · have h3 : IntKind.i64.wrap (3 * (k : Int)) = 3 * (k : Int) := by rw [IntKind.wrap_i64]; omega
        go_wp2_with (go_at_call 19; refine (hA.out.push ⟨3 * (k : Int), (k : Int)⟩ (okRow (by omega) (Nat.le_refl _))).mono ?_; rw [push_row (by omega)]; rintro e w2 ⟨rfl, hA2, hb2⟩)
        go_roundw
        case rel => exact ⟨k + 1, by omega, by go_num, hA2, hB.out.trans hb2.out⟩
        case measure => simp [intOf]; omega
      · obtain rfl : k = m := by omega
        have hA' := Lib.hid (hA.out.more herE)
        have hA3 : Hid (Aw wc.heap.size [(wr.heap.size, herE)] (wr.alloc (.cells #[.int .i64 1000, .int .i64 5] 23)) bt (goneS k k)) := by
          show Aw _ _ _ _ _
          unfold goneS
          rw [if_pos rfl]
          exact hA'.out
        have hB3 : Hid (Below wc.heap.size wc (wr.alloc (.cells #[.int .i64 1000, .int .i64 5] 23))) := hB.out.alloc hB.out.size _
        obtain ⟨wq, hwq⟩ : ∃ wq, wr.alloc (.cells #[.int .i64 1000, .int .i64 5] 23) = wq := ⟨_, rfl⟩
        rw [hwq] at hA3 hB3
        obtain ⟨hb, hhb⟩ : ∃ hb, wr.heap.size = hb := ⟨_, rfl⟩
        rw [hhb] at hA3
        clear hA hA'
        have hk1 : ((k - 1 : Nat) : Int) = (k : Int) - 1 := by omega
        go_wp2
        go_loopw [6] (fun iv ww => ∃ j : Nat, j ≤ k ∧ iv = .int .i64 ((j : Int) - 1) ∧ Hid (Aw wc.heap.size [(hb, herE)] ww bt (goneS k j)) ∧ Hid (Below wc.heap.size wc ww)) (fun i _ => (intOf i + 1).toNat)
        case atStart => exact ⟨k, by omega, rfl, hA3, hB3⟩
        case round =>
          obtain ⟨j, hj, rfl, hA, hB⟩ := hrel
          by_cases hpos : 1 ≤ j
          · obtain ⟨i, hi⟩ : ∃ i : Nat, j = i + 1 := ⟨j - 1, by omega⟩
            have hii : (j : Int) - 1 = (i : Int) := by omega
            rw [hii]
            subst hi
            clear hii hpos
            have hik : i < k := by omega
            have h3 : IntKind.i64.wrap (3 * (i : Int)) = 3 * (i : Int) := by rw [IntKind.wrap_i64]; omega
            obtain ⟨x0, x1⟩ := hA.out.get (k := hb) (q := herE) (by simp)
            have e0 : herE.l = 1000 := rfl
            have e1 : herE.c = 5 := rfl
            rw [e0] at x0
            rw [e1] at x1
            have hok : (goneS k (i + 1)).ok 0 := by
              unfold goneS
              split
              · exact okRow (by omega) (Nat.le_refl _)
              · exact okRowH (by omega) (by omega)
            have HOK := Lib.hid hok
            clear hok e0 e1
            have hi0 : (0 : Int) ≤ (i : Int) := by omega
            go_wp2_with (go_at_call 21; refine (hA.out.back herE HOK.out).mono ?_; rw [back_row (by omega) hik, ans_some]; rintro e w3 ⟨rfl, hA4, hb4⟩)
            go_roundw
            case rel => exact ⟨i, by omega, rfl, (hA4.out.more ⟨3 * (i : Int), (i : Int)⟩).less (by simp), (hB.out.trans hb4.out).alloc (hB.out.trans hb4.out).size _⟩
            case measure => simp [intOf]
          · obtain rfl : j = 0 := by omega
            have hg0 : goneS k 0 = ⟨[], rowH k, 0⟩ := if_neg (by omega)
            rw [hg0] at hA
            clear hg0
            rw [show ((0 : Nat) : Int) - 1 = -1 from rfl]
            go_wp2
            go_loopw [9] (fun iv ww => ∃ j : Nat, 1 ≤ j ∧ j ≤ k ∧ iv = .int .i64 (j : Int) ∧ Hid (Aw wc.heap.size [(hb, herE)] ww bt ⟨[], rowH k, j - 1⟩) ∧ Hid (Below wc.heap.size wc ww)) (fun i _ => k - (intOf i).toNat)
            case atStart => exact ⟨1, by omega, hm1, rfl, hA, hB⟩
            case round =>
              obtain ⟨j, hj1, hjk, rfl, hA, hB⟩ := hrel
              by_cases hlt : j < k
              · have h3 : IntKind.i64.wrap (3 * (j : Int)) = 3 * (j : Int) := by rw [IntKind.wrap_i64]; omega
                have hf := forth_row (n := k) (i := j - 1) (by omega)
                rw [show j - 1 + 1 = j by omega] at hf
                have HF := Lib.hid hf
                clear hf
                go_wp2_with (go_at_call 23; refine (hA.out.forth (okRowH (by omega) (by omega))).mono ?_; rw [HF.out, ans_some]; rintro e w5 ⟨rfl, hA5, hb5⟩)
                go_roundw
                case rel => exact ⟨j + 1, by omega, by omega, by go_num, (hA5.out.more ⟨3 * (j : Int), (j : Int)⟩).less (by simp), (hB.out.trans hb5.out).alloc (hB.out.trans hb5.out).size _⟩
                case measure => simp [intOf]; omega
              · obtain rfl : j = k := by omega
                have HF1 := Lib.hid (forth_here (n := j) hj1)
                have HF2 := Lib.hid (forth_end j)
                go_wp2_with (go_at_call 23; have _t := tok4; refine (hA.out.forth (okRowH (by omega) (by omega))).mono ?_; rw [HF1.out, ans_here]; rintro e w5 ⟨rfl, hA5, hb5⟩; have hA5' := Lib.hid hA5.out.moreH; clear tok4 _t)
                go_wp2_with (first | (go_at_call 23; have _t := tok5; refine (hA5'.out.forth (okRowH (by omega) (by omega))).mono ?_; rw [HF2.out, ans_none]; rintro e w6 ⟨rfl, hA6, hb6⟩; have hA6' := Lib.hid (hA6.out.more ⟨0, 0⟩); obtain ⟨x0, x1⟩ := hA6'.out.getH (k := hb) (by simp); obtain ⟨y0, y1⟩ := hA6'.out.getH (k := w5.heap.size) (by simp); clear tok5 _t) | (go_at_call 11; refine (awake_ok _).mono ?_; rintro e w7 ⟨rfl, hb7⟩))
                go_ret
                have al : ∀ {a : World} (o : Obj), Below wc.heap.size wc a → Below wc.heap.size wc (a.alloc o) := fun o ha => ha.alloc ha.size o
                have b6 := al (.cells #[.int .i64 0, .int .i64 0] 23) ((al (.cells #[.int .i64 1000, .int .i64 5] 23) (hB.out.trans hb5.out)).trans hb6.out)
                exact ⟨rfl, b6.trans (hb7.mono b6.size)⟩
end Go.Proofs.Ytbgbhlnidabhnaa.U
