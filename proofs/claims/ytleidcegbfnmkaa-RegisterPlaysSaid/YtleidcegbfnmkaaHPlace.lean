/-
  The program's place, target, isOver.
-/
import Derived.Test.YtleidcegbfnmkaaHMem
namespace Go.Proofs.Ytleidcegbfnmkaa.U
open Go.RowKit
set_option linter.unusedVariables false
set_option linter.unusedSimpArgs false
set_option maxRecDepth 100000

/-- where what stands under a name lies, and whether there is one of that name -/
def spotI (last : Nat) (n : Int) : Int := if mayG (nameG n) then ((plN last (nameG n) : Nat) : Int) else 0
theorem spot_last (last : Nat) {n : Int} (h : n = 0 ∨ n = 34) : spotI last n = last ∧ mayG (nameG n) = true := by
  rcases h with rfl | rfl
  · exact ⟨rfl, rfl⟩
  · exact ⟨rfl, rfl⟩
theorem spot_dash (last : Nat) : spotI last 45 = 0 ∧ mayG (nameG 45) = true := ⟨rfl, by decide⟩
theorem name_self {n : Int} (h0 : n ≠ 0) (hb : bigR n = false) : nameG n = n := by
  unfold nameG
  rw [if_neg h0, hb]
  rfl
theorem spot_digit (last : Nat) {n : Int} (h1 : 48 ≤ n) (h2 : n ≤ 57) : spotI last n = 1 + (n - 48) ∧ mayG (nameG n) = true := by
  have hb : bigR n = false := by unfold bigR; simp; omega
  have hn := name_self (by omega) hb
  have hm : mayG n = true := by unfold mayG littleR; simp; omega
  unfold spotI
  rw [hn, hm, if_pos rfl]
  refine ⟨?_, rfl⟩
  unfold plN plI
  rw [if_neg (by omega), if_neg (by omega), if_pos h2]
  omega
theorem spot_little (last : Nat) {n : Int} (h1 : 97 ≤ n) (h2 : n ≤ 122) : spotI last n = 11 + (n - 97) ∧ mayG (nameG n) = true := by
  have hb : bigR n = false := by unfold bigR; simp; omega
  have hn := name_self (by omega) hb
  have hm : mayG n = true := by unfold mayG littleR; simp; omega
  unfold spotI
  rw [hn, hm, if_pos rfl]
  refine ⟨?_, rfl⟩
  unfold plN plI
  rw [if_neg (by omega), if_neg (by omega), if_neg (by omega)]
  omega
theorem spot_big (last : Nat) {n : Int} (h1 : 65 ≤ n) (h2 : n ≤ 90) : spotI last n = 11 + (n - 65) ∧ mayG (nameG n) = true := by
  have hb : bigR n = true := by unfold bigR; simp; omega
  have hn : nameG n = n + 32 := by
    have e : (if n = 0 then (34 : Int) else n) = n := if_neg (by omega)
    unfold nameG
    rw [e, hb]
    rfl
  have hm : mayG (n + 32) = true := by unfold mayG littleR; simp; omega
  unfold spotI
  rw [hn, hm, if_pos rfl]
  refine ⟨?_, rfl⟩
  unfold plN plI
  rw [if_neg (by omega), if_neg (by omega), if_neg (by omega)]
  omega
theorem spot_none (last : Nat) {n : Int} (h0 : n ≠ 0) (h1 : n ≠ 34) (h2 : n ≠ 45) (h3 : ¬ (48 ≤ n ∧ n ≤ 57)) (h4 : ¬ (97 ≤ n ∧ n ≤ 122)) (h5 : ¬ (65 ≤ n ∧ n ≤ 90)) (h6 : n ≠ 95) : spotI last n = 0 ∧ mayG (nameG n) = false := by
  have hb : bigR n = false := by unfold bigR; simp; omega
  have hn := name_self h0 hb
  have hm : mayG n = false := by unfold mayG littleR; simp; omega
  unfold spotI
  rw [hn, hm]
  exact ⟨rfl, rfl⟩
set_option maxHeartbeats 2000000 in
theorem pplace_any (bx last : Nat) (n : Int) (w : World) (hc : w.cell? ⟨bx, 74, none⟩ = some (.int .i64 (last : Nat))) (hwf : (Lit.int .i32 n).wf = true) (h95 : n ≠ 95) :
    Calls Try.prog 22 #[.pointer (some ⟨bx, 0, none⟩), .int .i32 n] w fun e w' => e = .returned (.tuple #[.int .i64 (spotI last n), .bool (mayG (nameG n))]) ∧ w' = w := by
  have HC := Lib.hid (pcap_any n w)
  have hw := wf_i32_in hwf
  by_cases e0 : n = 0 ∨ n = 34
  · obtain ⟨h1, h2⟩ := spot_last last e0
    rw [h1, h2]
    clear h1 h2
    rcases e0 with rfl | rfl
    · go_enter Try.func22, Try.ntmps22
      go_wp2_with fail
      go_ret2
      exact ⟨rfl, rfl⟩
    · go_enter Try.func22, Try.ntmps22
      go_wp2_with fail
      go_ret2
      exact ⟨rfl, rfl⟩
  have f0 : (n == 0) = false := by simp; omega
  have f1 : (n == 34) = false := by simp; omega
  by_cases e1 : n = 45
  · obtain ⟨h1, h2⟩ := spot_dash last
    subst e1
    rw [h1, h2]
    clear h1 h2
    go_enter Try.func22, Try.ntmps22
    go_wp2_with fail
    go_ret2
    exact ⟨rfl, rfl⟩
  have f2 : (n == 45) = false := by simp; omega
  have HE := Lib.hid (And.intro e0 (And.intro e1 h95))
  clear e0 e1 h95
  by_cases d1 : 48 ≤ n ∧ n ≤ 57
  · obtain ⟨h1, h2⟩ := spot_digit last d1.1 d1.2
    rw [h1, h2]
    clear h1 h2
    obtain ⟨g1, g2⟩ := d1
    go_enter Try.func22, Try.ntmps22
    go_wp2_with fail
    go_ret2
    exact ⟨rfl, rfl⟩
  by_cases d2 : 97 ≤ n ∧ n ≤ 122
  · obtain ⟨h1, h2⟩ := spot_little last d2.1 d2.2
    rw [h1, h2]
    clear h1 h2
    obtain ⟨g1, g2⟩ := d2
    have g3 : 48 ≤ n := by omega
    have g4 : ¬ n ≤ 57 := by omega
    clear d1
    go_enter Try.func22, Try.ntmps22
    go_wp2_with fail
    go_ret2
    exact ⟨rfl, rfl⟩
  by_cases d3 : 65 ≤ n ∧ n ≤ 90
  · obtain ⟨h1, h2⟩ := spot_big last d3.1 d3.2
    rw [h1, h2]
    clear h1 h2
    obtain ⟨g1, g2⟩ := d3
    have g3 : 48 ≤ n := by omega
    have g4 : ¬ n ≤ 57 := by omega
    have g5 : ¬ 97 ≤ n := by omega
    have hb : bigR n = true := by unfold bigR; simp; omega
    rw [hb] at HC
    clear d1 d2 hb
    go_enter Try.func22, Try.ntmps22
    go_wp2_with (go_at_call 33; refine HC.out.mono ?_; rintro e w' ⟨rfl, rfl⟩)
    go_ret2
    exact ⟨rfl, rfl⟩
  · obtain ⟨h1, h2⟩ := spot_none last (fun e => HE.out.1 (.inl e)) (fun e => HE.out.1 (.inr e)) HE.out.2.1 d1 d2 d3 HE.out.2.2
    rw [h1, h2]
    clear h1 h2
    have hb : bigR n = false := by unfold bigR; simp; omega
    rw [hb] at HC
    have q1 : (decide (48 ≤ n) && decide (n ≤ 57)) = false := by simp; omega
    have q2 : (decide (97 ≤ n) && decide (n ≤ 122)) = false := by simp; omega
    clear hb d3
    by_cases a1 : 48 ≤ n
    · have a2 : ¬ n ≤ 57 := by omega
      by_cases b1 : 97 ≤ n
      · have b2 : ¬ n ≤ 122 := by omega
        clear d1 d2 q1 q2
        go_enter Try.func22, Try.ntmps22
        go_wp2_with (go_at_call 33; refine HC.out.mono ?_; rintro e w' ⟨rfl, rfl⟩)
        go_ret2
        exact ⟨rfl, rfl⟩
      · clear d1 d2 q1 q2
        go_enter Try.func22, Try.ntmps22
        go_wp2_with (go_at_call 33; refine HC.out.mono ?_; rintro e w' ⟨rfl, rfl⟩)
        go_ret2
        exact ⟨rfl, rfl⟩
    · have b1 : ¬ 97 ≤ n := by omega
      clear d1 d2 q1 q2
      go_enter Try.func22, Try.ntmps22
      go_wp2_with (go_at_call 33; refine HC.out.mono ?_; rintro e w' ⟨rfl, rfl⟩)
      go_ret2
      exact ⟨rfl, rfl⟩
/-- into which register something goes -/
def targetI (n k : Int) (len : Nat) (d : Bool) : Int := if n ≠ 0 ∧ n ≠ 34 then n else if d = false then 48 else if k = 1 ∨ 1 < len then 49 else 45
set_option maxHeartbeats 1000000 in
theorem ptarget_any (n k : Int) (a : Option Addr) (len c : Nat) (d : Bool) (w : World) (hl : len ≤ 9223372036854775807) :
    Calls Try.prog 31 #[.int .i32 n, rgV k a len c, .bool d] w fun e w' => e = .returned (.int .i32 (targetI n k len d)) ∧ Below w.heap.size w w' := by
  unfold rgV
  obtain ⟨wb, hwb⟩ : ∃ wb, w.alloc (.cells #[.int .i64 k, .slice a len c] 31) = wb := ⟨_, rfl⟩
  have hbx := box_new w k a len c
  rw [hwb] at hbx
  have hsz : wb.heap.size = w.heap.size + 1 := by rw [← hwb]; simp
  have hB : Below w.heap.size w wb := by rw [← hwb]; exact (Below.refl _ _).alloc (Nat.le_refl _) _
  have hx := hbx wb (Below.refl _ _)
  have HB := Lib.hid hB
  have HW := Lib.hid hwb
  clear hwb hB hbx hsz
  obtain ⟨b, hbe⟩ : ∃ b, w.heap.size = b := ⟨_, rfl⟩
  have HBE := Lib.hid hbe
  rw [hbe] at hx
  clear hbe
  obtain ⟨q0, q1, y0, y1, l0⟩ := hx
  by_cases e : n ≠ 0 ∧ n ≠ 34
  · have ht : targetI n k len d = n := by unfold targetI; rw [if_pos e]
    rw [ht]
    obtain ⟨e1, e2⟩ := e
    have f1 : (n != 0) = true := by simpa using e1
    have f2 : (n != 34) = true := by simpa using e2
    clear e1 e2 ht
    go_enter Try.func31, Try.ntmps31
    go_upto_region 1 with fail
    rw [HW.out, HBE.out]
    go_wp2_with fail
    go_ret
    exact ⟨rfl, HB.out⟩
  · have ht : targetI n k len d = if d = false then 48 else if k = 1 ∨ 1 < len then 49 else 45 := by unfold targetI; rw [if_neg e]
    rw [ht]
    clear ht
    have hn : n = 0 ∨ n = 34 := by omega
    clear e
    cases d with
    | false =>
      rcases hn with rfl | rfl
      all_goals
        go_enter Try.func31, Try.ntmps31
        go_upto_region 1 with fail
        rw [HW.out, HBE.out]
        go_wp2_with fail
        go_ret
        exact ⟨rfl, HB.out⟩
    | true =>
      by_cases hk : k = 1
      · have f1 : (k == 1) = true := by simpa using hk
        have ht : (if true = false then (48 : Int) else if k = 1 ∨ 1 < len then 49 else 45) = 49 := by rw [if_neg (by simp), if_pos (.inl hk)]
        rw [ht]
        clear hk ht
        rcases hn with rfl | rfl
        all_goals
          go_enter Try.func31, Try.ntmps31
          go_upto_region 1 with fail
          rw [HW.out, HBE.out]
          go_wp2_with fail
          go_ret
          exact ⟨rfl, HB.out⟩
      · have f1 : (k == 1) = false := by simpa using hk
        by_cases h1 : 1 < len
        · have ht : (if true = false then (48 : Int) else if k = 1 ∨ 1 < len then 49 else 45) = 49 := by rw [if_neg (by simp), if_pos (.inr h1)]
          rw [ht]
          clear hk ht
          rcases hn with rfl | rfl
          all_goals
            go_enter Try.func31, Try.ntmps31
            go_upto_region 1 with fail
            rw [HW.out, HBE.out]
            go_wp2_with fail
            go_ret
            exact ⟨rfl, HB.out⟩
        · have ht : (if true = false then (48 : Int) else if k = 1 ∨ 1 < len then 49 else 45) = 45 := by rw [if_neg (by simp), if_neg (by omega)]
          rw [ht]
          clear hk ht
          rcases hn with rfl | rfl
          all_goals
            go_enter Try.func31, Try.ntmps31
            go_upto_region 1 with fail
            rw [HW.out, HBE.out]
            go_wp2_with fail
            go_ret
            exact ⟨rfl, HB.out⟩
end Go.Proofs.Ytleidcegbfnmkaa.U
