/-
  The walk of TextPlays.
-/
import Derived.Test.YtndlebopfojjeaaTDuo
import Derived.Test.YtndlebopfojjeaaTWide
namespace Go.Proofs.Ytndlebopfojjeaa.U
open Go.RowKit
set_option linter.unusedVariables false
set_option linter.unusedSimpArgs false
set_option maxRecDepth 100000

/-- behind i deeds -/
def YP (B bt bx i : Nat) (w wr : World) : Prop := ∃ R, Duo B noQ wr bt bx (65536 * i) R R ∧ Below B w wr

set_option maxHeartbeats 8000000 in
theorem textPlays_wide (a : Option Addr) (len cap : Nat) (L : List (List Int)) (da : Option Addr) (dl dc : Nat) (w : World) (h : RdL (fun k => k < w.heap.size) w a len cap L) (hd : RdDW w da dl dc) (hw : WideL L) :
    Calls Try.prog 3 #[.slice a len cap, .slice da dl dc] w fun e w' => e = .returned (.bool true) ∧ Below w.heap.size w w' := by
  have HSM := Lib.hid (small_wide _ a len cap L w h hw)
  have HOP : Hid (smallL L = true → Calls Try.prog 11 #[.slice a len cap] w (OpenPost w L)) := fun e => open_any _ a len cap L w h (by have := smallL_wide e; omega)
  have HD := Lib.hid hd
  have hdl : dl ≤ 9223372036854775807 := by have := hd.1; have := hd.2.1; unfold maxLen at this; omega
  obtain ⟨B, hB⟩ : ∃ B, w.heap.size = B := ⟨_, rfl⟩
  have HBE := Lib.hid hB
  rw [hB]
  clear h hd hw hB
  cases hsm : smallL L with
  | false =>
    rw [hsm] at HSM
    go_enter Try.func3, Try.ntmps3
    go_wp2_with (go_at_call 10; refine HSM.out.mono ?_; rintro e w' ⟨rfl, rfl⟩)
    go_ret
    exact ⟨rfl, Below.refl _ _⟩
  | true =>
    rw [hsm] at HSM
    have HOP2 := Lib.hid (HOP.out hsm)
    clear hsm
    go_enter Try.func3, Try.ntmps3
    go_wp2_with fail
    refine HSM.out.mono ?_
    rintro e w' ⟨rfl, rfl⟩
    go_wp2_with fail
    refine HOP2.out.mono ?_
    clear HSM HOP HOP2
    rintro e w1 ⟨v6, v7, s1, rfl, hs1, hbo, hb1⟩
    rw [HBE.out] at hs1 hb1
    rcases hbo with ⟨hno, rfl, rfl⟩ | ⟨hok, bt, bx, s2, rfl, rfl, hss, T1, X1⟩
    · have HB1 := Lib.hid hb1
      clear hb1
      go_wp2_with fail
      go_ret
      exact ⟨rfl, HB1.out⟩
    have HY : Hid (YP B bt bx 0 w w1) := ⟨normL L, ⟨_, _, T1.bound, X1.bound, fun k hk hg => by have := hk.1; have := hg.1; omega, fun k hk => ⟨by have := hk.1; omega, hk.2, id⟩, fun k hk => ⟨by have := hk.1; omega, hk.2, id⟩⟩, hb1⟩
    clear hok hss T1 X1 hb1 hs1
    go_wp2_with fail
    go_loopw [8] (fun v wr => ∃ i : Nat, v = .int .i64 i ∧ i ≤ dl ∧ i ≤ 40 ∧ Hid (YP B bt bx i w wr)) (fun v _ => 40 - (intOf v).toNat)
    case atStart => exact ⟨0, rfl, Nat.zero_le _, by omega, HY⟩
    case round =>
      obtain ⟨i, rfl, hi, hi4, hy⟩ := hrel
      clear HY
      by_cases hlt : i < dl ∧ i < 40
      · obtain ⟨hlt, h40⟩ := hlt
        obtain ⟨R, hduo, hbl⟩ := hy.out
        have HY2 : Hid (YP B bt bx (i + 1) w wr) := ⟨R, hduo.mono (by omega), hbl⟩
        obtain ⟨b, off, rfl, hbB, k, n, p, q, r, s, al, ll, cl, LL, ma, mn, mc, M, q1, q2, q3, q4, q5, hr, hm, hms, c0, c1, c2, c3, c4, c5, c6, c7⟩ := HD.out.get HBE.out hbl hlt
        have hll := (hr w (Below.refl _ _)).small
        have hsz : B ≤ wr.heap.size := by have := hbl.size; have := HBE.out; omega
        have hbw : b < wr.heap.size := by omega
        by_cases hL : 1000 < ll
        · have t1 : (1000 : Int) < (ll : Int) := by omega
          clear hduo hbl hr hm
          go_wp2_with fail
          go_roundw
          case rel => exact ⟨i + 1, by go_num, by omega, by omega, HY2⟩
          case measure => simp [intOf]; omega
        · have t1 : ¬ (1000 : Int) < (ll : Int) := by omega
          have HSM := Lib.hid (small_wide _ ma mn mc M wr (hm wr hbl) hms)
          cases hsm : smallL M with
          | false =>
            rw [hsm] at HSM
            clear hduo hbl hr hm
            go_wp2_with (go_at_call 10; refine HSM.out.mono ?_; rintro e w' ⟨rfl, rfl⟩)
            go_roundw
            case rel => exact ⟨i + 1, by go_num, by omega, by omega, HY2⟩
            case measure => simp [intOf]; omega
          | true =>
            rw [hsm] at HSM
            have HDO := Lib.hid (do_any B wr bt bx (65536 * i) R hsz hduo (by unfold lim; omega) k n p q r s al ll cl LL ma mn mc M q1 q2 q3 q4 q5 (fun W hW => hr W (hbl.trans hW)) (by omega) (fun W hW => hm W (hbl.trans hW)) (smallL_wide hsm))
            have HBL := Lib.hid hbl
            clear hduo hbl hr hm hsm HY2
            go_wp2_with fail
            refine HSM.out.mono ?_
            rintro e w' ⟨rfl, rfl⟩
            go_wp2_with fail
            refine HDO.out.mono ?_
            rintro e w2 ⟨rfl, R2, hd2, hb2⟩
            have HD2 := Lib.hid hd2
            have HB2 : Hid (Below B w w2) := HBL.out.trans hb2
            have hz2 : B ≤ w2.heap.size := by have := hb2.size; omega
            have HSA := Lib.hid (same_any B w2 bt bx (65536 * i + 65536) R2 hd2 (by unfold lim; omega))
            clear hd2 hb2 HDO c0 c1 c2 c3 c4 c5 c6 c7 hbw
            go_wp2_with fail
            refine HSA.out.mono ?_
            rintro e w3 ⟨rfl, hb3⟩
            have HY3 : Hid (YP B bt bx (i + 1) w w3) := ⟨R2, (HD2.out.below hb3).mono (by omega), HB2.out.trans (hb3.mono hz2)⟩
            clear hb3 HSA
            go_wp2_with fail
            go_roundw
            case rel => exact ⟨i + 1, by go_num, by omega, by omega, HY3⟩
            case measure => simp [intOf]; omega
      · obtain ⟨R, hduo, hbl⟩ := hy.out
        have HBL := Lib.hid hbl
        have hsz : B ≤ wr.heap.size := by have := hbl.size; have := HBE.out; omega
        clear hduo hbl hy
        by_cases h1 : i < dl
        · have h2 : ¬ i < 40 := by omega
          go_wp2_with fail
          refine (awake_any wr).mono ?_
          rintro e w' ⟨rfl, hb⟩
          go_wp2_with fail
          go_ret
          exact ⟨rfl, HBL.out.trans (hb.mono hsz)⟩
        · go_wp2_with fail
          refine (awake_any wr).mono ?_
          rintro e w' ⟨rfl, hb⟩
          go_wp2_with fail
          go_ret
          exact ⟨rfl, HBL.out.trans (hb.mono hsz)⟩
end Go.Proofs.Ytndlebopfojjeaa.U
