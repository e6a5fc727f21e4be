/-
  The walk of TextLines.
-/
import Derived.Test.YtndlebopfojjeaaTRefP
import Derived.Test.YtndlebopfojjeaaTDeed
namespace Go.Proofs.Ytndlebopfojjeaa.U
open Go.RowKit
set_option linter.unusedVariables false
set_option linter.unusedSimpArgs false
set_option maxRecDepth 100000

set_option maxHeartbeats 8000000 in
theorem textLines_walk (a : Option Addr) (len cap : Nat) (L : List (List Int)) (p q : Int) (n : Int) (w : World) (h : RdL (fun k => k < w.heap.size) w a len cap L) (hp : (Lit.int .i64 p).wf = true) (hq : (Lit.int .i64 q).wf = true) (hn : (Lit.int .i64 n).wf = true) (hs : sizeN (lens L) ≤ 1048576) :
    Calls Try.prog 4 #[.slice a len cap, .agg #[.int .i64 p, .int .i64 q], .int .i64 n] w fun e w' => e = .returned (.bool true) ∧ Below w.heap.size w w' := by
  obtain ⟨B, hB⟩ : ∃ B, w.heap.size = B := ⟨_, rfl⟩
  obtain ⟨w1, hw1⟩ : ∃ w1, w.alloc (.cells #[.int .i64 p, .int .i64 q] 38) = w1 := ⟨_, rfl⟩
  have b01 : Below w.heap.size w w1 := by rw [← hw1]; exact (Below.refl _ _).alloc (Nat.le_refl _) _
  have g1 : w1.heap[B]? = some (.cells #[.int .i64 p, .int .i64 q] 38 (0, 0)) := by rw [← hw1, ← hB]; exact heap_alloc_new w _
  have hs1 : w1.heap.size = B + 1 := by rw [← hw1, ← hB]; simp
  have HL := Lib.hid (h.below b01)
  have HSM := Lib.hid (small_any _ a len cap L w1 HL.out hs)
  have HW := Lib.hid hw1
  have HBE := Lib.hid hB
  have HB1 : Hid (Below B w w1 ∧ B ≤ w1.heap.size) := ⟨by rw [← hB]; exact b01, by omega⟩
  have HS1 := Lib.hid hs1
  have HG1 := Lib.hid g1
  have HP : Hid (i64b p ∧ i64b q ∧ i64b n) := ⟨wf_i64_in hp, wf_i64_in hq, wf_i64_in hn⟩
  have HOP := Lib.hid (open_any _ a len cap L w1 HL.out hs)
  have HSZ := Lib.hid hs
  clear h b01 g1 hs1 hw1 hp hq hn hs
  rw [hB]
  clear hB
  cases hsm : smallL L with
  | false =>
    rw [hsm] at HSM
    go_enter Try.func4, Try.ntmps4
    go_upto_region 1 with fail
    rw [HBE.out, HW.out]
    go_wp2_with (go_at_call 10; refine HSM.out.mono ?_; rintro e w' ⟨rfl, rfl⟩)
    go_ret
    exact ⟨rfl, HB1.out.1⟩
  | true =>
    rw [hsm] at HSM
    clear hsm
    go_enter Try.func4, Try.ntmps4
    go_upto_region 1 with fail
    rw [HBE.out, HW.out]
    go_wp2_with fail
    refine HSM.out.mono ?_
    rintro e w' ⟨rfl, rfl⟩
    go_wp2_with fail
    refine HOP.out.mono ?_
    clear HSM HOP
    rintro e w2 ⟨v6, v7, s1, rfl, hs1, hbo, hb12⟩
    have HB2 : Hid (Below B w w2 ∧ B ≤ w2.heap.size ∧ Below (B + 1) w1 w2) := ⟨HB1.out.1.trans (hb12.mono HB1.out.2), by have := hb12.size; have := HB1.out.2; omega, by rw [← HS1.out]; exact hb12⟩
    clear hb12
    rcases hbo with ⟨hno, rfl, rfl⟩ | ⟨hok, bt, bx, s2, rfl, rfl, hss, T2, X2⟩
    · go_wp2_with fail
      go_ret
      exact ⟨rfl, HB2.out.1⟩
    obtain ⟨M, hM⟩ : ∃ M, normL L = M := ⟨_, rfl⟩
    rw [hM] at T2 X2
    have hne := T2.ne
    have hcnt := T2.count
    have hpos := T2.pos
    have HSM := Lib.hid T2.size
    have HNE := Lib.hid hne
    have HT : Hid (∀ W, Below w2.heap.size w2 W → TX (fun k => s1 ≤ k ∧ k < s2) W bt M 0) := fun W hW => T2.below hW
    have HX : Hid (∀ W, Below w2.heap.size w2 W → RX (fun k => s2 ≤ k) W bx M) := fun W hW => X2.below hW
    obtain ⟨la, nx, lc, hbx, hr, _⟩ := X2
    have hnx := hr.len
    have HR := Lib.hid hr
    have HBX := Lib.hid hbx
    obtain ⟨N, hN⟩ : ∃ N, M.length = N := ⟨_, rfl⟩
    rw [hN] at hcnt hpos hnx
    subst hnx
    have HN := Lib.hid hN
    clear T2 hbx hr hM hne hok hN hs1 hss
    go_upto_region 6 with fail
    go_wp2_with fail
    go_loopw [10] (fun v wr => ∃ j : Nat, v = .int .i64 ((j : Int) - 1) ∧ j ≤ N + 2 ∧ Hid (Below w2.heap.size w2 wr)) (fun v _ => N + 2 - ((intOf v) + 1).toNat)
    case atStart => exact ⟨0, by first | rfl | simp, by omega, Below.refl _ _⟩
    case round =>
      obtain ⟨j, rfl, hj, hbr⟩ := hrel
      have hbx := (hbr.out.block bx (heap_lt HBX.out)).trans HBX.out
      have c0 := cell_row hbx 0
      have lx := heap_lt hbx
      by_cases hlt : j ≤ N + 1
      · have t1 : (j : Int) - 1 ≤ (N : Int) := by omega
        have y1 : IntKind.i64.wrap ((j : Int) - 1 + 1) = (j : Int) - 1 + 1 := by rw [IntKind.wrap_i64]; omega
        by_cases hin : 1 ≤ j ∧ j ≤ N
        · obtain ⟨i, rfl⟩ : ∃ i, j = i + 1 := ⟨j - 1, by omega⟩
          have hji : (((i + 1 : Nat) : Int) - 1) = (i : Int) := by omega
          rw [hji] at t1 y1 ⊢
          obtain ⟨x, hx⟩ : ∃ x, M[i]? = some x := ⟨_, List.getElem?_eq_getElem (by rw [HN.out]; omega)⟩
          have HLN := Lib.hid (line_ok _ bt _ i M x wr (HT.out wr hbr.out) hx (by decide))
          have HXX := Lib.hid hx
          have t2 : (i : Int) < (N : Int) := by omega
          have t3 : (0 : Int) ≤ (i : Int) := by omega
          have HC : Hid (∀ W, Below wr.heap.size wr W → W.cell? ⟨bx, 0, none⟩ = some (.slice la N lc) ∧ bx < W.heap.size) := by
            intro W hW
            have := (hW.block bx lx).trans hbx
            exact ⟨cell_row this 0, heap_lt this⟩
          clear hx hbx
          go_wp2_with fail
          refine HLN.out.mono ?_
          rintro e w8 ⟨a8, c8, rfl, ho8, hb8⟩
          obtain ⟨c8', lx8⟩ := HC.out w8 hb8
          have hb28 := hbr.out.trans (hb8.mono hbr.out.size)
          obtain ⟨b, off, ra, rc, rfl, hbl, _, hcell, hrd, _, _⟩ := HR.out.get hb28 HXX.out
          have hbl8 : b < w8.heap.size := by have := hb28.size; omega
          have hRN := runes_any a8 ra x.length x.length c8 rc x x w8 (own_rd ho8 hrd.2.2.2.1) hrd
          rw [decide_eq_true (rfl : x = x)] at hRN
          have HRN := Lib.hid hRN
          have HB28 := Lib.hid hb28
          obtain ⟨y, hy⟩ : ∃ y, x.length = y := ⟨_, rfl⟩
          rw [hy] at HRN hcell ⊢
          clear hRN hb28 hb8 ho8 hrd HLN HXX hy HC
          go_wp2_with fail
          refine HRN.out.mono ?_
          rintro e w9 ⟨rfl, hb9⟩
          have HB9 : Hid (Below w2.heap.size w2 w9) := HB28.out.trans (hb9.mono HB28.out.size)
          clear hb9 HRN HB28
          go_wp2_with fail
          go_roundw
          case rel => exact ⟨i + 2, by first | go_num | (congr 1; omega), by omega, HB9⟩
          case measure => first | (simp [intOf]; done) | (simp [intOf]; omega)
        · have HLE := Lib.hid (line_err _ bt 0 ((j : Int) - 1) M wr (HT.out wr hbr.out) (by rw [HN.out]; omega) (by unfold i64b; omega))
          clear hbx
          by_cases hj0 : j = 0
          · subst hj0
            go_wp2_with (go_at_call 15; refine HLE.out.mono ?_; rintro e w' ⟨rfl, rfl⟩)
            go_roundw
            case rel => exact ⟨1, by first | go_num | rfl | (congr 1; omega), by omega, hbr⟩
            case measure => first | (simp [intOf]; done) | (simp [intOf]; omega)
          · obtain rfl : j = N + 1 := by omega
            have hji : (((N + 1 : Nat) : Int) - 1) = (N : Int) := by omega
            rw [hji] at t1 y1 HLE ⊢
            have t3 : (0 : Int) ≤ (N : Int) := by omega
            have t2 : ¬ (N : Int) < (N : Int) := by omega
            go_wp2_with (go_at_call 15; refine HLE.out.mono ?_; rintro e w' ⟨rfl, rfl⟩)
            go_roundw
            case rel => exact ⟨N + 2, by first | go_num | rfl | (congr 1; omega), by omega, hbr⟩
            case measure => first | (simp [intOf]; done) | (simp [intOf]; omega)
      · obtain rfl : j = N + 2 := by omega
        have t1 : ¬ (((N + 2 : Nat) : Int) - 1 ≤ (N : Int)) := by omega
        obtain ⟨w3, hw3⟩ : ∃ x, x = wr := ⟨_, rfl⟩
        subst hw3
        have HB3 : Hid (Below B w w3 ∧ B ≤ w3.heap.size ∧ Below (B + 1) w1 w3) := ⟨HB2.out.1.trans (hbr.out.mono HB2.out.2.1), by have := hbr.out.size; have := HB2.out.2.1; omega, HB2.out.2.2.trans (hbr.out.mono (by have := HB2.out.2.2.size; have := HS1.out; omega))⟩
        have g3 := (HB3.out.2.2.block B (by omega)).trans HG1.out
        have x0 := cell_row g3 0
        have x1 := cell_row g3 1
        have x2 := heap_lt g3
        clear g3 hbx HBX HR hj hlt
        go_upto_region 13 with fail
        clear t1
        obtain ⟨pp, hpp⟩ : ∃ pp, w3.heap.size = pp := ⟨_, rfl⟩
        obtain ⟨w4, hw4⟩ : ∃ w4, w3.alloc (.cells #[.int .i64 p, .int .i64 q] 30) = w4 := ⟨_, rfl⟩
        have g4 : w4.heap[pp]? = some (.cells #[.int .i64 p, .int .i64 q] 30 (0, 0)) := by rw [← hw4, ← hpp]; exact heap_alloc_new w3 _
        have b34 : Below w3.heap.size w3 w4 := by rw [← hw4]; exact (Below.refl _ _).alloc (by omega) _
        have HB4 : Hid (Below B w w4 ∧ B ≤ w4.heap.size ∧ Below w2.heap.size w2 w4) := ⟨HB3.out.1.trans (b34.mono HB3.out.2.1), by have := b34.size; have := HB3.out.2.1; omega, hbr.out.trans (b34.mono hbr.out.size)⟩
        have x3 := cell_row g4 0
        have x4 := cell_row g4 1
        have l4 := heap_lt g4
        have HG4 := Lib.hid g4
        rw [hpp, hw4]
        have HO1 := Lib.hid (offset_any _ bt 0 M p q w4 (HT.out w4 HB4.out.2.2) HP.out.1 HP.out.2.1)
        obtain ⟨o1, ho1⟩ : ∃ o1, (offR M p q).1 = o1 := ⟨_, rfl⟩
        obtain ⟨o2, ho2⟩ : ∃ o2, (offR M p q).2 = o2 := ⟨_, rfl⟩
        have HOE : Hid ((offR M p q).1 = o1 ∧ (offR M p q).2 = o2) := ⟨ho1, ho2⟩
        rw [ho1, ho2] at HO1
        clear hpp hw4 g4 b34 x0 x1 x2 ho1 ho2
        go_wp2_with fail
        refine HO1.out.mono ?_
        rintro e w5 ⟨rfl, hb5⟩
        have HB5 : Hid (Below B w w5 ∧ B ≤ w5.heap.size ∧ Below w2.heap.size w2 w5) := ⟨HB4.out.1.trans (hb5.mono HB4.out.2.1), by have := hb5.size; have := HB4.out.2.1; omega, HB4.out.2.2.trans (hb5.mono HB4.out.2.2.size)⟩
        have g5 := (hb5.block pp l4).trans HG4.out
        have x5 := cell_row g5 0
        have x6 := cell_row g5 1
        have l5 := heap_lt g5
        have HO2 := Lib.hid (roffset_any _ bx M p q w5 (HX.out w5 HB5.out.2.2) (by have := HSM.out; omega) HP.out.1 HP.out.2.1)
        rw [HOE.out.1, HOE.out.2] at HO2
        clear x3 x4 l4 HG4 hb5 g5 HO1
        go_wp2_with fail
        refine HO2.out.mono ?_
        rintro e w6 ⟨rfl, hb6⟩
        have HB6 : Hid (Below B w w6 ∧ B ≤ w6.heap.size ∧ Below w2.heap.size w2 w6) := ⟨HB5.out.1.trans (hb6.mono HB5.out.2.1), by have := hb6.size; have := HB5.out.2.1; omega, HB5.out.2.2.trans (hb6.mono HB5.out.2.2.size)⟩
        have HP1 := Lib.hid (place_any _ bt 0 n M w6 (HT.out w6 HB6.out.2.2) HP.out.2.2)
        obtain ⟨p1, hp1⟩ : ∃ p1, (placeR M n).1 = p1 := ⟨_, rfl⟩
        obtain ⟨p2, hp2⟩ : ∃ p2, (placeR M n).2.1 = p2 := ⟨_, rfl⟩
        obtain ⟨p3, hp3⟩ : ∃ p3, (placeR M n).2.2 = p3 := ⟨_, rfl⟩
        have HPE : Hid ((placeR M n).1 = p1 ∧ (placeR M n).2.1 = p2 ∧ (placeR M n).2.2 = p3) := ⟨hp1, hp2, hp3⟩
        rw [hp1, hp2, hp3] at HP1
        clear x5 x6 l5 hb6 HO2 HOE hp1 hp2 hp3
        go_wp2_with fail
        refine HP1.out.mono ?_
        rintro e w7 ⟨rfl, hb7⟩
        have HB7 : Hid (Below B w w7 ∧ B ≤ w7.heap.size ∧ Below w2.heap.size w2 w7) := ⟨HB6.out.1.trans (hb7.mono HB6.out.2.1), by have := hb7.size; have := HB6.out.2.1; omega, HB6.out.2.2.trans (hb7.mono HB6.out.2.2.size)⟩
        clear hb7 HP1
        go_upto_region 16 with fail
        obtain ⟨qq, hqq⟩ : ∃ qq, w7.heap.size = qq := ⟨_, rfl⟩
        obtain ⟨w8, hw8⟩ : ∃ w8, w7.alloc (.cells #[.int .i64 p1, .int .i64 p2] 30) = w8 := ⟨_, rfl⟩
        have g8 : w8.heap[qq]? = some (.cells #[.int .i64 p1, .int .i64 p2] 30 (0, 0)) := by rw [← hw8, ← hqq]; exact heap_alloc_new w7 _
        have b78 : Below w7.heap.size w7 w8 := by rw [← hw8]; exact (Below.refl _ _).alloc (by omega) _
        have HB8 : Hid (Below B w w8 ∧ B ≤ w8.heap.size ∧ Below w2.heap.size w2 w8) := ⟨HB7.out.1.trans (b78.mono HB7.out.2.1), by have := b78.size; have := HB7.out.2.1; omega, HB7.out.2.2.trans (b78.mono HB7.out.2.2.size)⟩
        have HG8 := Lib.hid g8
        rw [hqq, hw8]
        have HP2 := Lib.hid (rplace_any _ bx n M w8 (HX.out w8 HB8.out.2.2) (by have := HSM.out; omega) HNE.out HP.out.2.2)
        rw [HPE.out.1, HPE.out.2.1, HPE.out.2.2] at HP2
        clear hqq hw8 g8 b78 HPE
        go_wp2_with fail
        refine HP2.out.mono ?_
        rintro e w9 ⟨rfl, hb9⟩
        have g9 := (hb9.block qq (heap_lt HG8.out)).trans HG8.out
        have HB9 : Hid (Below B w w9 ∧ B ≤ w9.heap.size) := ⟨HB8.out.1.trans (hb9.mono HB8.out.2.1), by have := hb9.size; have := HB8.out.2.1; omega⟩
        have HG9 := Lib.hid g9
        clear hb9 HP2 HG8 g9
        go_upto_region 17 with fail
        obtain ⟨rr, hrr⟩ : ∃ rr, w9.heap.size = rr := ⟨_, rfl⟩
        obtain ⟨w10, hw10⟩ : ∃ w10, w9.alloc (.cells #[.int .i64 p1, .int .i64 p2] 30) = w10 := ⟨_, rfl⟩
        have g10 : w10.heap[rr]? = some (.cells #[.int .i64 p1, .int .i64 p2] 30 (0, 0)) := by rw [← hw10, ← hrr]; exact heap_alloc_new w9 _
        have b910 : Below w9.heap.size w9 w10 := by rw [← hw10]; exact (Below.refl _ _).alloc (by omega) _
        have h10 := (b910.block qq (heap_lt HG9.out)).trans HG9.out
        have HB10 : Hid (Below B w w10 ∧ B ≤ w10.heap.size) := ⟨HB9.out.1.trans (b910.mono HB9.out.2), by have := b910.size; have := HB9.out.2; omega⟩
        rw [hrr, hw10]
        have x0 := cell_row g10 0
        have x1 := cell_row g10 1
        have x2 := heap_lt g10
        have x3 := cell_row h10 0
        have x4 := cell_row h10 1
        have x5 := heap_lt h10
        have e1 : (o1 == o1) = true := by simp
        have e2 : (o2 == o2) = true := by simp
        have e3 : (p1 == p1) = true := by simp
        have e4 : (p2 == p2) = true := by simp
        have e5 : (p3 == p3) = true := by simp
        clear hrr hw10 g10 b910 h10 HG9
        go_wp2_with fail
        refine (awake_any w10).mono ?_
        rintro e w11 ⟨rfl, hb11⟩
        go_wp2_with fail
        go_ret
        exact ⟨rfl, HB10.out.1.trans (hb11.mono HB10.out.2)⟩
end Go.Proofs.Ytndlebopfojjeaa.U
