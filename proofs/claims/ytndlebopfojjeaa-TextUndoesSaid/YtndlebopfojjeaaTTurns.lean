/-
  The walk of TextTurns.
-/
import Derived.Test.YtndlebopfojjeaaTSmall
namespace Go.Proofs.Ytndlebopfojjeaa.U
open Go.RowKit
set_option linter.unusedVariables false
set_option linter.unusedSimpArgs false
set_option maxRecDepth 100000

theorem findP_zero : ∀ (ls : List Nat), findP ls 0 = (0, 0)
  | [] => rfl
  | a :: r => by simp [findP]
/-- the next place -/
theorem findP_next : ∀ (ls : List Nat) (n : Nat), n + 1 < sizeN ls → ((findP ls (n + 1)).1 = (findP ls n).1 ∧ (findP ls (n + 1)).2 = (findP ls n).2 + 1) ∨ ((findP ls (n + 1)).1 = (findP ls n).1 + 1 ∧ (findP ls (n + 1)).2 = 0)
  | [], n, h => by simp [sizeN_nil] at h
  | a :: r, n, h => by
    rw [sizeN_cons] at h
    by_cases h1 : n + 1 ≤ a
    · left
      have e1 : findP (a :: r) (n + 1) = (0, n + 1) := by unfold findP; rw [if_pos h1]
      have e2 : findP (a :: r) n = (0, n) := by unfold findP; rw [if_pos (by omega)]
      rw [e1, e2]; exact ⟨rfl, rfl⟩
    · by_cases h2 : n ≤ a
      · obtain rfl : n = a := by omega
        right
        have e1 : findP (n :: r) (n + 1) = (1, 0) := by
          unfold findP
          rw [if_neg h1, show n + 1 - (n + 1) = 0 from by omega, findP_zero]
        have e2 : findP (n :: r) n = (0, n) := by unfold findP; rw [if_pos h2]
        rw [e1, e2]; exact ⟨rfl, rfl⟩
      · have e1 : findP (a :: r) (n + 1) = ((findP r (n - (a + 1) + 1)).1 + 1, (findP r (n - (a + 1) + 1)).2) := by
          conv => lhs; unfold findP
          rw [if_neg h1, show n + 1 - (a + 1) = n - (a + 1) + 1 from by omega]
        have e2 : findP (a :: r) n = ((findP r (n - (a + 1))).1 + 1, (findP r (n - (a + 1))).2) := by
          conv => lhs; unfold findP
          rw [if_neg h2]
        rw [e1, e2]
        rcases findP_next r (n - (a + 1)) (by omega) with ⟨q1, q2⟩ | ⟨q1, q2⟩
        · left; simp [q1, q2]
        · right; simp [q1, q2]

/-- the place ahead of the n-th -/
def lastP (M : List (List Int)) (n : Nat) : Int × Int := match n with | 0 => (0, -1) | n + 1 => (((findP (lens M) n).1 : Nat), ((findP (lens M) n).2 : Nat))
theorem lastP_next {M : List (List Int)} (hM : M ≠ []) {n : Nat} (hn : n ≤ (joinL M).length) {i c : Int} (h : lastP M n = (i, c)) :
    ((((findP (lens M) n).1 : Nat) : Int) = i ∧ (((findP (lens M) n).2 : Nat) : Int) = c + 1) ∨ ((((findP (lens M) n).1 : Nat) : Int) = i + 1 ∧ (((findP (lens M) n).2 : Nat) : Int) = 0) := by
  have hj := joinL_len hM
  cases n with
  | zero =>
    simp only [lastP, Prod.mk.injEq] at h
    left
    rw [findP_zero]
    simp only
    omega
  | succ n =>
    simp only [lastP, Prod.mk.injEq] at h
    rcases findP_next (lens M) n (by omega) with ⟨q1, q2⟩ | ⟨q1, q2⟩
    · left; omega
    · right; omega

set_option maxHeartbeats 8000000 in
theorem textTurns_walk (a : Option Addr) (n c : Nat) (L : List (List Int)) (w : World) (h : RdL (fun k => k < w.heap.size) w a n c L) (hs : sizeN (lens L) ≤ 1048576) :
    Calls Try.prog 5 #[.slice a n c] w fun e w' => e = .returned (.bool true) ∧ Below w.heap.size w w' := by
  have HSM := Lib.hid (small_any _ a n c L w h hs)
  cases hsm : smallL L with
  | false =>
    rw [hsm] at HSM
    clear h
    go_enter Try.func5, Try.ntmps5
    go_wp2_with (go_at_call 10; refine HSM.out.mono ?_; rintro e w' ⟨rfl, rfl⟩)
    go_ret
    exact ⟨rfl, Below.refl _ _⟩
  | true =>
    rw [hsm] at HSM
    have HNW := Lib.hid (new_any _ a n c L w h hs)
    have HNO : Hid (okL L = false → Calls Try.prog 22 #[.slice a n c] w fun e w' => e = .returned (.pointer none) ∧ w = w') := rnew_no _ a n c L w h hs
    clear h
    go_enter Try.func5, Try.ntmps5
    go_upto_region 3 with (go_at_call 10; refine HSM.out.mono ?_; rintro e w' ⟨rfl, rfl⟩)
    go_wp2_with fail
    refine HNW.out.mono ?_
    rintro e w1 (⟨hno, rfl, rfl⟩ | ⟨hok, bt, rfl, T1, hb1⟩)
    · have HNO2 := Lib.hid (HNO.out hno)
      clear HNW HNO hno HSM
      go_wp2_with (go_at_call 22; refine HNO2.out.mono ?_; rintro e w' ⟨rfl, rfl⟩)
      go_ret
      exact ⟨rfl, Below.refl _ _⟩
    · obtain ⟨M, hM⟩ : ∃ M, normL L = M := ⟨_, rfl⟩
      rw [hM] at T1
      have hMne := T1.ne
      have hrow := T1.row
      have hpl := place_last hMne
      obtain ⟨ZL, hZL⟩ : ∃ Z, (M.getLast hMne).length = Z := ⟨_, rfl⟩
      rw [hZL] at hpl
      clear hZL
      have hcnt := T1.count
      have hpos := T1.pos
      obtain ⟨R, hR⟩ : ∃ R, (joinL M).length = R := ⟨_, rfl⟩
      obtain ⟨lp, hlp⟩ : ∃ lp, w1.heap.size = lp := ⟨_, rfl⟩
      obtain ⟨w2, hw2⟩ : ∃ w2, w1.alloc (.cells #[.int .i64 0, .int .i64 (-1)] 30) = w2 := ⟨_, rfl⟩
      have g2 : w2.heap[lp]? = some (.cells #[.int .i64 0, .int .i64 (-1)] 30 (0, 0)) := by rw [← hw2, ← hlp]; exact heap_alloc_new w1 _
      have b12 : Below lp w1 w2 := by rw [← hw2]; exact (Below.refl _ _).alloc (by omega) _
      have hs2 : w2.heap.size = lp + 1 := by rw [← hw2, ← hlp]; simp
      have hBlp : w.heap.size ≤ lp := by have := hb1.size; omega
      have HT : Hid (∀ W, Fr (fun k => k = lp) w2 W → TX (fun k => w.heap.size ≤ k ∧ k < lp) W bt M 0) := by
        intro W hW
        have t1 : TX (fun k => w.heap.size ≤ k ∧ k < lp) w1 bt M 0 := by have := T1.bound; rw [hlp] at this; exact this
        have t2 := t1.below (by rw [hlp]; exact b12 : Below w1.heap.size w1 w2)
        exact t2.fr hW (fun k hk e => by omega)
      have HBW : Hid (∀ W, Fr (fun k => k = lp) w2 W → Below w.heap.size w W) := fun W hW => (hb1.trans (b12.mono hBlp)).trans (hW.below (by omega) (fun k hk => by omega))
      have HS2 := Lib.hid hs2
      have HMN := Lib.hid hMne
      have HRR := Lib.hid hR
      have HPL := Lib.hid hpl
      have HG2 := Lib.hid g2
      rw [hR] at hrow
      clear HNW HNO HSM hok T1 hM hpl hb1 b12 hs2 g2 hR hMne hs
      go_upto_region 7 with fail
      (try rw [hlp]); (try rw [hw2])
      clear hlp hw2
      go_wp2_with fail
      go_loopw [5] (fun v5 wr => ∃ (m : Nat) (i d : Int), v5 = .int .i64 m ∧ m ≤ R + 1 ∧ wr.heap[lp]? = some (.cells #[.int .i64 i, .int .i64 d] 30 (0, 0)) ∧ Hid (lastP M m = (i, d)) ∧ Hid (Fr (fun k => k = lp) w2 wr)) (fun v5 _ => R + 1 - (intOf v5).toNat)
      case atStart => exact ⟨0, 0, -1, rfl, Nat.zero_le _, HG2.out, rfl, Fr.refl _ _⟩
      case round =>
        obtain ⟨m, i, d, rfl, hm, hg, hlast, hf⟩ := hrel
        have T := HT.out wr hf.out
        have HRT := Lib.hid (runesT_any _ bt 0 M wr T)
        rw [HRR.out] at HRT
        by_cases hlt : m ≤ R
        · have t1 : (m : Int) ≤ (R : Int) := by omega
          have hjl := joinL_len HMN.out
          rw [HRR.out] at hjl
          obtain ⟨q1, q2, q3⟩ := findP_spec (lens M) m (by omega)
          have hnx := lastP_next HMN.out (by rw [HRR.out]; exact hlt) hlast.out
          have HP := place_any _ bt 0 m M wr T (by unfold i64b; omega)
          unfold placeR at HP
          rw [if_pos ⟨by omega, by rw [HRR.out]; omega⟩, Int.toNat_natCast] at HP
          have hlaN : lastP M (m + 1) = ((((findP (lens M) m).1 : Nat) : Int), (((findP (lens M) m).2 : Nat) : Int)) := rfl
          obtain ⟨i', hi'⟩ : ∃ i', (findP (lens M) m).1 = i' := ⟨_, rfl⟩
          obtain ⟨d', hd'⟩ : ∃ d', (findP (lens M) m).2 = d' := ⟨_, rfl⟩
          rw [hi', hd'] at hnx HP hlaN q2 q3
          rw [hi', lens_len] at q1
          simp only at HP
          have hx : M[i']? = some M[i'] := List.getElem?_eq_getElem q1
          have hdx : d' ≤ (M[i']).length := by
            have := q3
            rw [List.getD_eq_getElem?_getD, lens_at hx, Option.getD_some] at this
            exact this
          have hoff : offR M (i' : Nat) (d' : Nat) = ((m : Int), 0) := by
            unfold offR
            rw [if_pos (hasP_iff.2 ⟨i', d', _, rfl, rfl, hx, hdx⟩), Int.toNat_natCast, Int.toNat_natCast]
            unfold offN
            rw [q2]
          have hd'b : d' ≤ 65536 := by have := off_le hx hdx; rw [HRR.out] at this; omega
          have HP' := Lib.hid HP
          have HOF : Hid (∀ W, Below wr.heap.size wr W → Calls Try.prog 17 #[.pointer (some ⟨bt, 0, none⟩), .agg #[.int .i64 (i' : Nat), .int .i64 (d' : Nat)]] W fun e w' => e = .returned (.tuple #[.int .i64 (m : Nat), .int .i64 0]) ∧ Below W.heap.size W w') := by
            intro W hW
            have := offset_any _ bt 0 M (i' : Nat) (d' : Nat) W (T.below hW) (by unfold i64b; omega) (by unfold i64b; omega)
            rw [hoff] at this
            exact this
          have HLN := Lib.hid hlaN
          have HG := Lib.hid hg
          have hlw := heap_lt hg
          clear T HP hi' hd' hx hdx hoff q2 q3 hlaN hlast hg
          go_wp2_with (go_at_call 23; refine HRT.out.mono ?_; rintro e w' ⟨rfl, rfl⟩)
          refine HP'.out.mono ?_
          rintro e w3 ⟨rfl, hb3⟩
          have hs3 := hb3.size
          have HB3 := Lib.hid hb3
          clear hb3
          go_upto_region 11 with fail
          obtain ⟨pp, hpp⟩ : ∃ pp, w3.heap.size = pp := ⟨_, rfl⟩
          obtain ⟨w4, hw4⟩ : ∃ w4, w3.alloc (.cells #[.int .i64 (i' : Nat), .int .i64 (d' : Nat)] 30) = w4 := ⟨_, rfl⟩
          have g4 : w4.heap[pp]? = some (.cells #[.int .i64 (i' : Nat), .int .i64 (d' : Nat)] 30 (0, 0)) := by rw [← hw4, ← hpp]; exact heap_alloc_new w3 _
          have b34 : Below pp w3 w4 := by rw [← hw4]; exact (Below.refl _ _).alloc (by omega) _
          have b04 : Below wr.heap.size wr w4 := HB3.out.trans (b34.mono (by omega))
          rw [hpp, hw4]
          have a40 := cell_row g4 0
          have a41 := cell_row g4 1
          have l4 := heap_lt g4
          have HOF4 := Lib.hid (HOF.out w4 b04)
          have HB04 := Lib.hid b04
          have HG4 := Lib.hid g4
          have hne : lp ≠ pp := by omega
          clear hpp hw4 g4 b34 b04 hs3 HB3 HP' HOF
          go_wp2_with fail
          refine HOF4.out.mono ?_
          rintro e w5 ⟨rfl, hb5⟩
          have g5 := (hb5.block pp l4).trans HG4.out
          have hb05 : Below wr.heap.size wr w5 := HB04.out.trans (hb5.mono HB04.out.size)
          have gl := (hb05.block lp hlw).trans HG.out
          have x0 := cell_row g5 0
          have x1 := cell_row g5 1
          have y0 := cell_row gl 0
          have y1 := cell_row gl 1
          have z0 := frozen_row gl 0
          have z1 := frozen_row gl 1
          have l5 := heap_lt g5
          have ll := heap_lt gl
          have HGL := Lib.hid gl
          have HF5 : Hid (Fr (fun k => k = lp) w2 w5) := hf.out.trans (Fr.of_below _ hb05) (fun _ _ h => h)
          have hmm : ((m : Int) != (m : Int)) = false := by simp
          clear a40 a41 l4 HOF4 HG4 HG hb5 hb05 g5 gl HB04
          have HFIN : Hid (((w5.setCell ⟨lp, 0, none⟩ (.int .i64 (i' : Nat))).setCell ⟨lp, 1, none⟩ (.int .i64 (d' : Nat))).heap[lp]? = some (.cells #[.int .i64 (i' : Nat), .int .i64 (d' : Nat)] 30 (0, 0)) ∧ Fr (fun k => k = lp) w2 ((w5.setCell ⟨lp, 0, none⟩ (.int .i64 (i' : Nat))).setCell ⟨lp, 1, none⟩ (.int .i64 (d' : Nat)))) :=
            ⟨heap_set (heap_set HGL.out 0 _) 1 _, (HF5.out.setCell _ _ (fun _ => rfl)).setCell _ _ (fun _ => rfl)⟩
          rcases hnx with ⟨e1, e2⟩ | ⟨e1, e2⟩
          · rw [e1, e2] at HFIN HLN
            have f1 : ¬ ((i' : Int) < i) := by omega
            have f2 : decide ((i' : Int) < i) = false := by simp; omega
            have f3 : ((i' : Int) == i) = true := by simp; omega
            have f4 : ((d' : Int) != d + 1) = false := by simp; omega
            have f5 : decide (i < (i' : Int)) = false := by simp; omega
            have f6 : IntKind.i64.wrap (d + 1) = d + 1 := by rw [IntKind.wrap_i64]; omega
            go_wp2_with fail
            go_roundw
            case rel => exact ⟨m + 1, _, _, by go_num, by omega, HFIN.out.1, HLN, HFIN.out.2⟩
            case measure => simp [intOf]; omega
          · rw [e1, e2] at HFIN HLN
            have f1 : ¬ ((i' : Int) < i) := by omega
            have f2 : decide ((i' : Int) < i) = false := by simp; omega
            have f3 : ((i' : Int) == i) = false := by simp; omega
            have f4 : ((i' : Int) != i + 1) = false := by simp; omega
            have f5 : decide (i < (i' : Int)) = true := by simp; omega
            have f6 : ((d' : Int) != 0) = false := by simp; omega
            have f7 : IntKind.i64.wrap (i + 1) = i + 1 := by rw [IntKind.wrap_i64]; omega
            go_wp2_with fail
            go_roundw
            case rel => exact ⟨m + 1, _, _, by go_num, by omega, HFIN.out.1, HLN, HFIN.out.2⟩
            case measure => simp [intOf]; omega
        · obtain rfl : m = R + 1 := by omega
          have t1 : ¬ (((R + 1 : Nat) : Int) ≤ (R : Int)) := by omega
          have hl2 : lastP M (R + 1) = ((((findP (lens M) R).1 : Nat) : Int), (((findP (lens M) R).2 : Nat) : Int)) := rfl
          have hpl := HPL.out
          rw [HRR.out] at hpl
          rw [hpl, hlast.out] at hl2
          simp only [Prod.mk.injEq] at hl2
          obtain ⟨N, hN⟩ : ∃ N, M.length = N := ⟨_, rfl⟩
          rw [hN] at hl2 hcnt hpos
          have t2 : (i == (N : Int) - 1) = true := by simp; omega
          have q1 : IntKind.i64.wrap ((N : Int) - 1) = (N : Int) - 1 := by rw [IntKind.wrap_i64]; omega
          have y0 := cell_row hg 0
          have ll := heap_lt hg
          have HC : Hid (∀ W, Below wr.heap.size wr W → Calls Try.prog 24 #[.pointer (some ⟨bt, 0, none⟩)] W fun e w' => e = .returned (.int .i64 (N : Nat)) ∧ W = w') := by
            intro W hW
            have := count_any _ bt 0 M W (T.below hW)
            rw [hN] at this
            exact this
          have HBF := Lib.hid (HBW.out wr hf.out)
          clear hg T hl2 hpl hN hlast hf HT HBW
          go_wp2_with (go_at_call 23; refine HRT.out.mono ?_; rintro e w' ⟨rfl, rfl⟩)
          go_region_with (first
            | (go_at_call 24; refine (HC.out _ (by first | exact Below.refl _ _ | exact (Below.refl _ _).drew)).mono ?_; rintro e w' ⟨rfl, rfl⟩)
            | (go_at_call 14; refine (awake_any _).mono ?_; rintro e w9 ⟨rfl, hb9⟩))
          all_goals
            go_wp2_with fail
            go_ret
            first
              | exact ⟨rfl, HBF.out.trans (hb9.mono HBF.out.size)⟩
              | exact ⟨rfl, HBF.out.drew.trans (hb9.mono HBF.out.size)⟩
              | exact ⟨rfl, (HBF.out.trans (hb9.mono HBF.out.size)).drew⟩
end Go.Proofs.Ytndlebopfojjeaa.U
