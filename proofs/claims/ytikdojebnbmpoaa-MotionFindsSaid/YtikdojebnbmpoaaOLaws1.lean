/-
  The walk of MotionBrackets.
-/
import Derived.Test.YtikdojebnbmpoaaOAwake
namespace Go.Proofs.Ytikdojebnbmpoaa.U
open Go.RowKit
set_option linter.unusedVariables false
set_option linter.unusedSimpArgs false
set_option maxRecDepth 100000

theorem i64_nat {n : Nat} (h : n ≤ 9223372036854775807) : i64b (n : Int) := ⟨by omega, by omega⟩
/-- a cursor's place is within 64 bits -/
theorem okP_i64 {F : Nat → Prop} {W : World} {a : Option Addr} {n c : Nat} {L : List (List Int)} (h : RdL F W a n c L) {p : Pl} (hp : okP L p) : i64p (poP p) := by
  have hl := h.len
  have hs := h.small
  obtain ⟨_, _, _, _, _, _, _, _, e⟩ := okP.line h hp (Below.refl _ W)
  have h1 := hp.1
  have h2 := hp.2
  have h3 := e.small
  exact ⟨i64_nat (by omega), i64_nat (by omega)⟩
theorem clip_po {L : List (List Int)} {p : Pl} (hp : okP L p) : clipP L (poP p).l (poP p).c = p := clipP_id hp
theorem mo37 : i64m ⟨37, 0, 0, 0⟩ := by unfold i64m i32b i64b; decide
set_option maxHeartbeats 1000000 in
theorem motionBrackets_wideM (HM : MoveC) (a : Option Addr) (n c : Nat) (L : List (List Int)) (q : Po) (W : World) (h : RdL (fun k => k < W.heap.size) W a n c L) (hq : i64p q) (hw : WideL L) :
    Calls Try.prog 5 #[.slice a n c, q.v] W fun e w' => e = .returned (.bool true) ∧ Below W.heap.size W w' := by
  obtain ⟨u, v⟩ := q
  have hl := h.len
  have hsm0 := h.small
  obtain ⟨w1, hw1⟩ : ∃ w1, W.alloc (.cells #[.int .i64 u, .int .i64 v] 24) = w1 := ⟨_, rfl⟩
  have hb1 : Below W.heap.size W w1 := by rw [← hw1]; exact bal _ _
  have g1 : w1.heap[W.heap.size]? = some (.cells #[.int .i64 u, .int .i64 v] 24 (0, 0)) := by rw [← hw1]; exact heap_alloc_new W _
  obtain ⟨a0, a1, -, -⟩ := row2 g1
  have h1 := h.below hb1
  have HSMQ : Hid (Calls Try.prog 7 #[.slice a n c] w1 fun e w2 => e = .returned (.bool (smallL L)) ∧ w1 = w2) := small_wide _ a n c L w1 h1 hw
  have HAW : Hid (∀ w' : World, Calls Try.prog 8 #[] w' fun e w2 => e = .returned (.bool true) ∧ Below w'.heap.size w' w2) := fun w' => awake_any HM w'
  have HW1 := Lib.hid hw1
  have HB1 := Lib.hid hb1
  obtain ⟨sm, hsm⟩ : ∃ sm, smallL L = sm := ⟨_, rfl⟩
  rw [hsm] at HSMQ
  show Calls Try.prog _ #[.slice a n c, .agg #[.int .i64 u, .int .i64 v]] W _
  cases sm with
  | false =>
    clear h h1 hw1 hb1 g1 hsm hl
    go_enter Try.func5, Try.ntmps5
    go_upto_region 1 with fail
    rw [HW1.out]
    go_wp2_with (first
      | (go_at_call 7; refine (HSMQ.out).mono ?_; rintro e w2 ⟨rfl, hw2⟩; subst hw2)
      | (go_at_call 8; refine (HAW.out _).mono ?_; rintro e w3 ⟨rfl, hb3⟩))
    go_ret
    exact ⟨rfl, btr HB1.out hb3⟩
  | true =>
    by_cases hn0 : n = 0
    · have e0 : ((n : Int) == 0) = true := by simp; omega
      clear h h1 hw1 hb1 g1 hsm hl hn0
      go_enter Try.func5, Try.ntmps5
      go_upto_region 1 with fail
      rw [HW1.out]
      go_wp2_with (first
        | (go_at_call 7; refine (HSMQ.out).mono ?_; rintro e w2 ⟨rfl, hw2⟩; subst hw2)
        | (go_at_call 8; refine (HAW.out _).mono ?_; rintro e w3 ⟨rfl, hb3⟩))
      go_ret
      exact ⟨rfl, btr HB1.out hb3⟩
    have e0 : ((n : Int) == 0) = false := by simp; omega
    have hL : L ≠ [] := by rintro rfl; simp at hl; omega
    have hsz := smallL_wide hsm
    have hcp := clipP_ok hL u v
    obtain ⟨⟨⟨ai, aj⟩, ah, ak⟩, hr⟩ : ∃ r, mvR L (clipP L u v) ⟨37, 0, 0, 0⟩ false = r := ⟨_, rfl⟩
    have HA : Hid (Calls Try.prog 10 #[.slice a n c, .agg #[.int .i64 u, .int .i64 v], .agg #[.int .i32 37, .int .i64 0, .int .i32 0, .int .i64 0], .bool false] w1 fun e w' => e = .returned (.tuple #[.agg #[.int .i64 (ai : Nat), .int .i64 (aj : Nat)], .int .i64 ah, .bool ak]) ∧ Below w1.heap.size w1 w') := by
      have := HM _ a n c L ⟨u, v⟩ ⟨37, 0, 0, 0⟩ false w1 h1 hq mo37 hsz hL
      simp only at this
      rw [hr] at this
      exact this
    cases ak with
    | false =>
      clear h h1 hw1 hb1 g1 hsm hl hr
      go_enter Try.func5, Try.ntmps5
      go_upto_region 1 with fail
      rw [HW1.out]
      go_wp2_with (first
        | (go_at_call 7; refine (HSMQ.out).mono ?_; rintro e w2 ⟨rfl, hw2⟩; subst hw2)
        | (go_at_call 10; refine HA.out.mono ?_; rintro e w4 ⟨rfl, hb4⟩)
        | (go_at_call 8; refine (HAW.out _).mono ?_; rintro e w3 ⟨rfl, hb3⟩))
      go_ret
      exact ⟨rfl, btr HB1.out (btr hb4 (btr (bal _ _) hb3))⟩
    | true =>
      obtain ⟨rfl, hoa, ⟨bi, bj⟩, hob, hne, hr2, hr3⟩ := bracket_law (m := ⟨37, 0, 0, 0⟩) rfl hcp hr
      have HB : Hid (∀ w' : World, Below w1.heap.size w1 w' → Calls Try.prog 10 #[.slice a n c, .agg #[.int .i64 (ai : Nat), .int .i64 (aj : Nat)], .agg #[.int .i32 37, .int .i64 0, .int .i32 0, .int .i64 0], .bool false] w' fun e w2 => e = .returned (.tuple #[.agg #[.int .i64 (bi : Nat), .int .i64 (bj : Nat)], .int .i64 1, .bool true]) ∧ Below w'.heap.size w' w2) := by
        intro w' hb
        have := HM _ a n c L (poP (ai, aj)) ⟨37, 0, 0, 0⟩ false w' (h1.below hb) (okP_i64 h1 hoa) mo37 hsz hL
        rw [clip_po hoa, hr2] at this
        exact this
      have HC : Hid (∀ w' : World, Below w1.heap.size w1 w' → Calls Try.prog 10 #[.slice a n c, .agg #[.int .i64 (bi : Nat), .int .i64 (bj : Nat)], .agg #[.int .i32 37, .int .i64 0, .int .i32 0, .int .i64 0], .bool false] w' fun e w2 => e = .returned (.tuple #[.agg #[.int .i64 (ai : Nat), .int .i64 (aj : Nat)], .int .i64 1, .bool true]) ∧ Below w'.heap.size w' w2) := by
        intro w' hb
        have := HM _ a n c L (poP (bi, bj)) ⟨37, 0, 0, 0⟩ false w' (h1.below hb) (okP_i64 h1 hob) mo37 hsz hL
        rw [clip_po hob, hr3] at this
        exact this
      have HNE := Lib.hid hne
      clear h h1 hw1 hb1 g1 hsm hl hr hr2 hr3 hoa hob hne hcp hL hsz
      have tok1 : True := trivial
      have tok2 : True := trivial
      go_enter Try.func5, Try.ntmps5
      go_upto_region 1 with fail
      rw [HW1.out]
      go_upto_region 4 with (first
        | (go_at_call 7; refine (HSMQ.out).mono ?_; rintro e w2 ⟨rfl, hw2⟩; subst hw2)
        | (go_at_call 10; refine HA.out.mono ?_; rintro e w4 ⟨rfl, hb4⟩))
      obtain ⟨X4, hX4⟩ : ∃ X, w4.alloc (.cells #[.int .i64 (ai : Nat), .int .i64 (aj : Nat)] 24) = X := ⟨_, rfl⟩
      have D4 : Hid (Below w1.heap.size w1 X4) := by show Below _ _ _; rw [← hX4]; exact btr hb4 (bal _ _)
      have G4 : Hid (X4.heap[w4.heap.size]? = some (.cells #[.int .i64 (ai : Nat), .int .i64 (aj : Nat)] 24 (0, 0))) := by show _ = _; rw [← hX4]; exact heap_alloc_new w4 _
      obtain ⟨T4, hT4⟩ : ∃ S, w4.heap.size = S := ⟨_, rfl⟩
      rw [hT4] at G4
      have HX4 := Lib.hid hX4
      have HT4 := Lib.hid hT4
      clear hX4 hT4 hb4
      rw [HX4.out, HT4.out]
      obtain ⟨c0, c1, -, -⟩ := row2 G4.out
      go_upto_region 7 with (go_at_call 10; refine (HB.out _ D4.out).mono ?_; rintro e w5 ⟨rfl, hb5⟩)
      obtain ⟨X5, hX5⟩ : ∃ X, w5.alloc (.cells #[.int .i64 (bi : Nat), .int .i64 (bj : Nat)] 24) = X := ⟨_, rfl⟩
      have D5 : Hid (Below X4.heap.size X4 X5) := by show Below _ _ _; rw [← hX5]; exact btr hb5 (bal _ _)
      have G5 : Hid (X5.heap[w5.heap.size]? = some (.cells #[.int .i64 (bi : Nat), .int .i64 (bj : Nat)] 24 (0, 0))) := by show _ = _; rw [← hX5]; exact heap_alloc_new w5 _
      obtain ⟨T5, hT5⟩ : ∃ S, w5.heap.size = S := ⟨_, rfl⟩
      rw [hT5] at G5
      have HX5 := Lib.hid hX5
      have HT5 := Lib.hid hT5
      clear hX5 hT5 hb5 c0 c1
      rw [HX5.out, HT5.out]
      obtain ⟨c0, c1, -, -⟩ := row2 G5.out
      go_upto_region 8 with (go_at_call 10; refine (HC.out _ (btr D4.out D5.out)).mono ?_; rintro e w6 ⟨rfl, hb6⟩)
      obtain ⟨X6, hX6⟩ : ∃ X, w6.alloc (.cells #[.int .i64 (ai : Nat), .int .i64 (aj : Nat)] 24) = X := ⟨_, rfl⟩
      have D6 : Hid (Below X5.heap.size X5 X6) := by show Below _ _ _; rw [← hX6]; exact btr hb6 (bal _ _)
      have G6 : Hid (X6.heap[w6.heap.size]? = some (.cells #[.int .i64 (ai : Nat), .int .i64 (aj : Nat)] 24 (0, 0))) := by show _ = _; rw [← hX6]; exact heap_alloc_new w6 _
      obtain ⟨T6, hT6⟩ : ∃ S, w6.heap.size = S := ⟨_, rfl⟩
      rw [hT6] at G6
      have HX6 := Lib.hid hX6
      have HT6 := Lib.hid hT6
      clear hX6 hT6 hb6 c0 c1
      rw [HX6.out, HT6.out]
      obtain ⟨i0, i1, -, -⟩ := row2 G6.out
      obtain ⟨j0, j1, -, -⟩ := row2 (keep2 G5.out D6.out)
      obtain ⟨k0, k1, -, -⟩ := row2 (keep2 G4.out (btr D5.out D6.out))
      by_cases hij : bi = ai
      · subst hij
        have hjj : ¬ (bj : Int) = (aj : Int) := by
          intro e
          have : bj = aj := by omega
          exact HNE.out (by rw [this])
        go_wp2_with (go_at_call 8; refine (HAW.out _).mono ?_; rintro e w3 ⟨rfl, hb3⟩)
        go_ret
        exact ⟨rfl, btr HB1.out (btr D4.out (btr D5.out (btr D6.out hb3)))⟩
      · have hii : ¬ (bi : Int) = (ai : Int) := by omega
        go_wp2_with (go_at_call 8; refine (HAW.out _).mono ?_; rintro e w3 ⟨rfl, hb3⟩)
        go_ret
        exact ⟨rfl, btr HB1.out (btr D4.out (btr D5.out (btr D6.out hb3)))⟩
end Go.Proofs.Ytikdojebnbmpoaa.U
