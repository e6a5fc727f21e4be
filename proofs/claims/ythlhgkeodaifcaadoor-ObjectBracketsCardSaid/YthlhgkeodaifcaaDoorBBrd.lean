/-
  The program's bracketed: the pair around p. (MADE by wip/tools/gen_bprg.py.)
-/
import Derived.Test.YthlhgkeodaifcaaDoorBLon
import Derived.Test.YthlhgkeodaifcaaDoorBWrd
namespace Go.Proofs.YthlhgkeodaifcaaDoor.U
open Go.RowKit
set_option linter.unusedVariables false
set_option linter.unusedSimpArgs false
set_option maxRecDepth 100000

theorem behaheP {L : List (List Int)} {a b : Pl} (ha : runeP L a) (hb : runeP L b) (hlt : aheadP a b = true) {p : Pl} {o c : Int} (hp : pairP L p o c = some (a, b)) :
    bracketsP L p o c false = if aheadP (ahePl L b) (behPl L a) = true then none else some (behPl L a, ahePl L b) := by
  obtain ⟨a1, a2⟩ := a
  obtain ⟨b1, b2⟩ := b
  obtain ⟨h1, h2⟩ := ha
  obtain ⟨h3, h4⟩ := hb
  rw [aheadP_iff] at hlt
  simp only at h1 h2 h3 h4 hlt
  unfold bracketsP
  rw [hp]
  simp only [Bool.false_eq_true, if_false]
  rw [if_neg (by omega)]
  have e1 : (if a2 + 1 = (lnL L a1).length then ((a1 + 1, 0) : Pl) else (a1, a2 + 1)) = behPl L (a1, a2) := rfl
  have e2 : (if b2 = 0 then ((b1 - 1, (lnL L (b1 - 1)).length - 1) : Pl) else (b1, b2 - 1)) = ahePl L (b1, b2) := by
    unfold ahePl
    simp only
    by_cases h0 : b2 = 0
    · rw [if_pos h0, if_pos h0, last_take (by omega) (by omega)]
    · rw [if_neg h0, if_neg h0]
  rw [e1, e2]
  by_cases h5 : aheadP (ahePl L (b1, b2)) (behPl L (a1, a2)) = true
  · rw [if_pos (.inr h5), if_pos h5]
  · rw [if_neg h5, if_neg]
    rintro (h6 | h6)
    · apply h5
      rw [aheadP_iff]
      left
      have h7 : (ahePl L (b1, b2)).1 ≤ b1 := by
        rw [← e2]
        split
        · show b1 - 1 ≤ b1; omega
        · exact Nat.le_refl _
      omega
    · exact h5 h6
set_option maxHeartbeats 4000000 in
theorem abracketed_any (F : Nat → Prop) (a : Option Addr) (n c l q : Nat) (ar : Bool) (L : List (List Int)) (o1 o2 : Int) (w : World) (h : RdL F w a n c L) (hp : okP L (l, q)) (hoo : o1 ≠ o2) (hz : sizeN (lens L) ≤ 262144) :
    Calls Tryd.prog 31 #[askL a n c l q ar, .agg #[.int .i32 o1, .int .i32 o2]] w (RgE ((bracketsP L (l, q) o1 o2 ar).map fun r => (r.1, r.2, 0)) w) := by
  have hl := h.len
  have hlen1 : (fromP L (l, q)).length ≤ 262144 := by
    have h1 := runesP_len L
    have h2 : (fromP L (l, q)).length ≤ (runesP L).length := List.length_filter_le _ _
    omega
  have hlen2 : (uptoP L (l, q)).length ≤ 262144 := by
    have h1 := runesP_len L
    have h2 : (uptoP L (l, q)).length ≤ (runesP L).length := by unfold uptoP; rw [List.length_reverse]; exact List.length_filter_le _ _
    omega
  have HLA : Hid (∀ W, Below w.heap.size w W → Calls Tryd.prog 41 #[askL a n c l q ar, .int .i32 o1, .int .i32 o2, .int .i64 (-1)] W fun e w' => e = .returned (.tuple #[plV ((loneP o1 o2 (l, q) (uptoP L (l, q)) 0).getD (0, 0)), .bool (loneP o1 o2 (l, q) (uptoP L (l, q)) 0).isSome]) ∧ Below W.heap.size W w') := fun W hW => alone_any F a n c l q ar L o1 o2 (-1) _ W (h.below hW) (stand_upto hp) hlen2
  have HLB : Hid (∀ W, Below w.heap.size w W → Calls Tryd.prog 41 #[askL a n c l q ar, .int .i32 o2, .int .i32 o1, .int .i64 1] W fun e w' => e = .returned (.tuple #[plV ((loneP o2 o1 (l, q) (fromP L (l, q)) 0).getD (0, 0)), .bool (loneP o2 o1 (l, q) (fromP L (l, q)) 0).isSome]) ∧ Below W.heap.size W w') := fun W hW => alone_any F a n c l q ar L o2 o1 1 _ W (h.below hW) stand_from hlen1
  have hpl := pair_lone (L := L) (p := (l, q)) hoo
  obtain ⟨R, hR⟩ : ∃ R, ((bracketsP L (l, q) o1 o2 ar).map fun r => (r.1, r.2, (0 : Int))) = R := ⟨_, rfl⟩
  rw [hR]
  obtain ⟨u, hu⟩ : ∃ u, loneP o1 o2 (l, q) (uptoP L (l, q)) 0 = u := ⟨_, rfl⟩
  obtain ⟨v, hv⟩ : ∃ v, loneP o2 o1 (l, q) (fromP L (l, q)) 0 = v := ⟨_, rfl⟩
  rw [hu] at HLA hpl
  rw [hv] at HLB hpl
  have HR0 : Hid (pairP L (l, q) o1 o2 = none → R = none) := by
    intro e
    rw [← hR]
    unfold bracketsP
    rw [e]
    rfl
  have HBT : Hid (∀ (a1 a2 b1 b2 : Nat) (W : World), pairP L (l, q) o1 o2 = some ((a1, a2), (b1, b2)) → Below w.heap.size w W → Calls Tryd.prog 40 #[askL a n c l q ar, .agg #[.int .i64 (a1 : Nat), .int .i64 (a2 : Nat)], .agg #[.int .i64 (b1 : Nat), .int .i64 (b2 : Nat)]] W (RgE R W)) := by
    intro a1 a2 b1 b2 W hpp hW
    obtain ⟨r1, r2, -, -, -, -, hlt, -⟩ := pairP_props hoo hpp
    cases ar with
    | true =>
      refine (between_around a n c l q a1 a2 b1 b2 W).mono ?_
      rintro e w' ⟨rfl, hb⟩
      refine ⟨_, _, _, _, _, _, rfl, ?_, hb⟩
      rw [aheadP_asym hlt, ← hR]
      unfold bracketsP
      rw [hpp]
      exact ⟨rfl, rfl, rfl, rfl, rfl, rfl⟩
    | false =>
      have k1 := r1.1
      have k2 := r1.2
      have k3 := r2.1
      have k4 := r2.2
      simp only at k1 k2 k3 k4
      refine (between_inner F a n c l q L a1 a2 b1 b2 W (h.below hW) (by omega) (by omega) (by omega) (by omega)).mono ?_
      rintro e w' ⟨rfl, hb⟩
      refine ⟨_, _, _, _, _, _, rfl, ?_, hb⟩
      rw [← hR, behaheP r1 r2 hlt hpp]
      by_cases h5 : aheadP (ahePl L (b1, b2)) (behPl L (a1, a2)) = true
      · rw [if_pos h5, h5]
        exact rfl
      · rw [if_neg h5]
        simp only [Bool.not_eq_true] at h5
        rw [h5]
        exact ⟨rfl, rfl, rfl, rfl, rfl, rfl⟩
  obtain ⟨w1, hw1, hsz, g1, g2, g3, hb1⟩ := three3 w (askO a n c l q ar) (.cells #[.int .i32 o1, .int .i32 o2] 60) (.cells #[.int .i64 0, .int .i64 0, .int .i64 0, .int .i64 0, .int .i64 0] 41)
  obtain ⟨x0, x1, x2, x3⟩ := row4 g1
  obtain ⟨y0, y1, -, -⟩ := row2v2 g2
  have HW1 := Lib.hid hw1
  have HB1 := Lib.hid hb1
  have G1 := Lib.hid g1
  have G2 := Lib.hid g2
  have G3 := Lib.hid g3
  obtain ⟨⟨u1, u2⟩, hu1⟩ : ∃ y, u.getD (0, 0) = y := ⟨_, rfl⟩
  obtain ⟨uk, huk⟩ : ∃ y, u.isSome = y := ⟨_, rfl⟩
  obtain ⟨⟨v1, v2⟩, hv1⟩ : ∃ y, v.getD (0, 0) = y := ⟨_, rfl⟩
  obtain ⟨vk, hvk⟩ : ∃ y, v.isSome = y := ⟨_, rfl⟩
  rw [hu1, huk] at HLA
  rw [hv1, hvk] at HLB
  unfold plV at HLA HLB
  simp only at HLA HLB
  have HPN : Hid (uk = false ∨ vk = false → R = none) := by
    intro e
    apply HR0.out
    rw [hpl]
    rcases e with e | e
    · rw [← huk] at e
      have : u = none := by simpa using e
      rw [this]; rfl
    · rw [← hvk] at e
      have : v = none := by simpa using e
      rw [this]
      cases u <;> rfl
  have HPS : Hid (uk = true → vk = true → pairP L (l, q) o1 o2 = some ((u1, u2), (v1, v2))) := by
    intro e1 e2
    rw [hpl]
    rw [← huk] at e1
    rw [← hvk] at e2
    cases u with
    | none => cases e1
    | some y =>
      cases v with
      | none => cases e2
      | some z =>
        simp only [Option.getD_some] at hu1 hv1
        rw [hu1, hv1]
        rfl
  clear h hl hp hoo hz hlen1 hlen2 hpl hR hu hv hw1 hb1 g1 g2 g3 hsz hu1 huk hv1 hvk HR0
  cases uk with
  | false =>
    have HRN : Hid (R = none) := HPN.out (.inl rfl)
    go_enter Tryd.func31, Tryd.ntmps31
    go_upto_region 1 with fail
    rw [HW1.out]
    go_upto_region 2 with (go_at_call 41; refine (HLA.out _ HB1.out).mono ?_; rintro e w3 ⟨rfl, hb3⟩)
    obtain ⟨w4, hw4, hsz4, g4, hb4⟩ := one1 w3 (.cells #[.int .i64 (u1 : Nat), .int .i64 (u2 : Nat)] 24)
    rw [hw4]
    have hb14 := btr hb3 hb4
    have HB4 : Hid (Below w.heap.size w w4) := btr HB1.out hb14
    obtain ⟨x0, x1, x2, x3⟩ := row4 (keepO G1.out hb14)
    obtain ⟨y0, y1, -, -⟩ := row2v2 (keepO G2.out hb14)
    have G34 := Lib.hid (keepO G3.out hb14)
    have G14 := Lib.hid (keepO G1.out hb14)
    have HS4 : Hid (w.heap.size + 1 + 1 < w3.heap.size) := (Array.getElem?_eq_some_iff.1 (keepO G3.out hb3)).1
    obtain ⟨S4, hS4⟩ : ∃ S, w3.heap.size = S := ⟨_, rfl⟩
    rw [hS4] at g4 HS4
    rw [hS4]
    have G4 := Lib.hid g4
    clear hw4 hsz4 g4 hb4 hb3 hb14 hS4
    go_upto_region 3 with (go_at_call 41; refine (HLB.out _ HB4.out).mono ?_; rintro e w5 ⟨rfl, hb5⟩)
    obtain ⟨w6, hw6, hsz6, g6, hb6⟩ := one1 w5 (.cells #[.int .i64 (v1 : Nat), .int .i64 (v2 : Nat)] 24)
    rw [hw6]
    have hb46 := btr hb5 hb6
    have HB6 : Hid (Below w.heap.size w w6) := btr HB4.out hb46
    obtain ⟨x0, x1, x2, x3⟩ := row4 (keepO G14.out hb46)
    obtain ⟨z0, z1, -, -⟩ := row2 (keepO G4.out hb46)
    obtain ⟨r0, r1, r2, r3, r4, rf0, rf1, rf2, rf3, rf4⟩ := row5 (keepO G34.out hb46)
    have G36 := Lib.hid (keepO G34.out hb46)
    obtain ⟨S6, hS6⟩ : ∃ S, w5.heap.size = S := ⟨_, rfl⟩
    rw [hS6] at g6
    rw [hS6]
    obtain ⟨q0, q1, -, -⟩ := row2 g6
    clear hw6 hsz6 g6 hb6 hb5 hb46 hS6 y0 y1
    go_wp2_with fail
    refine bodyPost_ret (v := .tuple #[regL 0 0 0 0 0, .bool false]) ?_ rfl ⟨0, 0, 0, 0, 0, false, rfl, by rw [HRN.out]; rfl, ?_⟩
    · rw [results_ct rfl]
      go_simp
    · have h2 := HB6.out
      (repeat' (first | with_reducible exact h2 | omega | with_reducible refine setCell_below ?_ _ _ _ ?_))
  | true =>
    cases vk with
    | false =>
      have HRN : Hid (R = none) := HPN.out (.inr rfl)
      go_enter Tryd.func31, Tryd.ntmps31
      go_upto_region 1 with fail
      rw [HW1.out]
      go_upto_region 2 with (go_at_call 41; refine (HLA.out _ HB1.out).mono ?_; rintro e w3 ⟨rfl, hb3⟩)
      obtain ⟨w4, hw4, hsz4, g4, hb4⟩ := one1 w3 (.cells #[.int .i64 (u1 : Nat), .int .i64 (u2 : Nat)] 24)
      rw [hw4]
      have hb14 := btr hb3 hb4
      have HB4 : Hid (Below w.heap.size w w4) := btr HB1.out hb14
      obtain ⟨x0, x1, x2, x3⟩ := row4 (keepO G1.out hb14)
      obtain ⟨y0, y1, -, -⟩ := row2v2 (keepO G2.out hb14)
      have G34 := Lib.hid (keepO G3.out hb14)
      have G14 := Lib.hid (keepO G1.out hb14)
      have HS4 : Hid (w.heap.size + 1 + 1 < w3.heap.size) := (Array.getElem?_eq_some_iff.1 (keepO G3.out hb3)).1
      obtain ⟨S4, hS4⟩ : ∃ S, w3.heap.size = S := ⟨_, rfl⟩
      rw [hS4] at g4 HS4
      rw [hS4]
      have G4 := Lib.hid g4
      clear hw4 hsz4 g4 hb4 hb3 hb14 hS4
      go_upto_region 3 with (go_at_call 41; refine (HLB.out _ HB4.out).mono ?_; rintro e w5 ⟨rfl, hb5⟩)
      obtain ⟨w6, hw6, hsz6, g6, hb6⟩ := one1 w5 (.cells #[.int .i64 (v1 : Nat), .int .i64 (v2 : Nat)] 24)
      rw [hw6]
      have hb46 := btr hb5 hb6
      have HB6 : Hid (Below w.heap.size w w6) := btr HB4.out hb46
      obtain ⟨x0, x1, x2, x3⟩ := row4 (keepO G14.out hb46)
      obtain ⟨z0, z1, -, -⟩ := row2 (keepO G4.out hb46)
      obtain ⟨r0, r1, r2, r3, r4, rf0, rf1, rf2, rf3, rf4⟩ := row5 (keepO G34.out hb46)
      have G36 := Lib.hid (keepO G34.out hb46)
      obtain ⟨S6, hS6⟩ : ∃ S, w5.heap.size = S := ⟨_, rfl⟩
      rw [hS6] at g6
      rw [hS6]
      obtain ⟨q0, q1, -, -⟩ := row2 g6
      clear hw6 hsz6 g6 hb6 hb5 hb46 hS6 y0 y1
      go_wp2_with fail
      refine bodyPost_ret (v := .tuple #[regL 0 0 0 0 0, .bool false]) ?_ rfl ⟨0, 0, 0, 0, 0, false, rfl, by rw [HRN.out]; rfl, ?_⟩
      · rw [results_ct rfl]
        go_simp
      · have h2 := HB6.out
        (repeat' (first | with_reducible exact h2 | omega | with_reducible refine setCell_below ?_ _ _ _ ?_))
    | true =>
      have HPP : Hid (pairP L (l, q) o1 o2 = some ((u1, u2), (v1, v2))) := HPS.out rfl rfl
      go_enter Tryd.func31, Tryd.ntmps31
      go_upto_region 1 with fail
      rw [HW1.out]
      go_upto_region 2 with (go_at_call 41; refine (HLA.out _ HB1.out).mono ?_; rintro e w3 ⟨rfl, hb3⟩)
      obtain ⟨w4, hw4, hsz4, g4, hb4⟩ := one1 w3 (.cells #[.int .i64 (u1 : Nat), .int .i64 (u2 : Nat)] 24)
      rw [hw4]
      have hb14 := btr hb3 hb4
      have HB4 : Hid (Below w.heap.size w w4) := btr HB1.out hb14
      obtain ⟨x0, x1, x2, x3⟩ := row4 (keepO G1.out hb14)
      obtain ⟨y0, y1, -, -⟩ := row2v2 (keepO G2.out hb14)
      have G34 := Lib.hid (keepO G3.out hb14)
      have G14 := Lib.hid (keepO G1.out hb14)
      have HS4 : Hid (w.heap.size + 1 + 1 < w3.heap.size) := (Array.getElem?_eq_some_iff.1 (keepO G3.out hb3)).1
      obtain ⟨S4, hS4⟩ : ∃ S, w3.heap.size = S := ⟨_, rfl⟩
      rw [hS4] at g4 HS4
      rw [hS4]
      have G4 := Lib.hid g4
      clear hw4 hsz4 g4 hb4 hb3 hb14 hS4
      go_upto_region 3 with (go_at_call 41; refine (HLB.out _ HB4.out).mono ?_; rintro e w5 ⟨rfl, hb5⟩)
      obtain ⟨w6, hw6, hsz6, g6, hb6⟩ := one1 w5 (.cells #[.int .i64 (v1 : Nat), .int .i64 (v2 : Nat)] 24)
      rw [hw6]
      have hb46 := btr hb5 hb6
      have HB6 : Hid (Below w.heap.size w w6) := btr HB4.out hb46
      obtain ⟨x0, x1, x2, x3⟩ := row4 (keepO G14.out hb46)
      obtain ⟨z0, z1, -, -⟩ := row2 (keepO G4.out hb46)
      obtain ⟨r0, r1, r2, r3, r4, rf0, rf1, rf2, rf3, rf4⟩ := row5 (keepO G34.out hb46)
      have G36 := Lib.hid (keepO G34.out hb46)
      obtain ⟨S6, hS6⟩ : ∃ S, w5.heap.size = S := ⟨_, rfl⟩
      rw [hS6] at g6
      rw [hS6]
      obtain ⟨q0, q1, -, -⟩ := row2 g6
      clear hw6 hsz6 g6 hb6 hb5 hb46 hS6 y0 y1
      go_wp2_with (go_at_call 40; refine (HBT.out _ _ _ _ _ HPP.out HB6.out).mono ?_; rintro e w7 ⟨c1, c2, c3, c4, c5, ck, rfl, hck, hb7⟩; obtain ⟨r0, r1, r2, r3, r4, rf0, rf1, rf2, rf3, rf4⟩ := row5 (keepO G36.out hb7); have HCK := Lib.hid hck; have HB7 : Hid (Below w.heap.size w w7) := btr HB6.out hb7; clear hck hb7)
      refine bodyPost_ret (v := .tuple #[regL c1 c2 c3 c4 c5, .bool ck]) ?_ rfl ⟨_, _, _, _, _, _, rfl, HCK.out, ?_⟩
      · rw [results_ct rfl]
        go_simp
      · have h2 := HB7.out
        (repeat' (first | with_reducible exact h2 | omega | with_reducible refine setCell_below ?_ _ _ _ ?_))
end Go.Proofs.YthlhgkeodaifcaaDoor.U
