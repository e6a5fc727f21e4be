/-
  The document's brackets: what is between. (MADE by wip/tools/gen_bbri.py.)
-/
import Derived.Test.YthlhgkeodaifcaaDoorBBrs
namespace Go.Proofs.YthlhgkeodaifcaaDoor.U
open Go.RowKit
set_option linter.unusedVariables false
set_option linter.unusedSimpArgs false
set_option maxRecDepth 100000
set_option maxHeartbeats 8000000 in
theorem rbrackets_inner (F : Nat → Prop) (a : Option Addr) (n c : Nat) (L : List (List Int)) (p1 p2 : Nat) (o1 o2 : Int) (w : World) (h : RdL F w a n c L) (hoo : o1 ≠ o2) (hz : sizeN (lens L) ≤ 262144) (a1 a2 b1 b2 : Nat) (hr : pairP L (p1, p2) o1 o2 = some ((a1, a2), (b1, b2))) :
    Calls Tryd.prog 23 #[.slice a n c, .agg #[.int .i64 (p1 : Nat), .int .i64 (p2 : Nat)], .int .i32 o1, .int .i32 o2, .bool false] w fun e w' => e = .returned (brsV (bracketsP L (p1, p2) o1 o2 false)) ∧ Below w.heap.size w w' := by
  have hl := h.len
  have hsm := h.small
  obtain ⟨w0, hw0, hsz0, g1, g2, hb0⟩ := ltwo w (.cells #[.int .i64 (p1 : Nat), .int .i64 (p2 : Nat)] 24) (.cells #[.int .i64 0, .int .i64 0] 24)
  obtain ⟨w1, hw1, hsz1, g3, hb1'⟩ := lone w0 (.cells #[.int .i64 0, .int .i64 0] 24)
  rw [hsz0] at g3
  replace g1 := (hb1'.block _ (Array.getElem?_eq_some_iff.1 g1).1).trans g1
  replace g2 := (hb1'.block _ (Array.getElem?_eq_some_iff.1 g2).1).trans g2
  have hb1 : Below w.heap.size w w1 := btr hb0 hb1'
  have HPA : Hid (Calls Tryd.prog 34 #[.slice a n c, .agg #[.int .i64 (p1 : Nat), .int .i64 (p2 : Nat)], .int .i32 o1, .int .i32 o2] w1 fun e w' => e = .returned (.tuple #[.agg #[.int .i64 (a1 : Nat), .int .i64 (a2 : Nat)], .agg #[.int .i64 (b1 : Nat), .int .i64 (b2 : Nat)], .bool true]) ∧ Below w1.heap.size w1 w') := by
    have := rpair_any F a n c L p1 p2 o1 o2 w1 (h.below hb1) hoo hz
    rw [hr] at this
    exact this
  have HW1 : Hid (((w.alloc (.cells #[.int .i64 (p1 : Nat), .int .i64 (p2 : Nat)] 24)).alloc (.cells #[.int .i64 0, .int .i64 0] 24)).alloc (.cells #[.int .i64 0, .int .i64 0] 24) = w1) := by show _ = _; rw [hw0, hw1]
  have HB1 := Lib.hid hb1
  have G2 := Lib.hid g2
  have G3 : Hid (w1.heap[w.heap.size + 1 + 1]? = some (.cells #[.int .i64 0, .int .i64 0] 24 (0, 0))) := g3
  obtain ⟨x0, x1, -, -⟩ := row2 g1
  have hbr := brackets_in hr
  simp only at hbr
  obtain ⟨hra, hrb, -⟩ := pairP_props hoo hr
  obtain ⟨ha1, ha2⟩ := hra
  obtain ⟨hb1n, hb2⟩ := hrb
  simp only at ha1 ha2 hb1n hb2
  rw [hl] at ha1 hb1n hbr
  have HBST : Hid (∀ (w3 w4 : World), Below w1.heap.size w1 w3 → Below w3.heap.size w3 w4 → w4.heap[w3.heap.size]? = some (.cells #[.int .i64 (a1 : Nat), .int .i64 (a2 : Nat)] 24 (0, 0)) → w4.heap[w3.heap.size + 1]? = some (.cells #[.int .i64 (b1 : Nat), .int .i64 (b2 : Nat)] 24 (0, 0)) → BrS w w3.heap.size (a1 : Nat) (a2 : Nat) (b1 : Nat) (b2 : Nat) w4) := by
    intro w3 w4 h3 h4 h5 h6
    have hlt := (Array.getElem?_eq_some_iff.1 G3.out).1
    have h34 := btr h3 h4
    exact ⟨btr HB1.out h34, h5, h6, (h34.block _ (Array.getElem?_eq_some_iff.1 G2.out).1).trans G2.out, (h34.block _ hlt).trans G3.out, by have := h3.size; omega⟩
  have HLN : Hid (∀ (i : Nat) (W : World), i < n → Below w.heap.size w W → ∃ b off ra rc, a = some ⟨b, off, none⟩ ∧ W.cell? ⟨b, off + i, none⟩ = some (.slice ra (lnL L i).length rc) ∧ (lnL L i).length ≤ 9223372036854775807) := by
    intro i W hi hb
    obtain ⟨b, off, ra, rc, e1, _, e3, e4, e5⟩ := okP.line (p := (i, 0)) h ⟨by simp only; omega, by simp⟩ hb
    exact ⟨b, off, ra, rc, e1, e4, e5.small⟩
  obtain ⟨br, hbr0⟩ : ∃ y, bracketsP L (p1, p2) o1 o2 false = y := ⟨_, rfl⟩
  rw [hbr0] at hbr ⊢
  obtain ⟨m, hm⟩ : ∃ m, (lnL L a1).length = m := ⟨_, rfl⟩
  rw [hm] at ha2 hbr
  obtain ⟨a3, ha3⟩ : ∃ a3, a2 + 1 = a3 := ⟨_, rfl⟩
  have HA3 := Lib.hid ha3
  have HMM := Lib.hid hm
  have HBR := Lib.hid hbr
  have HAH : Hid (∀ (x1 x2 y1 y2 : Nat) (W' : World), Calls Tryd.prog 13 #[.agg #[.int .i64 (x1 : Nat), .int .i64 (x2 : Nat)], .agg #[.int .i64 (y1 : Nat), .int .i64 (y2 : Nat)]] W' fun e w' => e = .returned (.bool (aheadP (x1, x2) (y1, y2))) ∧ Below W'.heap.size W' w') := fun x1 x2 y1 y2 W' => rahead_any (x1, x2) (y1, y2) W'
  have e3 : (a2 : Int) + 1 = (a3 : Int) := by omega
  have HB2 : Hid (b2 < (lnL L b1).length) := hb2
  clear h g1 g2 g3 hb0 hb1 hb1' hw0 hw1 hr hbr hbr0 hm hl hoo hz hsz0 hsz1 ha3 hb2
  go_enter Tryd.func23, Tryd.ntmps23
  go_upto_region 1 with fail
  rw [HW1.out]
  go_upto_region 2 with (go_at_call 34; refine HPA.out.mono ?_; rintro e w3 ⟨rfl, hb3⟩)
  obtain ⟨w4, hw4, hsz4, g5, g6, hb4⟩ := ltwo w3 (.cells #[.int .i64 (a1 : Nat), .int .i64 (a2 : Nat)] 24) (.cells #[.int .i64 (b1 : Nat), .int .i64 (b2 : Nat)] 24)
  rw [hw4]
  have HA4 := Lib.hid (HBST.out w3 w4 hb3 hb4 g5 g6)
  obtain ⟨S, hS⟩ : ∃ S, w3.heap.size = S := ⟨_, rfl⟩
  rw [hS] at HA4
  rw [hS]
  obtain ⟨s0, s1, sf0, sf1⟩ := HA4.out.pa
  have hS6 := HA4.out.2.2.2.2.2
  have n1 : ¬ S = w.heap.size + 1 := by omega
  have n2 : ¬ S = w.heap.size + 1 + 1 := by omega
  have n3 : ¬ S + 1 = w.heap.size + 1 := by omega
  have n4 : ¬ S + 1 = w.heap.size + 1 + 1 := by omega
  clear hw4 hsz4 g5 g6 hb4 hb3 hS hS6
  obtain ⟨b, off, ra, rc, rfl, -, hmb⟩ := HLN.out a1 w (by omega) (Below.refl _ _)
  rw [HMM.out] at hmb
  have k0 : IntKind.i64.wrap (a3 : Int) = (a3 : Int) := by have := HA3.out; rw [IntKind.wrap_i64]; omega
  go_upto_region 5 with fail
  obtain ⟨w5, hw5⟩ : ∃ w5, w4.setCell ⟨S, 1, none⟩ (.int .i64 (a3 : Nat)) = w5 := ⟨_, rfl⟩
  have HA5 : Hid (BrS w S (a1 : Nat) (a3 : Nat) (b1 : Nat) (b2 : Nat) w5) := by
    rw [← hw5]; exact HA4.out.setA _
  rw [hw5]
  clear hw5 s0 s1 sf0 sf1
  obtain ⟨s0, s1, sf0, sf1⟩ := HA5.out.pa
  obtain ⟨b', off', ra', rc', he', l0, -⟩ := HLN.out a1 w5 (by omega) HA5.out.1
  cases he'
  rw [HMM.out] at l0
  have d4 : ¬ (a1 : Int) < 0 := by omega
  have d5 : decide ((a1 : Int) < 0) = false := by simp
  go_region
  have HA5d : Hid (BrS w S (a1 : Nat) (a3 : Nat) (b1 : Nat) (b2 : Nat) w5.drew) := HA5.out.below ((Below.refl _ _).drew)
  obtain ⟨w5', hw5'⟩ : ∃ x, w5.drew = x := ⟨_, rfl⟩
  rw [hw5'] at HA5d ⊢
  clear hw5' s0 s1 sf0 sf1 l0
  obtain ⟨s0, s1, sf0, sf1⟩ := HA5d.out.pa
  have k1 : IntKind.i64.wrap ((a1 : Int) + 1) = (a1 : Int) + 1 := by rw [IntKind.wrap_i64]; omega
  by_cases hA : a3 = m
  · have hA0 : a2 + 1 = m := by rw [HA3.out]; exact hA
    have e5 : ((a3 : Int) == (m : Int)) = true := by simp [hA]
    have HA0 := Lib.hid hA0
    clear hA hA0
    go_upto_region 7 with fail
    obtain ⟨w6, hw6⟩ : ∃ x, (w5'.setCell ⟨S, 0, none⟩ (.int .i64 ((a1 : Int) + 1))).setCell ⟨S, 1, none⟩ (.int .i64 0) = x := ⟨_, rfl⟩
    have HA6 : Hid (BrS w S ((a1 : Int) + 1) 0 (b1 : Nat) (b2 : Nat) w6) := by rw [← hw6]; exact (HA5d.out.setA0 _).setA _
    rw [hw6]
    clear hw6 s0 s1 sf0 sf1
    obtain ⟨t0, t1, tf0, tf1⟩ := HA6.out.pb
    by_cases hB : b2 = 0
    · have e6 : (b2 : Int) - 1 = -1 := by omega
      have HB0 := Lib.hid hB
      clear hB
      go_upto_region 8 with fail
      obtain ⟨w7, hw7⟩ : ∃ x, w6.setCell ⟨S + 1, 1, none⟩ (.int .i64 (-1)) = x := ⟨_, rfl⟩
      have HA7 : Hid (BrS w S ((a1 : Int) + 1) 0 (b1 : Nat) (-1) w7) := by rw [← hw7]; exact HA6.out.setB _
      rw [hw7]
      clear hw7 t0 t1 tf0 tf1
      obtain ⟨t0, t1, tf0, tf1⟩ := HA7.out.pb
      by_cases hB1 : b1 = 0
      · have e7 : ((b1 : Int) == 0) = true := by simp [hB1]
        have HB10 := Lib.hid hB1
        clear hB1
        have HRS : Hid (br = none) := by
          show _ = _
          rw [HBR.out]
          rw [if_pos ⟨HB0.out, HB10.out⟩]
        obtain ⟨y0, y1, yf0, yf1⟩ := HA7.out.r1
        obtain ⟨z0, z1, zf0, zf1⟩ := HA7.out.r2
        go_wp2_with fail
        refine bodyPost_ret (v := .tuple #[.agg #[.int .i64 0, .int .i64 0], .agg #[.int .i64 0, .int .i64 0], .bool false]) ?_ rfl ⟨by rw [HRS.out]; rfl, ?_⟩
        · rw [results_cct rfl]
          go_simp
        · have h2 := HA7.out.1
          (repeat' (first | exact h2 | exact btr h2 hb9 | omega | with_reducible refine Below.drew ?_ | with_reducible refine setCell_below ?_ _ _ _ ?_))
      · have e7 : ((b1 : Int) == 0) = false := by simp [hB1]
        obtain ⟨b4, hb4⟩ : ∃ x, b1 - 1 = x := ⟨_, rfl⟩
        have e8 : (b1 : Int) - 1 = (b4 : Int) := by omega
        obtain ⟨b', off', rd, rdc, he', l0, hlb⟩ := HLN.out b4 w7 (by omega) HA7.out.1
        cases he'
        obtain ⟨lb, hlb0⟩ : ∃ x, (lnL L b4).length = x := ⟨_, rfl⟩
        rw [hlb0] at l0 hlb
        obtain ⟨b5, hb5⟩ : ∃ x, lb - 1 = x := ⟨_, rfl⟩
        have e9 : max (0 : Int) ((lb : Int) - 1) = (b5 : Int) := by omega
        have f1 : ¬ (b4 : Int) < 0 := by omega
        have f2 : decide ((b4 : Int) < 0) = false := by simp
        have f3 : b4 < n := by omega
        have f4 : IntKind.i64.wrap ((lb : Int) - 1) = (lb : Int) - 1 := by rw [IntKind.wrap_i64]; omega
        have f5 : IntKind.i64.wrap (b4 : Int) = (b4 : Int) := by rw [IntKind.wrap_i64]; omega
        have HBE : Hid (¬ (b2 = 0 ∧ b1 = 0) ∧ b2 = 0 ∧ (b1 - 1, (lnL L (b1 - 1)).length - 1) = (b4, b5)) := ⟨fun hh => hB1 hh.2, HB0.out, by rw [hb4, hlb0, hb5]⟩
        clear hB1 hb4 hlb0 hb5
        go_wp2_with fail
        go_region
        obtain ⟨w8, hw8⟩ : ∃ x, ((w7.setCell ⟨S + 1, 0, none⟩ (.int .i64 (b4 : Nat))).setCell ⟨S + 1, 1, none⟩ (.int .i64 (b5 : Nat))).drew = x := ⟨_, rfl⟩
        have HA8 : Hid (BrS w S ((a1 : Int) + 1) 0 (b4 : Nat) (b5 : Nat) w8) := by rw [← hw8]; exact ((HA7.out.setB0 _).setB _).below ((Below.refl _ _).drew)
        rw [hw8]
        clear hw8 t0 t1 tf0 tf1 l0
        have HBX : Hid (br = if n ≤ a1 + 1 ∨ aheadP (b4, b5) (a1 + 1, 0) = true then none else some ((a1 + 1, 0), (b4, b5))) := by
          have hh := HBR.out
          rw [if_neg HBE.out.1] at hh
          simp only [if_pos HA0.out, if_pos HBE.out.2.1, HBE.out.2.2] at hh
          
          exact hh
        obtain ⟨s0, s1, sf0, sf1⟩ := HA8.out.pa
        obtain ⟨t0, t1, tf0, tf1⟩ := HA8.out.pb
        by_cases hge : n ≤ a1 + 1
        · have g1 : (n : Int) ≤ ((a1 : Int) + 1) := by omega
          have g2 : decide ((n : Int) ≤ ((a1 : Int) + 1)) = true := by simp; omega
          have HRS : Hid (br = none) := by
            show _ = _
            rw [HBX.out, if_pos (.inl hge)]
          obtain ⟨y0, y1, yf0, yf1⟩ := HA8.out.r1
          obtain ⟨z0, z1, zf0, zf1⟩ := HA8.out.r2
          go_wp2_with fail
          refine bodyPost_ret (v := .tuple #[.agg #[.int .i64 0, .int .i64 0], .agg #[.int .i64 0, .int .i64 0], .bool false]) ?_ rfl ⟨by rw [HRS.out]; rfl, ?_⟩
          · rw [results_cct rfl]
            go_simp
          · have h2 := HA8.out.1
            (repeat' (first | exact h2 | omega | with_reducible refine Below.drew ?_ | with_reducible refine setCell_below ?_ _ _ _ ?_))
        have g1 : ¬ (n : Int) ≤ ((a1 : Int) + 1) := by omega
        have g2 : decide ((n : Int) ≤ ((a1 : Int) + 1)) = false := by simp; omega
        obtain ⟨ah, hah⟩ : ∃ y, aheadP (b4, b5) (a1 + 1, 0) = y := ⟨_, rfl⟩
        have HX : Hid (∀ W', Calls Tryd.prog 13 #[.agg #[.int .i64 (b4 : Nat), .int .i64 (b5 : Nat)], .agg #[.int .i64 ((a1 : Int) + 1), .int .i64 0]] W' fun e w' => e = .returned (.bool ah) ∧ Below W'.heap.size W' w') := by
          intro W'
          have := HAH.out (b4) (b5) (a1 + 1) (0) W'
          rw [hah] at this
          exact this
        cases ah with
        | true =>
          have HRS0 : br = none := by rw [HBX.out, if_pos (.inr hah)]
          have HRS1 := Lib.hid HRS0
          clear hah HRS0
          have HRS : Hid (br = none) := by
            show _ = _
            exact HRS1.out
          obtain ⟨y0, y1, yf0, yf1⟩ := HA8.out.r1
          obtain ⟨z0, z1, zf0, zf1⟩ := HA8.out.r2
          go_wp2_with (go_at_call 13; refine (HX.out _).mono ?_; rintro e w9 ⟨rfl, hb9⟩; have HA9 := Lib.hid (HA8.out.below hb9); obtain ⟨y0, y1, yf0, yf1⟩ := HA9.out.r1; obtain ⟨z0, z1, zf0, zf1⟩ := HA9.out.r2; obtain ⟨s0, s1, sf0, sf1⟩ := HA9.out.pa; obtain ⟨t0, t1, tf0, tf1⟩ := HA9.out.pb)
          refine bodyPost_ret (v := .tuple #[.agg #[.int .i64 0, .int .i64 0], .agg #[.int .i64 0, .int .i64 0], .bool false]) ?_ rfl ⟨by rw [HRS.out]; rfl, ?_⟩
          · rw [results_cct rfl]
            go_simp
          · have h2 := HA9.out.1
            (repeat' (first | exact h2 | omega | with_reducible refine Below.drew ?_ | with_reducible refine setCell_below ?_ _ _ _ ?_))
        | false =>
          have HRS : Hid (br = some ((a1 + 1, 0), (b4, b5))) := by
            show _ = _
            rw [HBX.out, if_neg (fun hh => hh.elim hge (by rw [hah]; simp))]
          clear hah
          go_wp2_with (go_at_call 13; refine (HX.out _).mono ?_; rintro e w9 ⟨rfl, hb9⟩; have HA9 := Lib.hid (HA8.out.below hb9); obtain ⟨y0, y1, yf0, yf1⟩ := HA9.out.r1; obtain ⟨z0, z1, zf0, zf1⟩ := HA9.out.r2; obtain ⟨s0, s1, sf0, sf1⟩ := HA9.out.pa; obtain ⟨t0, t1, tf0, tf1⟩ := HA9.out.pb)
          go_region
          all_goals
            go_wp2_with fail
            refine bodyPost_ret (v := .tuple #[.agg #[.int .i64 ((a1 : Int) + 1), .int .i64 0], .agg #[.int .i64 (b4 : Nat), .int .i64 (b5 : Nat)], .bool true]) ?_ rfl ⟨by rw [HRS.out]; rfl, ?_⟩
            · rw [results_cct rfl]
              go_simp
            · have h2 := HA9.out.1
              (repeat' (first | exact h2 | omega | with_reducible refine Below.drew ?_ | with_reducible refine setCell_below ?_ _ _ _ ?_))
    · obtain ⟨b3, hb3⟩ : ∃ x, b2 - 1 = x := ⟨_, rfl⟩
      have e6 : (b2 : Int) - 1 = (b3 : Int) := by omega
      have f1 : ¬ (b3 : Int) < 0 := by omega
      have f2 : decide ((b3 : Int) < 0) = false := by simp
      have f5 : IntKind.i64.wrap (b3 : Int) = (b3 : Int) := by
        obtain ⟨_, _, _, _, _, _, hlb⟩ := HLN.out b1 w6 (by omega) HA6.out.1
        have := HB2.out
        rw [IntKind.wrap_i64]; omega
      have HBE : Hid (¬ (b2 = 0 ∧ b1 = 0) ∧ ¬ b2 = 0 ∧ b2 - 1 = b3) := ⟨fun hh => hB hh.1, hB, hb3⟩
      clear hB hb3
      go_upto_region 8 with fail
      obtain ⟨w7, hw7⟩ : ∃ x, w6.setCell ⟨S + 1, 1, none⟩ (.int .i64 (b3 : Nat)) = x := ⟨_, rfl⟩
      have HA7 : Hid (BrS w S ((a1 : Int) + 1) 0 (b1 : Nat) (b3 : Nat) w7) := by rw [← hw7]; exact HA6.out.setB _
      rw [hw7]
      clear hw7 t0 t1 tf0 tf1
      have HBX : Hid (br = if n ≤ a1 + 1 ∨ aheadP (b1, b3) (a1 + 1, 0) = true then none else some ((a1 + 1, 0), (b1, b3))) := by
        have hh := HBR.out
        rw [if_neg HBE.out.1] at hh
        simp only [if_pos HA0.out, if_neg HBE.out.2.1, HBE.out.2.2] at hh
        
        exact hh
      obtain ⟨s0, s1, sf0, sf1⟩ := HA7.out.pa
      obtain ⟨t0, t1, tf0, tf1⟩ := HA7.out.pb
      by_cases hge : n ≤ a1 + 1
      · have g1 : (n : Int) ≤ ((a1 : Int) + 1) := by omega
        have g2 : decide ((n : Int) ≤ ((a1 : Int) + 1)) = true := by simp; omega
        have HRS : Hid (br = none) := by
          show _ = _
          rw [HBX.out, if_pos (.inl hge)]
        obtain ⟨y0, y1, yf0, yf1⟩ := HA7.out.r1
        obtain ⟨z0, z1, zf0, zf1⟩ := HA7.out.r2
        go_wp2_with fail
        refine bodyPost_ret (v := .tuple #[.agg #[.int .i64 0, .int .i64 0], .agg #[.int .i64 0, .int .i64 0], .bool false]) ?_ rfl ⟨by rw [HRS.out]; rfl, ?_⟩
        · rw [results_cct rfl]
          go_simp
        · have h2 := HA7.out.1
          (repeat' (first | exact h2 | omega | with_reducible refine Below.drew ?_ | with_reducible refine setCell_below ?_ _ _ _ ?_))
      have g1 : ¬ (n : Int) ≤ ((a1 : Int) + 1) := by omega
      have g2 : decide ((n : Int) ≤ ((a1 : Int) + 1)) = false := by simp; omega
      obtain ⟨ah, hah⟩ : ∃ y, aheadP (b1, b3) (a1 + 1, 0) = y := ⟨_, rfl⟩
      have HX : Hid (∀ W', Calls Tryd.prog 13 #[.agg #[.int .i64 (b1 : Nat), .int .i64 (b3 : Nat)], .agg #[.int .i64 ((a1 : Int) + 1), .int .i64 0]] W' fun e w' => e = .returned (.bool ah) ∧ Below W'.heap.size W' w') := by
        intro W'
        have := HAH.out (b1) (b3) (a1 + 1) (0) W'
        rw [hah] at this
        exact this
      cases ah with
      | true =>
        have HRS0 : br = none := by rw [HBX.out, if_pos (.inr hah)]
        have HRS1 := Lib.hid HRS0
        clear hah HRS0
        have HRS : Hid (br = none) := by
          show _ = _
          exact HRS1.out
        obtain ⟨y0, y1, yf0, yf1⟩ := HA7.out.r1
        obtain ⟨z0, z1, zf0, zf1⟩ := HA7.out.r2
        go_wp2_with (go_at_call 13; refine (HX.out _).mono ?_; rintro e w9 ⟨rfl, hb9⟩; have HA9 := Lib.hid (HA7.out.below hb9); obtain ⟨y0, y1, yf0, yf1⟩ := HA9.out.r1; obtain ⟨z0, z1, zf0, zf1⟩ := HA9.out.r2; obtain ⟨s0, s1, sf0, sf1⟩ := HA9.out.pa; obtain ⟨t0, t1, tf0, tf1⟩ := HA9.out.pb)
        refine bodyPost_ret (v := .tuple #[.agg #[.int .i64 0, .int .i64 0], .agg #[.int .i64 0, .int .i64 0], .bool false]) ?_ rfl ⟨by rw [HRS.out]; rfl, ?_⟩
        · rw [results_cct rfl]
          go_simp
        · have h2 := HA9.out.1
          (repeat' (first | exact h2 | omega | with_reducible refine Below.drew ?_ | with_reducible refine setCell_below ?_ _ _ _ ?_))
      | false =>
        have HRS : Hid (br = some ((a1 + 1, 0), (b1, b3))) := by
          show _ = _
          rw [HBX.out, if_neg (fun hh => hh.elim hge (by rw [hah]; simp))]
        clear hah
        go_wp2_with (go_at_call 13; refine (HX.out _).mono ?_; rintro e w9 ⟨rfl, hb9⟩; have HA9 := Lib.hid (HA7.out.below hb9); obtain ⟨y0, y1, yf0, yf1⟩ := HA9.out.r1; obtain ⟨z0, z1, zf0, zf1⟩ := HA9.out.r2; obtain ⟨s0, s1, sf0, sf1⟩ := HA9.out.pa; obtain ⟨t0, t1, tf0, tf1⟩ := HA9.out.pb)
        go_region
        all_goals
          go_wp2_with fail
          refine bodyPost_ret (v := .tuple #[.agg #[.int .i64 ((a1 : Int) + 1), .int .i64 0], .agg #[.int .i64 (b1 : Nat), .int .i64 (b3 : Nat)], .bool true]) ?_ rfl ⟨by rw [HRS.out]; rfl, ?_⟩
          · rw [results_cct rfl]
            go_simp
          · have h2 := HA9.out.1
            (repeat' (first | exact h2 | omega | with_reducible refine Below.drew ?_ | with_reducible refine setCell_below ?_ _ _ _ ?_))
  · have hA0 : ¬ a2 + 1 = m := by rw [HA3.out]; exact hA
    have e5 : ((a3 : Int) == (m : Int)) = false := by simp; omega
    have HA0 := Lib.hid hA0
    clear hA hA0
    go_upto_region 7 with fail
    obtain ⟨w6, hw6⟩ : ∃ x, w5' = x := ⟨_, rfl⟩
    have HA6 : Hid (BrS w S (a1 : Nat) (a3 : Nat) (b1 : Nat) (b2 : Nat) w6) := by rw [← hw6]; exact HA5d.out
    rw [hw6]
    clear hw6 s0 s1 sf0 sf1
    obtain ⟨t0, t1, tf0, tf1⟩ := HA6.out.pb
    by_cases hB : b2 = 0
    · have e6 : (b2 : Int) - 1 = -1 := by omega
      have HB0 := Lib.hid hB
      clear hB
      go_upto_region 8 with fail
      obtain ⟨w7, hw7⟩ : ∃ x, w6.setCell ⟨S + 1, 1, none⟩ (.int .i64 (-1)) = x := ⟨_, rfl⟩
      have HA7 : Hid (BrS w S (a1 : Nat) (a3 : Nat) (b1 : Nat) (-1) w7) := by rw [← hw7]; exact HA6.out.setB _
      rw [hw7]
      clear hw7 t0 t1 tf0 tf1
      obtain ⟨t0, t1, tf0, tf1⟩ := HA7.out.pb
      by_cases hB1 : b1 = 0
      · have e7 : ((b1 : Int) == 0) = true := by simp [hB1]
        have HB10 := Lib.hid hB1
        clear hB1
        have HRS : Hid (br = none) := by
          show _ = _
          rw [HBR.out]
          rw [if_pos ⟨HB0.out, HB10.out⟩]
        obtain ⟨y0, y1, yf0, yf1⟩ := HA7.out.r1
        obtain ⟨z0, z1, zf0, zf1⟩ := HA7.out.r2
        go_wp2_with fail
        refine bodyPost_ret (v := .tuple #[.agg #[.int .i64 0, .int .i64 0], .agg #[.int .i64 0, .int .i64 0], .bool false]) ?_ rfl ⟨by rw [HRS.out]; rfl, ?_⟩
        · rw [results_cct rfl]
          go_simp
        · have h2 := HA7.out.1
          (repeat' (first | exact h2 | exact btr h2 hb9 | omega | with_reducible refine Below.drew ?_ | with_reducible refine setCell_below ?_ _ _ _ ?_))
      · have e7 : ((b1 : Int) == 0) = false := by simp [hB1]
        obtain ⟨b4, hb4⟩ : ∃ x, b1 - 1 = x := ⟨_, rfl⟩
        have e8 : (b1 : Int) - 1 = (b4 : Int) := by omega
        obtain ⟨b', off', rd, rdc, he', l0, hlb⟩ := HLN.out b4 w7 (by omega) HA7.out.1
        cases he'
        obtain ⟨lb, hlb0⟩ : ∃ x, (lnL L b4).length = x := ⟨_, rfl⟩
        rw [hlb0] at l0 hlb
        obtain ⟨b5, hb5⟩ : ∃ x, lb - 1 = x := ⟨_, rfl⟩
        have e9 : max (0 : Int) ((lb : Int) - 1) = (b5 : Int) := by omega
        have f1 : ¬ (b4 : Int) < 0 := by omega
        have f2 : decide ((b4 : Int) < 0) = false := by simp
        have f3 : b4 < n := by omega
        have f4 : IntKind.i64.wrap ((lb : Int) - 1) = (lb : Int) - 1 := by rw [IntKind.wrap_i64]; omega
        have f5 : IntKind.i64.wrap (b4 : Int) = (b4 : Int) := by rw [IntKind.wrap_i64]; omega
        have HBE : Hid (¬ (b2 = 0 ∧ b1 = 0) ∧ b2 = 0 ∧ (b1 - 1, (lnL L (b1 - 1)).length - 1) = (b4, b5)) := ⟨fun hh => hB1 hh.2, HB0.out, by rw [hb4, hlb0, hb5]⟩
        clear hB1 hb4 hlb0 hb5
        go_wp2_with fail
        go_region
        obtain ⟨w8, hw8⟩ : ∃ x, ((w7.setCell ⟨S + 1, 0, none⟩ (.int .i64 (b4 : Nat))).setCell ⟨S + 1, 1, none⟩ (.int .i64 (b5 : Nat))).drew = x := ⟨_, rfl⟩
        have HA8 : Hid (BrS w S (a1 : Nat) (a3 : Nat) (b4 : Nat) (b5 : Nat) w8) := by rw [← hw8]; exact ((HA7.out.setB0 _).setB _).below ((Below.refl _ _).drew)
        rw [hw8]
        clear hw8 t0 t1 tf0 tf1 l0
        have HBX : Hid (br = if n ≤ a1 ∨ aheadP (b4, b5) (a1, a3) = true then none else some ((a1, a3), (b4, b5))) := by
          have hh := HBR.out
          rw [if_neg HBE.out.1] at hh
          simp only [if_neg HA0.out, if_pos HBE.out.2.1, HBE.out.2.2] at hh
          rw [HA3.out] at hh
          exact hh
        obtain ⟨s0, s1, sf0, sf1⟩ := HA8.out.pa
        obtain ⟨t0, t1, tf0, tf1⟩ := HA8.out.pb
        have hge : ¬ n ≤ a1 := by omega
        have g1 : ¬ (n : Int) ≤ (a1 : Nat) := by omega
        have g2 : decide ((n : Int) ≤ (a1 : Nat)) = false := by simp; omega
        obtain ⟨ah, hah⟩ : ∃ y, aheadP (b4, b5) (a1, a3) = y := ⟨_, rfl⟩
        have HX : Hid (∀ W', Calls Tryd.prog 13 #[.agg #[.int .i64 (b4 : Nat), .int .i64 (b5 : Nat)], .agg #[.int .i64 (a1 : Nat), .int .i64 (a3 : Nat)]] W' fun e w' => e = .returned (.bool ah) ∧ Below W'.heap.size W' w') := by
          intro W'
          have := HAH.out (b4) (b5) (a1) (a3) W'
          rw [hah] at this
          exact this
        cases ah with
        | true =>
          have HRS0 : br = none := by rw [HBX.out, if_pos (.inr hah)]
          have HRS1 := Lib.hid HRS0
          clear hah HRS0
          have HRS : Hid (br = none) := by
            show _ = _
            exact HRS1.out
          obtain ⟨y0, y1, yf0, yf1⟩ := HA8.out.r1
          obtain ⟨z0, z1, zf0, zf1⟩ := HA8.out.r2
          go_wp2_with (go_at_call 13; refine (HX.out _).mono ?_; rintro e w9 ⟨rfl, hb9⟩; have HA9 := Lib.hid (HA8.out.below hb9); obtain ⟨y0, y1, yf0, yf1⟩ := HA9.out.r1; obtain ⟨z0, z1, zf0, zf1⟩ := HA9.out.r2; obtain ⟨s0, s1, sf0, sf1⟩ := HA9.out.pa; obtain ⟨t0, t1, tf0, tf1⟩ := HA9.out.pb)
          refine bodyPost_ret (v := .tuple #[.agg #[.int .i64 0, .int .i64 0], .agg #[.int .i64 0, .int .i64 0], .bool false]) ?_ rfl ⟨by rw [HRS.out]; rfl, ?_⟩
          · rw [results_cct rfl]
            go_simp
          · have h2 := HA9.out.1
            (repeat' (first | exact h2 | omega | with_reducible refine Below.drew ?_ | with_reducible refine setCell_below ?_ _ _ _ ?_))
        | false =>
          have HRS : Hid (br = some ((a1, a3), (b4, b5))) := by
            show _ = _
            rw [HBX.out, if_neg (fun hh => hh.elim hge (by rw [hah]; simp))]
          clear hah
          go_wp2_with (go_at_call 13; refine (HX.out _).mono ?_; rintro e w9 ⟨rfl, hb9⟩; have HA9 := Lib.hid (HA8.out.below hb9); obtain ⟨y0, y1, yf0, yf1⟩ := HA9.out.r1; obtain ⟨z0, z1, zf0, zf1⟩ := HA9.out.r2; obtain ⟨s0, s1, sf0, sf1⟩ := HA9.out.pa; obtain ⟨t0, t1, tf0, tf1⟩ := HA9.out.pb)
          go_region
          all_goals
            go_wp2_with fail
            refine bodyPost_ret (v := .tuple #[.agg #[.int .i64 (a1 : Nat), .int .i64 (a3 : Nat)], .agg #[.int .i64 (b4 : Nat), .int .i64 (b5 : Nat)], .bool true]) ?_ rfl ⟨by rw [HRS.out]; rfl, ?_⟩
            · rw [results_cct rfl]
              go_simp
            · have h2 := HA9.out.1
              (repeat' (first | exact h2 | omega | with_reducible refine Below.drew ?_ | with_reducible refine setCell_below ?_ _ _ _ ?_))
    · obtain ⟨b3, hb3⟩ : ∃ x, b2 - 1 = x := ⟨_, rfl⟩
      have e6 : (b2 : Int) - 1 = (b3 : Int) := by omega
      have f1 : ¬ (b3 : Int) < 0 := by omega
      have f2 : decide ((b3 : Int) < 0) = false := by simp
      have f5 : IntKind.i64.wrap (b3 : Int) = (b3 : Int) := by
        obtain ⟨_, _, _, _, _, _, hlb⟩ := HLN.out b1 w6 (by omega) HA6.out.1
        have := HB2.out
        rw [IntKind.wrap_i64]; omega
      have HBE : Hid (¬ (b2 = 0 ∧ b1 = 0) ∧ ¬ b2 = 0 ∧ b2 - 1 = b3) := ⟨fun hh => hB hh.1, hB, hb3⟩
      clear hB hb3
      go_upto_region 8 with fail
      obtain ⟨w7, hw7⟩ : ∃ x, w6.setCell ⟨S + 1, 1, none⟩ (.int .i64 (b3 : Nat)) = x := ⟨_, rfl⟩
      have HA7 : Hid (BrS w S (a1 : Nat) (a3 : Nat) (b1 : Nat) (b3 : Nat) w7) := by rw [← hw7]; exact HA6.out.setB _
      rw [hw7]
      clear hw7 t0 t1 tf0 tf1
      have HBX : Hid (br = if n ≤ a1 ∨ aheadP (b1, b3) (a1, a3) = true then none else some ((a1, a3), (b1, b3))) := by
        have hh := HBR.out
        rw [if_neg HBE.out.1] at hh
        simp only [if_neg HA0.out, if_neg HBE.out.2.1, HBE.out.2.2] at hh
        rw [HA3.out] at hh
        exact hh
      obtain ⟨s0, s1, sf0, sf1⟩ := HA7.out.pa
      obtain ⟨t0, t1, tf0, tf1⟩ := HA7.out.pb
      have hge : ¬ n ≤ a1 := by omega
      have g1 : ¬ (n : Int) ≤ (a1 : Nat) := by omega
      have g2 : decide ((n : Int) ≤ (a1 : Nat)) = false := by simp; omega
      obtain ⟨ah, hah⟩ : ∃ y, aheadP (b1, b3) (a1, a3) = y := ⟨_, rfl⟩
      have HX : Hid (∀ W', Calls Tryd.prog 13 #[.agg #[.int .i64 (b1 : Nat), .int .i64 (b3 : Nat)], .agg #[.int .i64 (a1 : Nat), .int .i64 (a3 : Nat)]] W' fun e w' => e = .returned (.bool ah) ∧ Below W'.heap.size W' w') := by
        intro W'
        have := HAH.out (b1) (b3) (a1) (a3) W'
        rw [hah] at this
        exact this
      cases ah with
      | true =>
        have HRS0 : br = none := by rw [HBX.out, if_pos (.inr hah)]
        have HRS1 := Lib.hid HRS0
        clear hah HRS0
        have HRS : Hid (br = none) := by
          show _ = _
          exact HRS1.out
        obtain ⟨y0, y1, yf0, yf1⟩ := HA7.out.r1
        obtain ⟨z0, z1, zf0, zf1⟩ := HA7.out.r2
        go_wp2_with (go_at_call 13; refine (HX.out _).mono ?_; rintro e w9 ⟨rfl, hb9⟩; have HA9 := Lib.hid (HA7.out.below hb9); obtain ⟨y0, y1, yf0, yf1⟩ := HA9.out.r1; obtain ⟨z0, z1, zf0, zf1⟩ := HA9.out.r2; obtain ⟨s0, s1, sf0, sf1⟩ := HA9.out.pa; obtain ⟨t0, t1, tf0, tf1⟩ := HA9.out.pb)
        refine bodyPost_ret (v := .tuple #[.agg #[.int .i64 0, .int .i64 0], .agg #[.int .i64 0, .int .i64 0], .bool false]) ?_ rfl ⟨by rw [HRS.out]; rfl, ?_⟩
        · rw [results_cct rfl]
          go_simp
        · have h2 := HA9.out.1
          (repeat' (first | exact h2 | omega | with_reducible refine Below.drew ?_ | with_reducible refine setCell_below ?_ _ _ _ ?_))
      | false =>
        have HRS : Hid (br = some ((a1, a3), (b1, b3))) := by
          show _ = _
          rw [HBX.out, if_neg (fun hh => hh.elim hge (by rw [hah]; simp))]
        clear hah
        go_wp2_with (go_at_call 13; refine (HX.out _).mono ?_; rintro e w9 ⟨rfl, hb9⟩; have HA9 := Lib.hid (HA7.out.below hb9); obtain ⟨y0, y1, yf0, yf1⟩ := HA9.out.r1; obtain ⟨z0, z1, zf0, zf1⟩ := HA9.out.r2; obtain ⟨s0, s1, sf0, sf1⟩ := HA9.out.pa; obtain ⟨t0, t1, tf0, tf1⟩ := HA9.out.pb)
        go_region
        all_goals
          go_wp2_with fail
          refine bodyPost_ret (v := .tuple #[.agg #[.int .i64 (a1 : Nat), .int .i64 (a3 : Nat)], .agg #[.int .i64 (b1 : Nat), .int .i64 (b3 : Nat)], .bool true]) ?_ rfl ⟨by rw [HRS.out]; rfl, ?_⟩
          · rw [results_cct rfl]
            go_simp
          · have h2 := HA9.out.1
            (repeat' (first | exact h2 | omega | with_reducible refine Below.drew ?_ | with_reducible refine setCell_below ?_ _ _ _ ?_))
end Go.Proofs.YthlhgkeodaifcaaDoor.U
