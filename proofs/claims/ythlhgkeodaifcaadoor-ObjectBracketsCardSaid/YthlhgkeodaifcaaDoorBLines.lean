/-
  The walk of ObjectLines, over the program's Find (FindC: a premise).
-/
import Derived.Test.YthlhgkeodaifcaaDoorBAwake
namespace Go.Proofs.YthlhgkeodaifcaaDoor.U
open Go.RowKit
set_option linter.unusedVariables false
set_option linter.unusedSimpArgs false
set_option maxRecDepth 100000

theorem lone (w : World) (o1 : Obj) : ∃ w1, w.alloc o1 = w1 ∧ w1.heap.size = w.heap.size + 1 ∧ w1.heap[w.heap.size]? = some o1 ∧ Below w.heap.size w w1 :=
  ⟨_, rfl, by simp, heap_alloc_new w o1, bal w o1⟩
theorem ltwo (w : World) (o1 o2 : Obj) : ∃ w1, (w.alloc o1).alloc o2 = w1 ∧ w1.heap.size = w.heap.size + 2 ∧ w1.heap[w.heap.size]? = some o1 ∧ w1.heap[w.heap.size + 1]? = some o2 ∧ Below w.heap.size w w1 := by
  have n1 := heap_alloc_new w o1
  have n2 := heap_alloc_new (w.alloc o1) o2
  simp only [World.size_alloc] at n2
  exact ⟨_, rfl, by simp, (Below.heap_alloc _ _ _ (by first | (simp; done) | (simp; omega))).trans n1, n2, ((Below.refl _ w).alloc (Nat.le_refl _) _).alloc (by simp) _⟩
theorem fdR_p {L : List (List Int)} {p : Pl} (hL : L ≠ []) : fdR L p 112 false = (((blockC L p.1).1, 0), ((blockC L p.1).2, 0), 1, true) := by
  unfold fdR
  rw [if_neg hL]
  have : fdP L p 112 false = some (((blockC L p.1).1, 0), ((blockC L p.1).2, 0), 1) := rfl
  rw [this]
/-- a line's length, is it 0, as the walk has it -/
theorem emp_b (L : List (List Int)) (k : Nat) : (((lnL L k).length : Int) == 0) = (empL L k == 1) := by
  unfold empL
  by_cases h : (lnL L k).length = 0
  · rw [if_pos h]; simp [h]
  · rw [if_neg h]; simp [h]
set_option maxHeartbeats 4000000 in
theorem objectLines_wideM (HM : FindC 9) (a : Option Addr) (n c : Nat) (L : List (List Int)) (q : Po) (W : World) (h : RdL (fun k => k < W.heap.size) W a n c L) (hq : i64p q) (hw : WideL L) (hg : Gl W) :
    Calls Tryd.prog 7 #[.slice a n c, q.v] W fun e w' => e = .returned (.bool true) ∧ Below W.heap.size W w' := by
  obtain ⟨u, v⟩ := q
  show Calls Tryd.prog _ #[.slice a n c, .agg #[.int .i64 u, .int .i64 v]] W _
  have hl := h.len
  have hsm0 := h.small
  obtain ⟨w1, hw1, hsz1, g1, hb1⟩ := lone W (.cells #[.int .i64 u, .int .i64 v] 24)
  have h1 := h.below hb1
  have HSM : Hid (Calls Tryd.prog 8 #[.slice a n c] w1 fun e w' => e = .returned (.bool (smallO L)) ∧ Below w1.heap.size w1 w') := smallO_any _ a n c L w1 h1 hw
  have HAW : Hid (∀ w' : World, Below W.heap.size W w' → Calls Tryd.prog 11 #[] w' fun e w2 => e = .returned (.bool true) ∧ Below w'.heap.size w' w2) := fun w' hb => awake_any HM w' (hg.up hb)
  have HGW := Lib.hid hg
  clear hg
  obtain ⟨x0, x1, xf0, xf1⟩ := row2 g1
  have HW1 := Lib.hid hw1
  have HB1 := Lib.hid hb1
  have G1 := Lib.hid g1
  obtain ⟨sm, hsm⟩ : ∃ sm, smallO L = sm := ⟨_, rfl⟩
  rw [hsm] at HSM
  cases sm with
  | false =>
    clear h h1 hw1 hb1 g1 hsm hl
    go_enter Tryd.func7, Tryd.ntmps7
    go_upto_region 1 with fail
    rw [HW1.out]
    go_wp2_with (first
      | (go_at_call 8; refine HSM.out.mono ?_; rintro e w2 ⟨rfl, hb2⟩)
      | (go_at_call 11; refine (HAW.out _ (btr HB1.out hb2)).mono ?_; rintro e w3 ⟨rfl, hb3⟩))
    go_ret
    exact ⟨rfl, btr HB1.out (btr hb2 hb3)⟩
  | true =>
    by_cases hn0 : n = 0
    · have e0 : ((n : Int) == 0) = true := by simp; omega
      clear h h1 hw1 hb1 g1 hsm hl hn0
      go_enter Tryd.func7, Tryd.ntmps7
      go_upto_region 1 with fail
      rw [HW1.out]
      go_wp2_with (first
        | (go_at_call 8; refine HSM.out.mono ?_; rintro e w2 ⟨rfl, hb2⟩)
        | (go_at_call 11; refine (HAW.out _ (btr HB1.out hb2)).mono ?_; rintro e w3 ⟨rfl, hb3⟩))
      go_ret
      exact ⟨rfl, btr HB1.out (btr hb2 hb3)⟩
    have e0 : ((n : Int) == 0) = false := by simp; omega
    have hL : L ≠ [] := by rintro rfl; simp at hl; omega
    have hz := smallO_size hsm
    have hok := clipP_ok hL u v
    obtain ⟨⟨c1, c2⟩, hcp⟩ : ∃ p, clipP L u v = p := ⟨_, rfl⟩
    rw [hcp] at hok
    have HCL : Hid (∀ W', Below w1.heap.size w1 W' → Calls Tryd.prog 12 #[.slice a n c, .agg #[.int .i64 u, .int .i64 v]] W' fun e w' => e = .returned (.agg #[.int .i64 (c1 : Nat), .int .i64 (c2 : Nat)]) ∧ Below W'.heap.size W' w') := by
      intro W' hb
      have := rclip_any _ a n c L ⟨u, v⟩ W' (h1.below hb) hq
      simp only [hcp] at this
      exact this
    have hc1 : c1 < L.length := hok.1
    have hc2 := hok.2
    simp only at hc2
    obtain ⟨k1, k2, k3, k4, k5, k6⟩ := block_props hc1
    have hfd := fdR_p (p := (c1, c2)) hL
    simp only at hfd
    obtain ⟨⟨b1, b2⟩, hbb⟩ : ∃ y, blockC L c1 = y := ⟨_, rfl⟩
    rw [hbb] at hfd k1 k2 k3 k4 k5 k6
    simp only at hfd k1 k2 k3 k4 k5 k6
    have hc2b : (c2 : Int) ≤ 9223372036854775807 := by
      have h3 : (lnL L c1).length ≤ sizeN (lens L) := by
        unfold lnL
        rw [List.getD_eq_getElem?_getD, List.getElem?_eq_getElem hc1]
        refine sizeN_mem ?_
        unfold lens
        exact List.mem_map.2 ⟨_, List.getElem_mem hc1, rfl⟩
      omega
    have HFI : Hid (∀ W', Below W.heap.size W W' → Calls Tryd.prog 9 #[.slice a n c, .agg #[.int .i64 (c1 : Nat), .int .i64 (c2 : Nat)], .int .i32 112, .bool false] W' fun e w' => e = .returned (.tuple #[.agg #[.int .i64 (b1 : Nat), .int .i64 0], .agg #[.int .i64 (b2 : Nat), .int .i64 0], .int .i64 1, .bool true]) ∧ Below W'.heap.size W' w') := by
      intro W' hb
      have := HM _ a n c L ⟨(c1 : Nat), (c2 : Nat)⟩ 112 false W' (HGW.out.up hb) (h.below hb) ⟨⟨by show _ ≤ (c1 : Int); omega, by show (c1 : Int) ≤ _; omega⟩, by show _ ≤ (c2 : Int); omega, hc2b⟩ ⟨by decide, by decide⟩ hz
      simp only [clipP_id hok, hfd] at this
      exact this
    have H0 := Lib.hid h
    have HL := Lib.hid hl
    obtain ⟨eb, heb⟩ : ∃ eb, (empL L c1 == 1) = eb := ⟨_, rfl⟩
    have HE4 : Hid (∀ k, b1 ≤ k → k ≤ b2 → (empL L k == 1) = eb) := by
      intro k h2 h3
      rw [k4 k h2 h3]; exact heb
    have hne : ∀ k, empL L k ≠ empL L c1 → (empL L k == 1) = !eb := by
      intro k hk
      rw [← heb]
      unfold empL at hk ⊢
      by_cases g1 : (lnL L k).length = 0 <;> by_cases g2 : (lnL L c1).length = 0 <;> simp [g1, g2] at hk ⊢
    have HE5 : Hid (b1 = 0 ∨ (empL L (b1 - 1) == 1) = !eb) := k5.imp id (hne _)
    have HE6 : Hid (b2 + 1 = n ∨ (empL L (b2 + 1) == 1) = !eb) := by
      rw [hl] at k6
      exact k6.imp id (hne _)
    have hb2n : b2 < n := by omega
    have hb1c : b1 ≤ c1 := k1
    have hcb2 : c1 ≤ b2 := k2
    clear h h1 hw1 hb1 g1 hsm hl hz hok hcp hq hfd hbb k1 k2 k3 k4 k5 k6 heb hne hc1 hc2 hc2b
    go_enter Tryd.func7, Tryd.ntmps7
    go_upto_region 1 with fail
    rw [HW1.out]
    go_upto_region 4 with (first
      | (go_at_call 8; refine HSM.out.mono ?_; rintro e w2 ⟨rfl, hb2⟩; obtain ⟨x0, x1, xf0, xf1⟩ := row2 ((hb2.block _ (Array.getElem?_eq_some_iff.1 G1.out).1).trans G1.out))
      | (go_at_call 12; refine (HCL.out _ hb2).mono ?_; rintro e w3 ⟨rfl, hb3⟩; have hb13 := btr hb2 hb3; obtain ⟨x0, x1, xf0, xf1⟩ := row2 ((hb13.block _ (Array.getElem?_eq_some_iff.1 G1.out).1).trans G1.out)))
    obtain ⟨w4, hw4⟩ : ∃ w4, (w3.setCell ⟨W.heap.size, 0, none⟩ (.int .i64 (c1 : Nat))).setCell ⟨W.heap.size, 1, none⟩ (.int .i64 (c2 : Nat)) = w4 := ⟨_, rfl⟩
    have hat4 : At w4 W.heap.size (c1, c2) := by rw [← hw4]; exact heap_set (heap_set ((hb13.block _ (Array.getElem?_eq_some_iff.1 G1.out).1).trans G1.out) 0 _) 1 _
    have hB4 : Below W.heap.size W w4 := by rw [← hw4]; exact setCell_below (setCell_below (btr HB1.out hb13) _ _ _ (Nat.le_refl _)) _ _ _ (Nat.le_refl _)
    have hrest : ∀ (F : Nat → Prop), True := fun _ => trivial
    rw [hw4]
    have HFR : Hid (Below W.heap.size W w4) := hB4
    have H14 : Hid (∀ (i : Nat) (W' : World), i < n → Below w4.heap.size w4 W' → ∃ b off ra rc, a = some ⟨b, off, none⟩ ∧ W'.cell? ⟨b, off + i, none⟩ = some (.slice ra (lnL L i).length rc) ∧ (((lnL L i).length : Int) == 0) = (empL L i == 1)) := by
      intro i W' hi hb
      obtain ⟨b, off, ra, rc, e1, _, e3, e4, e5⟩ := okP.line (p := (i, 0)) H0.out ⟨by simp only; have := HL.out; omega, by simp⟩ (btr hB4 hb)
      exact ⟨b, off, ra, rc, e1, e4, emp_b L i⟩
    have HFI4 : Hid (∀ W', Below w4.heap.size w4 W' → Calls Tryd.prog 9 #[.slice a n c, .agg #[.int .i64 (c1 : Nat), .int .i64 (c2 : Nat)], .int .i32 112, .bool false] W' fun e w' => e = .returned (.tuple #[.agg #[.int .i64 (b1 : Nat), .int .i64 0], .agg #[.int .i64 (b2 : Nat), .int .i64 0], .int .i64 1, .bool true]) ∧ Below W'.heap.size W' w') := fun W' hb => HFI.out W' (btr hB4 hb)
    obtain ⟨x0, x1, xf0, xf1⟩ := row2 hat4
    simp only at x0 x1
    have HAT := Lib.hid hat4
    clear hw4 hat4 hB4 hrest hb2 hb3 hb13
    go_upto_region 5 with (go_at_call 9; refine (HFI4.out _ (Below.refl _ _)).mono ?_; rintro e w5 ⟨rfl, hb5⟩)
    obtain ⟨w6, hw6, hsz6, g5, g6, hb6⟩ := ltwo w5 (.cells #[.int .i64 (b1 : Nat), .int .i64 0] 24) (.cells #[.int .i64 (b2 : Nat), .int .i64 0] 24)
    rw [hw6]
    have hb46 := btr hb5 hb6
    have HAT6 := HAT.out.keep (hb46.block _ HAT.out.lt)
    obtain ⟨x0, x1, xf0, xf1⟩ := row2 HAT6
    obtain ⟨y0, y1, -, -⟩ := row2 g5
    obtain ⟨z0, z1, -, -⟩ := row2 g6
    simp only at x0 x1
    have HB6 : Hid (Below W.heap.size W w6) := btr HFR.out hb46
    have HLW := Lib.hid (fun (i : Nat) (hi : i < n) => H14.out i w6 hi hb46)
    obtain ⟨S5, hS5⟩ : ∃ S, w5.heap.size = S := ⟨_, rfl⟩
    rw [hS5] at y0 y1 z0 z1
    rw [hS5]
    clear hw6 hsz6 g5 g6 hb6 hb5 hb46 HAT6 hS5
    have d1 : ¬ (b1 : Int) < 0 := by omega
    have d2 : decide ((b1 : Int) < 0) = false := by simp
    have d3 : ¬ (c1 : Int) < (b1 : Int) := by omega
    have d4 : decide ((c1 : Int) < (b1 : Int)) = false := by simp; omega
    have d5 : decide (c1 < b1) = false := by simp; omega
    have d6 : ¬ (b2 : Int) < (c1 : Int) := by omega
    have d7 : decide ((b2 : Int) < (c1 : Int)) = false := by simp; omega
    have d8 : decide (b2 < c1) = false := by simp; omega
    have d9 : ¬ (n : Int) ≤ (b2 : Int) := by omega
    have dA : decide ((n : Int) ≤ (b2 : Int)) = false := by simp; omega
    have dB : decide (n ≤ b2) = false := by simp; omega
    have dC : ¬ (c1 : Int) < 0 := by omega
    have dD : decide ((c1 : Int) < 0) = false := by simp
    obtain ⟨b, off, ra, rc, rfl, l0, l1⟩ := HLW.out c1 (by omega)
    rw [HE4.out c1 hb1c hcb2] at l1
    have nb : (!eb != eb) = true := by cases eb <;> rfl
    have nb2 : (eb != eb) = false := by cases eb <;> rfl
    go_wp2_with fail
    go_loopw [10] (fun v10 wr => ∃ i : Nat, v10 = .int .i64 (i : Nat) ∧ b1 ≤ i ∧ i ≤ b2 + 1 ∧ wr = w6) (fun v10 _ => b2 + 1 - (intOf v10).toNat)
    case atStart => exact ⟨b1, rfl, Nat.le_refl _, by omega, rfl⟩
    case round =>
      obtain ⟨i, rfl, hi1, hi2, rfl⟩ := hrel
      by_cases hi : i ≤ b2
      · obtain ⟨b', off', ra1, rc1, he1, m0, m1⟩ := HLW.out i (by omega)
        cases he1
        rw [HE4.out i hi1 hi] at m1
        have p0 : (i : Int) ≤ (b2 : Int) := by omega
        have p1 : decide ((i : Int) ≤ (b2 : Int)) = true := by simp; omega
        have p2 : decide (i ≤ b2) = true := by simp; omega
        have p3 : ¬ (i : Int) < 0 := by omega
        have p4 : decide ((i : Int) < 0) = false := by simp
        have p5 : i < n := by omega
        go_wp2_with fail
        go_roundw
        case rel => exact ⟨i + 1, by go_num, by omega, by omega, by first | rfl | trivial⟩
        case measure => simp [intOf]; omega
      · have q0 : ¬ (i : Int) ≤ (b2 : Int) := by omega
        have q1 : decide ((i : Int) ≤ (b2 : Int)) = false := by simp; omega
        have q2 : decide (i ≤ b2) = false := by simp; omega
        clear hi1 hi2
        by_cases hlo : b1 = 0 <;> by_cases hhi : b2 + 1 = n
        · have p0 : ((b1 : Int) == 0) = true := by simp [hlo]
          have r1 : (b2 : Int) = (n : Int) - 1 := by omega
          have r0 : ((b2 : Int) == (n : Int) - 1) = true := by simp [r1]
          obtain ⟨n1, hn1⟩ : ∃ n1, n - 1 = n1 := ⟨_, rfl⟩
          have r2 : (n : Int) - 1 = (n1 : Int) := by omega
          have r3 : ((b2 : Int) == (n1 : Int)) = true := by simp; omega
          have hw0 : IntKind.i64.wrap (n1 : Int) = (n1 : Int) := by rw [IntKind.wrap_i64]; omega
          clear hn1 hhi r1 r0 hlo hi
          go_wp2_with (go_at_call 11; refine (HAW.out _ HB6.out).mono ?_; rintro e w9 ⟨rfl, hb9⟩)
          go_ret
          exact ⟨rfl, btr HB6.out hb9⟩
        · have p0 : ((b1 : Int) == 0) = true := by simp [hlo]
          have r5 : (empL L (b2 + 1) == 1) = !eb := (HE6.out).resolve_left hhi
          obtain ⟨n1, hn1⟩ : ∃ n1, n - 1 = n1 := ⟨_, rfl⟩
          have r2 : (n : Int) - 1 = (n1 : Int) := by omega
          have r3 : ((b2 : Int) == (n1 : Int)) = false := by simp; omega
          obtain ⟨f, hf⟩ : ∃ f, b2 + 1 = f := ⟨_, rfl⟩
          obtain ⟨b', off', ra2, rc2, he2, m2, m3⟩ := HLW.out f (by omega)
          cases he2
          rw [hf] at r5
          rw [r5] at m3
          have r6 : (b2 : Int) + 1 = (f : Int) := by omega
          have r7 : ¬ (f : Int) < 0 := by omega
          have r8 : decide ((f : Int) < 0) = false := by simp
          have r9 : f < n := by omega
          have rA : IntKind.i64.wrap (f : Int) = (f : Int) := by rw [IntKind.wrap_i64]; omega
          have hw0 : IntKind.i64.wrap (n1 : Int) = (n1 : Int) := by rw [IntKind.wrap_i64]; omega
          clear hn1 hf hhi hlo hi
          go_wp2_with (go_at_call 11; refine (HAW.out _ HB6.out).mono ?_; rintro e w9 ⟨rfl, hb9⟩)
          go_ret
          exact ⟨rfl, btr HB6.out hb9⟩
        · have p0 : ((b1 : Int) == 0) = false := by simp [hlo]
          have p1 : (empL L (b1 - 1) == 1) = !eb := (HE5.out).resolve_left hlo
          obtain ⟨d, hd⟩ : ∃ d, b1 - 1 = d := ⟨_, rfl⟩
          obtain ⟨b', off', ra1, rc1, he1, m0, m1⟩ := HLW.out d (by omega)
          cases he1
          rw [hd] at p1
          rw [p1] at m1
          have p2 : (b1 : Int) - 1 = (d : Int) := by omega
          have p3 : ¬ (d : Int) < 0 := by omega
          have p4 : decide ((d : Int) < 0) = false := by simp
          have p5 : d < n := by omega
          have p6 : IntKind.i64.wrap (d : Int) = (d : Int) := by rw [IntKind.wrap_i64]; omega
          have r1 : (b2 : Int) = (n : Int) - 1 := by omega
          have r0 : ((b2 : Int) == (n : Int) - 1) = true := by simp [r1]
          obtain ⟨n1, hn1⟩ : ∃ n1, n - 1 = n1 := ⟨_, rfl⟩
          have r2 : (n : Int) - 1 = (n1 : Int) := by omega
          have r3 : ((b2 : Int) == (n1 : Int)) = true := by simp; omega
          have hw0 : IntKind.i64.wrap (n1 : Int) = (n1 : Int) := by rw [IntKind.wrap_i64]; omega
          clear hd hn1 hhi r1 r0 hlo hi
          go_wp2_with (go_at_call 11; refine (HAW.out _ HB6.out).mono ?_; rintro e w9 ⟨rfl, hb9⟩)
          go_ret
          exact ⟨rfl, btr HB6.out hb9⟩
        · have p0 : ((b1 : Int) == 0) = false := by simp [hlo]
          have p1 : (empL L (b1 - 1) == 1) = !eb := (HE5.out).resolve_left hlo
          obtain ⟨d, hd⟩ : ∃ d, b1 - 1 = d := ⟨_, rfl⟩
          obtain ⟨b', off', ra1, rc1, he1, m0, m1⟩ := HLW.out d (by omega)
          cases he1
          rw [hd] at p1
          rw [p1] at m1
          have p2 : (b1 : Int) - 1 = (d : Int) := by omega
          have p3 : ¬ (d : Int) < 0 := by omega
          have p4 : decide ((d : Int) < 0) = false := by simp
          have p5 : d < n := by omega
          have p6 : IntKind.i64.wrap (d : Int) = (d : Int) := by rw [IntKind.wrap_i64]; omega
          have r5 : (empL L (b2 + 1) == 1) = !eb := (HE6.out).resolve_left hhi
          obtain ⟨n1, hn1⟩ : ∃ n1, n - 1 = n1 := ⟨_, rfl⟩
          have r2 : (n : Int) - 1 = (n1 : Int) := by omega
          have r3 : ((b2 : Int) == (n1 : Int)) = false := by simp; omega
          obtain ⟨f, hf⟩ : ∃ f, b2 + 1 = f := ⟨_, rfl⟩
          obtain ⟨b', off', ra2, rc2, he2, m2, m3⟩ := HLW.out f (by omega)
          cases he2
          rw [hf] at r5
          rw [r5] at m3
          have r6 : (b2 : Int) + 1 = (f : Int) := by omega
          have r7 : ¬ (f : Int) < 0 := by omega
          have r8 : decide ((f : Int) < 0) = false := by simp
          have r9 : f < n := by omega
          have rA : IntKind.i64.wrap (f : Int) = (f : Int) := by rw [IntKind.wrap_i64]; omega
          have hw0 : IntKind.i64.wrap (n1 : Int) = (n1 : Int) := by rw [IntKind.wrap_i64]; omega
          clear hd hn1 hf hhi hlo hi
          go_wp2_with (go_at_call 11; refine (HAW.out _ HB6.out).mono ?_; rintro e w9 ⟨rfl, hb9⟩)
          go_ret
          exact ⟨rfl, btr HB6.out hb9⟩
end Go.Proofs.YthlhgkeodaifcaaDoor.U
