/-
  The program's ahead: the places ahead of p are yielded, one by one, the nearest first. (MADE by wip/tools/gen_ahei.py.)
-/
import Derived.Test.YtikdojebnbmpoaaNBehI
namespace Go.Proofs.Ytikdojebnbmpoaa.U
open Go.RowKit Go.Shelf
set_option linter.unusedVariables false
set_option linter.unusedSimpArgs false
set_option maxRecDepth 100000
attribute [local go_sem] Oper.semAt_some

set_option maxHeartbeats 1000000 in
theorem ahead_iter (nn : Nat) (F : Nat → Prop) (a : Option Addr) (n c : Nat) (L : List (List Int)) (u v : Int) (cp : Pl) (hcp : clipP L u v = cp) (Bl Bp : Nat) (w₀ w : World) (hr : RdL F w₀ a n c L) (hq : i64p ⟨u, v⟩) (hb : Below w₀.heap.size w₀ w)
    (E : Nat → Prop) (hE : ∀ k, E k → w₀.heap.size ≤ k ∧ k < w.heap.size) (hBl : w.cell? ⟨Bl, 0, none⟩ = some (.slice a n c)) (hB0 : w.cell? ⟨Bp, 0, none⟩ = some (.int .i64 u)) (hB1 : w.cell? ⟨Bp, 1, none⟩ = some (.int .i64 v)) (hEl : ¬ E Bl) (hEp : ¬ E Bp) :
    Iter Fence.wide nn Try.prog 87 #[.pointer (some ⟨Bl, 0, none⟩), .pointer (some ⟨Bp, 0, none⟩)] (fun x : Pl => #[plV x]) (befL L cp) E w := by
  intro l J Jx hJ hJ1 h0
  have hY := hJ1
  clear hJ1
  have hll := hr.len
  have hsm := hr.small
  have hnc : n ≤ c := by obtain ⟨vs, h1, _⟩ := hr; exact h1.2.1
  have hcs : c ≤ 9223372036854775807 := by obtain ⟨vs, h1, _⟩ := hr; have := h1.2.2.1; unfold maxLen at this; omega
  have hBl2 := block_lt_of_cell hBl
  have hBp2 := block_lt_of_cell hB0
  have HLC : Hid (∀ (W : World) (k : Nat), Below w₀.heap.size w₀ W → k ≤ n → Calls Try.prog 47 #[.slice a k c] W fun e w' => e = .returned (plV (lastP (L.take k))) ∧ Below W.heap.size W w') := fun W k hW hk => wlast0_any F a k c (L.take k) W ((hr.below hW).take k hk)
  have HCC : Hid (∀ W, Below w₀.heap.size w₀ W → Calls Try.prog 13 #[.slice a n c, .agg #[.int .i64 u, .int .i64 v]] W fun e w' => e = .returned (plV cp) ∧ Below W.heap.size W w') := by
    intro W hW
    have := wclip_any F a n c L ⟨u, v⟩ W (hr.below hW) hq
    simp only at this
    rw [hcp] at this
    exact this
  have hin0 := InP.clip L u v
  rw [hcp] at hin0
  have HIN := Lib.hid hin0
  have HAD : Hid (0 < n → ∃ b off, a = some ⟨b, off, none⟩) := fun hn => by obtain ⟨b, off, e, _⟩ := hr.at_ hn; exact ⟨b, off, e⟩
  have HLS := Lib.hid (fun i => lns_small hr i)
  obtain ⟨c1, c2⟩ := cp
  have HJ := Lib.hid hJ; clear hJ
  have HY := Lib.hid hY; clear hY
  have HE := Lib.hid hE; clear hE
  have HB := Lib.hid hb; clear hb
  have HL := Lib.hid hll; clear hll
  have HJ0 := Lib.hid h0; clear h0 hr hcp hq hin0
  refine callsIn_of_wp Try.func87 rfl trivial ?_ rfl
  simp only [Try.ntmps87, List.size_toArray, List.length_cons, List.length_nil, Nat.reduceAdd, Nat.reduceSub, Array.replicate_succ, Array.replicate_zero, List.push_toArray, List.append_toArray, List.nil_append, List.cons_append]
  gi_wp2
  refine ⟨trivial, (fun h => by simp [Fence.wide] at h), ?_⟩
  refine (callsIn_wide.2 (HCC.out _ HB.out)).mono ?_
  rintro e w4 ⟨rfl, hb4⟩
  unfold plV
  obtain ⟨w5, hw5⟩ : ∃ w5, w4.alloc (.cells #[.int .i64 (c1 : Nat), .int .i64 (c2 : Nat)] 24) = w5 := ⟨_, rfl⟩
  have hat5 : At w5 w4.heap.size (c1, c2) := by rw [← hw5]; exact heap_alloc_new w4 _
  have hb5 : Below w.heap.size w w5 := by rw [← hw5]; exact hb4.alloc hb4.size _
  have hBaw : w.heap.size ≤ w4.heap.size := hb4.size
  have HJ5 : Hid (J [] w5) := HJ.out _ _ _ HJ0.out hb5
  have HB5 : Hid (But w.heap.size E w w5) := But.of_below hb5
  obtain ⟨Ba, hBa⟩ : ∃ B, w4.heap.size = B := ⟨_, rfl⟩
  rw [hBa] at hat5 hBaw
  clear hb4 hb5 HCC HJ0
  gi_wp2
  gi_loopw [4] (fun v5 wr => ∃ (Ba : Nat) (p : Pl) (pre : List Pl), v5 = .pointer (some ⟨Ba, 0, none⟩) ∧ w.heap.size ≤ Ba ∧ At wr Ba p ∧ Hid (InP L p ∧ pre ++ befL L p = befL L (c1, c2)) ∧ Hid (J pre wr) ∧ Hid (But w.heap.size E w wr)) (fun v5 wr => (befL L (plOf v5 wr)).length)
  case atStart => exact ⟨Ba, (c1, c2), [], rfl, hBaw, hat5, ⟨HIN.out, rfl⟩, HJ5, HB5⟩
  case round =>
    clear hat5 hBaw HJ5 HB5 hw5 hBa
    obtain ⟨Ba, ⟨i, j⟩, pre, rfl, hBaw, hat, HP, HJP, HBW⟩ := hrel
    obtain ⟨a0, a1, z0, z1⟩ := row2 hat
    simp only at a0 a1
    have k1 := (HBW.out.cell (p := ⟨Bl, 0, none⟩) hBl2 hEl).trans hBl
    have HAT := Lib.hid hat
    clear hat
    by_cases hi : i = 0
    · subst hi
      simp only [show ((0 : Nat) : Int) = 0 from rfl] at a0
      by_cases hj : 0 < j
      · 
        have hjT : ¬ (j : Int) = 0 := by omega
        have hne : ((0, j) : Pl) ≠ (0, 0) := by intro e; cases e; omega
        obtain ⟨hstep, hok, hz⟩ := bef_step (HP.out.1.of0 hne) hne
        have hin := (places_mem.1 (HP.out.1.of0 hne))
        have hiL := hin.1
        have hjL := hin.2
        simp only at hiL hjL hz
        rw [HL.out] at hiL
        have hjs := HLS.out 0
        have hjb : (j : Int) ≤ 9223372036854775807 := by omega
        have hbw0 : Below w₀.heap.size w₀ wr := HB.out.trans (HBW.out.below HB.out.size (fun k hk e => by have := (HE.out k e).1; omega))
        have hpx : ∀ y, preP L (0, j) = y → pre ++ [y] <+: befL L (c1, c2) ∧ InP L y ∧ pre ++ [y] ++ befL L y = befL L (c1, c2) ∧ befL L (0, j) = y :: befL L y := by
          rintro y rfl
          refine ⟨⟨befL L (preP L (0, j)), ?_⟩, .inr (places_mem.2 hok), ?_, hstep⟩
          · rw [List.append_assoc, List.singleton_append, ← hstep]; exact HP.out.2
          · rw [List.append_assoc, List.singleton_append, ← hstep]; exact HP.out.2
        have hpre : preP L (0, j) = if 0 < j then (0, j - 1) else (0 - 1, (lnL L (0 - 1)).length - 1) := rfl
        have hBaS := HAT.out.lt
        rw [if_pos hj] at hpre
        have HPX := Lib.hid (hpx _ hpre)
        obtain ⟨j1, hj1⟩ : ∃ j1, j - 1 = j1 := ⟨_, rfl⟩
        rw [hj1] at HPX
        have s1 : (j : Int) - 1 = (j1 : Int) := by omega
        have g0 : (0 : Int) < (j : Int) := by omega
        have g1 : decide ((0 : Int) < (j : Int)) = true := by simp; omega
        have g2 : decide (0 < j) = true := by simp; omega
        obtain ⟨W5, hW5⟩ : ∃ W5, wr.setCell ⟨Ba, 1, none⟩ (.int .i64 (j1 : Nat)) = W5 := ⟨_, rfl⟩
        have hbw5 : Below w.heap.size wr W5 := by rw [← hW5]; exact setCell_below (Below.refl _ _) _ _ _ hBaw
        have HA6 : Hid (At W5 Ba (0, j1)) := by
          show At _ _ _
          rw [← hW5]; exact heap_set HAT.out 1 _
        obtain ⟨b0, b1, x0, x1⟩ := row2 HA6.out
        simp only at b0 b1
        simp only [show ((0 : Nat) : Int) = 0 from rfl] at b0
        have HWW := Lib.hid hW5
        clear hne hstep hok hin hbw0 hpx hpre hj1 hz hjs
        obtain ⟨fn, tmps, assign, body, hy, hR⟩ := HY.out pre (0, j1) (W5) (Nat.le_trans HBW.out.size hbw5.size) (HJ.out _ _ _ HJP.out hbw5) HPX.out.1
        unfold plV at hy
        simp only at hy
        simp only [show ((0 : Nat) : Int) = 0 from rfl] at hy
        have HRR := Lib.hid hR
        have HB5 := Lib.hid hbw5
        clear hR hbw5
        gi_wp2_with fail
        refine ⟨(fun h => by simp [Fence.wide] at h), ?_⟩
        try rw [HWW.out]
        refine HRR.out.mono ?_
        rintro e W3 (⟨rfl, hj3, hb3⟩ | ⟨rfl, hjx3⟩)
        · have hat3 : At W3 Ba (0, j1) := HA6.out.keep (hb3.block _ HA6.out.lt (fun e => by have := (HE.out _ e).2; omega))
          obtain ⟨d0, d1, -, -⟩ := row2 hat3
          simp only at d0 d1
          obtain ⟨W7, hW7⟩ : ∃ W7, W3.alloc (.cells #[.int .i64 (0 : Nat), .int .i64 (j1 : Nat)] 24) = W7 := ⟨_, rfl⟩
          have hat7 : At W7 W3.heap.size (0, j1) := by rw [← hW7]; exact heap_alloc_new W3 _
          have hb37 : Below W3.heap.size W3 W7 := by rw [← hW7]; exact bal _ _
          have hws3 : w.heap.size ≤ W3.heap.size := Nat.le_trans HBW.out.size (Nat.le_trans HB5.out.size hb3.size)
          have HJ7 : Hid (J (pre ++ [(0, j1)]) W7) := HJ.out _ _ _ hj3 (hb37.mono hws3)
          have HB7 : Hid (But w.heap.size E w W7) := (HBW.out.trans (But.of_below HB5.out)).trans ((hb3.mono (Nat.le_trans HBW.out.size HB5.out.size) (fun _ _ h => h)).trans (But.of_below (hb37.mono hws3)))
          have HA7 := Lib.hid hat7
          have HWS := Lib.hid hws3
          have HM : Hid ((befL L (0, j1)).length < (befL L (plOf (.pointer (some ⟨Ba, 0, none⟩)) wr)).length) := by
            have h := HPX.out.2.2.2
            rw [HAT.out.of]
            show _ < (befL L (0, j)).length
            rw [h]; simp
          clear hat3 hat7 hb37 hj3 hb3 hws3
          simp only [show ((0 : Nat) : Int) = 0 from rfl] at d0 hW7
          have HW7 := Lib.hid hW7
          clear hW7
          gi_wp2_with fail
          rw [HW7.out]
          go_roundw
          case rel => exact ⟨W3.heap.size, (0, j1), pre ++ [(0, j1)], rfl, HWS.out, HA7.out, ⟨HPX.out.2.1, HPX.out.2.2.1⟩, HJ7, HB7⟩
          case measure =>
            refine Nat.lt_of_le_of_lt (Nat.le_of_eq ?_) HM.out
            rw [← HA7.out.of]
        · gi_wp2_with fail
          refine bodyPost_ret (results_none rfl _ _ _) rfl ?_
          exact ⟨⟨_, rfl⟩, .inr ⟨_, HPX.out.1, hjx3⟩⟩
      · obtain rfl : j = 0 := by omega
        simp only [show ((0 : Nat) : Int) = 0 from rfl] at a1
        have HD : Hid (J (befL L (c1, c2)) wr) := by
          have e := HP.out.2
          rw [bef_first, List.append_nil] at e
          rw [← e]
          exact HJP.out
        clear HJP hj
        gi_wp2
        go_end0
        exact ⟨⟨_, rfl⟩, .inl HD.out⟩
    · have hiT : ¬ (i : Int) = 0 := by omega
      by_cases hj : 0 < j
      · 
        have hjT : ¬ (j : Int) = 0 := by omega
        have hne : ((i, j) : Pl) ≠ (0, 0) := by intro e; cases e; omega
        obtain ⟨hstep, hok, hz⟩ := bef_step (HP.out.1.of0 hne) hne
        have hin := (places_mem.1 (HP.out.1.of0 hne))
        have hiL := hin.1
        have hjL := hin.2
        simp only at hiL hjL hz
        rw [HL.out] at hiL
        have hjs := HLS.out i
        have hjb : (j : Int) ≤ 9223372036854775807 := by omega
        have hbw0 : Below w₀.heap.size w₀ wr := HB.out.trans (HBW.out.below HB.out.size (fun k hk e => by have := (HE.out k e).1; omega))
        have hpx : ∀ y, preP L (i, j) = y → pre ++ [y] <+: befL L (c1, c2) ∧ InP L y ∧ pre ++ [y] ++ befL L y = befL L (c1, c2) ∧ befL L (i, j) = y :: befL L y := by
          rintro y rfl
          refine ⟨⟨befL L (preP L (i, j)), ?_⟩, .inr (places_mem.2 hok), ?_, hstep⟩
          · rw [List.append_assoc, List.singleton_append, ← hstep]; exact HP.out.2
          · rw [List.append_assoc, List.singleton_append, ← hstep]; exact HP.out.2
        have hpre : preP L (i, j) = if 0 < j then (i, j - 1) else (i - 1, (lnL L (i - 1)).length - 1) := rfl
        have hBaS := HAT.out.lt
        rw [if_pos hj] at hpre
        have HPX := Lib.hid (hpx _ hpre)
        obtain ⟨j1, hj1⟩ : ∃ j1, j - 1 = j1 := ⟨_, rfl⟩
        rw [hj1] at HPX
        have s1 : (j : Int) - 1 = (j1 : Int) := by omega
        have g0 : (0 : Int) < (j : Int) := by omega
        have g1 : decide ((0 : Int) < (j : Int)) = true := by simp; omega
        have g2 : decide (0 < j) = true := by simp; omega
        obtain ⟨W5, hW5⟩ : ∃ W5, wr.setCell ⟨Ba, 1, none⟩ (.int .i64 (j1 : Nat)) = W5 := ⟨_, rfl⟩
        have hbw5 : Below w.heap.size wr W5 := by rw [← hW5]; exact setCell_below (Below.refl _ _) _ _ _ hBaw
        have HA6 : Hid (At W5 Ba (i, j1)) := by
          show At _ _ _
          rw [← hW5]; exact heap_set HAT.out 1 _
        obtain ⟨b0, b1, x0, x1⟩ := row2 HA6.out
        simp only at b0 b1
        skip
        have HWW := Lib.hid hW5
        clear hne hstep hok hin hbw0 hpx hpre hj1 hz hjs
        obtain ⟨fn, tmps, assign, body, hy, hR⟩ := HY.out pre (i, j1) (W5) (Nat.le_trans HBW.out.size hbw5.size) (HJ.out _ _ _ HJP.out hbw5) HPX.out.1
        unfold plV at hy
        simp only at hy
        skip
        have HRR := Lib.hid hR
        have HB5 := Lib.hid hbw5
        clear hR hbw5
        gi_wp2_with fail
        refine ⟨(fun h => by simp [Fence.wide] at h), ?_⟩
        try rw [HWW.out]
        refine HRR.out.mono ?_
        rintro e W3 (⟨rfl, hj3, hb3⟩ | ⟨rfl, hjx3⟩)
        · have hat3 : At W3 Ba (i, j1) := HA6.out.keep (hb3.block _ HA6.out.lt (fun e => by have := (HE.out _ e).2; omega))
          obtain ⟨d0, d1, -, -⟩ := row2 hat3
          simp only at d0 d1
          obtain ⟨W7, hW7⟩ : ∃ W7, W3.alloc (.cells #[.int .i64 (i : Nat), .int .i64 (j1 : Nat)] 24) = W7 := ⟨_, rfl⟩
          have hat7 : At W7 W3.heap.size (i, j1) := by rw [← hW7]; exact heap_alloc_new W3 _
          have hb37 : Below W3.heap.size W3 W7 := by rw [← hW7]; exact bal _ _
          have hws3 : w.heap.size ≤ W3.heap.size := Nat.le_trans HBW.out.size (Nat.le_trans HB5.out.size hb3.size)
          have HJ7 : Hid (J (pre ++ [(i, j1)]) W7) := HJ.out _ _ _ hj3 (hb37.mono hws3)
          have HB7 : Hid (But w.heap.size E w W7) := (HBW.out.trans (But.of_below HB5.out)).trans ((hb3.mono (Nat.le_trans HBW.out.size HB5.out.size) (fun _ _ h => h)).trans (But.of_below (hb37.mono hws3)))
          have HA7 := Lib.hid hat7
          have HWS := Lib.hid hws3
          have HM : Hid ((befL L (i, j1)).length < (befL L (plOf (.pointer (some ⟨Ba, 0, none⟩)) wr)).length) := by
            have h := HPX.out.2.2.2
            rw [HAT.out.of]
            show _ < (befL L (i, j)).length
            rw [h]; simp
          clear hat3 hat7 hb37 hj3 hb3 hws3
          skip
          have HW7 := Lib.hid hW7
          clear hW7
          gi_wp2_with fail
          rw [HW7.out]
          go_roundw
          case rel => exact ⟨W3.heap.size, (i, j1), pre ++ [(i, j1)], rfl, HWS.out, HA7.out, ⟨HPX.out.2.1, HPX.out.2.2.1⟩, HJ7, HB7⟩
          case measure =>
            refine Nat.lt_of_le_of_lt (Nat.le_of_eq ?_) HM.out
            rw [← HA7.out.of]
        · gi_wp2_with fail
          refine bodyPost_ret (results_none rfl _ _ _) rfl ?_
          exact ⟨⟨_, rfl⟩, .inr ⟨_, HPX.out.1, hjx3⟩⟩
      · 
        have hjT : ¬ (0 : Int) < (j : Int) := by omega
        have hne : ((i, j) : Pl) ≠ (0, 0) := by intro e; cases e; omega
        obtain ⟨hstep, hok, hz⟩ := bef_step (HP.out.1.of0 hne) hne
        have hin := (places_mem.1 (HP.out.1.of0 hne))
        have hiL := hin.1
        have hjL := hin.2
        simp only at hiL hjL hz
        rw [HL.out] at hiL
        have hjs := HLS.out i
        have hjb : (j : Int) ≤ 9223372036854775807 := by omega
        have hbw0 : Below w₀.heap.size w₀ wr := HB.out.trans (HBW.out.below HB.out.size (fun k hk e => by have := (HE.out k e).1; omega))
        have hpx : ∀ y, preP L (i, j) = y → pre ++ [y] <+: befL L (c1, c2) ∧ InP L y ∧ pre ++ [y] ++ befL L y = befL L (c1, c2) ∧ befL L (i, j) = y :: befL L y := by
          rintro y rfl
          refine ⟨⟨befL L (preP L (i, j)), ?_⟩, .inr (places_mem.2 hok), ?_, hstep⟩
          · rw [List.append_assoc, List.singleton_append, ← hstep]; exact HP.out.2
          · rw [List.append_assoc, List.singleton_append, ← hstep]; exact HP.out.2
        have hpre : preP L (i, j) = if 0 < j then (i, j - 1) else (i - 1, (lnL L (i - 1)).length - 1) := rfl
        have hBaS := HAT.out.lt
        rw [if_neg hj] at hpre
        have hi0 : 0 < i := hz (by omega)
        have hlast := last_take (L := L) hi0 (by rw [HL.out]; omega)
        rw [← hlast] at hpre
        have HPX := Lib.hid (hpx _ hpre)
        have HLT := Lib.hid (fun W hW => HLC.out W i hW (by omega))
        obtain ⟨⟨x1, x2⟩, hx⟩ : ∃ y, lastP (L.take i) = y := ⟨_, rfl⟩
        rw [hx] at HPX HLT
        obtain ⟨b, off, rfl⟩ := HAD.out (by omega)
        have g1 : decide ((0 : Int) < (j : Int)) = false := by simp; omega
        have g2 : decide (0 < j) = false := by simp; omega
        have g3 : ¬ (0 : Int) < (j : Int) := by omega
        have g4 : i ≤ c := by omega
        have g5 : (i : Int) ≤ 9223372036854775807 := by omega
        have HB0 := Lib.hid hbw0
        clear hne hstep hok hin hbw0 hpx hpre hz hlast hx hjs
        gi_wp2_with fail
        refine ⟨trivial, (fun h => by simp [Fence.wide] at h), ?_⟩
        refine (callsIn_wide.2 (HLT.out _ HB0.out)).mono ?_
        rintro e W2 ⟨rfl, hb2⟩
        unfold plV
        have hat2 : At W2 Ba (i, j) := HAT.out.keep (hb2.block _ hBaS)
        obtain ⟨b0, b1, f0, f1⟩ := row2 hat2
        simp only at b0 b1
        obtain ⟨W5, hW5⟩ : ∃ W5, (W2.setCell ⟨Ba, 0, none⟩ (.int .i64 (x1 : Nat))).setCell ⟨Ba, 1, none⟩ (.int .i64 (x2 : Nat)) = W5 := ⟨_, rfl⟩
        have hbw5 : Below w.heap.size wr W5 := by rw [← hW5]; exact setCell_below (setCell_below (hb2.mono HBW.out.size) _ _ _ hBaw) _ _ _ hBaw
        have HA6 : Hid (At W5 Ba (x1, x2)) := by
          show At _ _ _
          rw [← hW5]; exact heap_set (heap_set hat2 0 _) 1 _
        obtain ⟨v0, v1, -, -⟩ := row2 HA6.out
        simp only at v0 v1
        have HWW := Lib.hid hW5
        clear hat2 hb2
        obtain ⟨fn, tmps, assign, body, hy, hR⟩ := HY.out pre (x1, x2) (W5) (Nat.le_trans HBW.out.size hbw5.size) (HJ.out _ _ _ HJP.out hbw5) HPX.out.1
        unfold plV at hy
        simp only at hy
        skip
        have HRR := Lib.hid hR
        have HB5 := Lib.hid hbw5
        clear hR hbw5
        gi_wp2_with fail
        refine ⟨(fun h => by simp [Fence.wide] at h), ?_⟩
        try rw [HWW.out]
        refine HRR.out.mono ?_
        rintro e W3 (⟨rfl, hj3, hb3⟩ | ⟨rfl, hjx3⟩)
        · have hat3 : At W3 Ba (x1, x2) := HA6.out.keep (hb3.block _ HA6.out.lt (fun e => by have := (HE.out _ e).2; omega))
          obtain ⟨d0, d1, -, -⟩ := row2 hat3
          simp only at d0 d1
          obtain ⟨W7, hW7⟩ : ∃ W7, W3.alloc (.cells #[.int .i64 (x1 : Nat), .int .i64 (x2 : Nat)] 24) = W7 := ⟨_, rfl⟩
          have hat7 : At W7 W3.heap.size (x1, x2) := by rw [← hW7]; exact heap_alloc_new W3 _
          have hb37 : Below W3.heap.size W3 W7 := by rw [← hW7]; exact bal _ _
          have hws3 : w.heap.size ≤ W3.heap.size := Nat.le_trans HBW.out.size (Nat.le_trans HB5.out.size hb3.size)
          have HJ7 : Hid (J (pre ++ [(x1, x2)]) W7) := HJ.out _ _ _ hj3 (hb37.mono hws3)
          have HB7 : Hid (But w.heap.size E w W7) := (HBW.out.trans (But.of_below HB5.out)).trans ((hb3.mono (Nat.le_trans HBW.out.size HB5.out.size) (fun _ _ h => h)).trans (But.of_below (hb37.mono hws3)))
          have HA7 := Lib.hid hat7
          have HWS := Lib.hid hws3
          have HM : Hid ((befL L (x1, x2)).length < (befL L (plOf (.pointer (some ⟨Ba, 0, none⟩)) wr)).length) := by
            have h := HPX.out.2.2.2
            rw [HAT.out.of]
            show _ < (befL L (i, j)).length
            rw [h]; simp
          clear hat3 hat7 hb37 hj3 hb3 hws3
          skip
          have HW7 := Lib.hid hW7
          clear hW7
          gi_wp2_with fail
          rw [HW7.out]
          go_roundw
          case rel => exact ⟨W3.heap.size, (x1, x2), pre ++ [(x1, x2)], rfl, HWS.out, HA7.out, ⟨HPX.out.2.1, HPX.out.2.2.1⟩, HJ7, HB7⟩
          case measure =>
            refine Nat.lt_of_le_of_lt (Nat.le_of_eq ?_) HM.out
            rw [← HA7.out.of]
        · gi_wp2_with fail
          refine bodyPost_ret (results_none rfl _ _ _) rfl ?_
          exact ⟨⟨_, rfl⟩, .inr ⟨_, HPX.out.1, hjx3⟩⟩
end Go.Proofs.Ytikdojebnbmpoaa.U
