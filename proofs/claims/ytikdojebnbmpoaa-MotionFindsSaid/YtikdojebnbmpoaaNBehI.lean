/-
  The program's behind: the places behind p are yielded, one by one. (MADE by wip/tools/gen_behi.py.)
-/
import Derived.Test.YtikdojebnbmpoaaNIter
namespace Go.Proofs.Ytikdojebnbmpoaa.U
open Go.RowKit Go.Shelf
set_option linter.unusedVariables false
set_option linter.unusedSimpArgs false
set_option maxRecDepth 100000
attribute [local go_sem] Oper.semAt_some

theorem btrW {a b c : World} {N : Nat} (h : Below N a b) (k : Below b.heap.size b c) (hN : N ≤ a.heap.size := by omega) : Below N a c := h.trans (k.mono (Nat.le_trans hN h.size))
set_option maxHeartbeats 1000000 in
theorem behind_iter (nn : Nat) (F : Nat → Prop) (a : Option Addr) (n c : Nat) (L : List (List Int)) (u v : Int) (cp : Pl) (hcp : clipP L u v = cp) (Bl Bp : Nat) (w₀ w : World) (hr : RdL F w₀ a n c L) (hq : i64p ⟨u, v⟩) (hb : Below w₀.heap.size w₀ w)
    (E : Nat → Prop) (hE : ∀ k, E k → w₀.heap.size ≤ k ∧ k < w.heap.size) (hBl : w.cell? ⟨Bl, 0, none⟩ = some (.slice a n c)) (hB0 : w.cell? ⟨Bp, 0, none⟩ = some (.int .i64 u)) (hB1 : w.cell? ⟨Bp, 1, none⟩ = some (.int .i64 v)) (hEl : ¬ E Bl) (hEp : ¬ E Bp) :
    Iter Fence.wide nn Try.prog 86 #[.pointer (some ⟨Bl, 0, none⟩), .pointer (some ⟨Bp, 0, none⟩)] (fun x : Pl => #[plV x]) (behL L cp) E w := by
  intro l J Jx hJ hY h0
  have hll := hr.len
  have hsm := hr.small
  have hBl2 := block_lt_of_cell hBl
  have hBp2 := block_lt_of_cell hB0
  have HLC : Hid (∀ W, Below w₀.heap.size w₀ W → Calls Try.prog 47 #[.slice a n c] W fun e w' => e = .returned (plV (lastP L)) ∧ Below W.heap.size W w') := fun W hW => wlast0_any F a n c L W (hr.below hW)
  have HCC : Hid (∀ W, Below w₀.heap.size w₀ W → Calls Try.prog 13 #[.slice a n c, .agg #[.int .i64 u, .int .i64 v]] W fun e w' => e = .returned (plV cp) ∧ Below W.heap.size W w') := by
    intro W hW
    have := wclip_any F a n c L ⟨u, v⟩ W (hr.below hW) hq
    simp only at this
    rw [hcp] at this
    exact this
  have hin0 := InP.clip L u v
  rw [hcp] at hin0
  have HIN := Lib.hid hin0
  have HLN : Hid (∀ (W : World) (i : Nat), Below w₀.heap.size w₀ W → i < n → ∃ b off ra rc, a = some ⟨b, off, none⟩ ∧ b < w₀.heap.size ∧ W.cell? ⟨b, off + i, none⟩ = some (.slice ra (lnL L i).length rc) ∧ (lnL L i).length ≤ 9223372036854775807) := by
    intro W i hW hi
    obtain ⟨b, off, ra, rc, e1, _, e3, e4, e5⟩ := okP.line (p := (i, 0)) hr ⟨by simp only; omega, by simp⟩ hW
    exact ⟨b, off, ra, rc, e1, e3, e4, e5.small⟩
  obtain ⟨lp, hlp⟩ : ∃ lp, lastP L = lp := ⟨_, rfl⟩
  rw [hlp] at HLC
  obtain ⟨l1, l2⟩ := lp
  obtain ⟨c1, c2⟩ := cp
  have HLP := Lib.hid hlp
  have HJ := Lib.hid hJ; clear hJ
  have HY := Lib.hid hY; clear hY
  have HE := Lib.hid hE; clear hE
  have HB := Lib.hid hb; clear hb
  have HL := Lib.hid hll; clear hll
  have HJ0 := Lib.hid h0; clear h0 hr hcp hq hin0 hlp
  refine callsIn_of_wp Try.func86 rfl trivial ?_ rfl
  simp only [Try.ntmps86, List.size_toArray, List.length_cons, List.length_nil, Nat.reduceAdd, Nat.reduceSub, Array.replicate_succ, Array.replicate_zero, List.push_toArray, List.append_toArray, List.nil_append, List.cons_append]
  gi_wp2
  refine ⟨trivial, (fun h => by simp [Fence.wide] at h), ?_⟩
  refine (callsIn_wide.2 (HLC.out _ HB.out)).mono ?_
  rintro e w2 ⟨rfl, hb2⟩
  unfold plV
  obtain ⟨w3, hw3⟩ : ∃ w3, w2.alloc (.cells #[.int .i64 (l1 : Nat), .int .i64 (l2 : Nat)] 24) = w3 := ⟨_, rfl⟩
  have hat3 : At w3 w2.heap.size (l1, l2) := by rw [← hw3]; exact heap_alloc_new w2 _
  have hb3 : Below w.heap.size w w3 := by rw [← hw3]; exact hb2.alloc hb2.size _
  obtain ⟨Bq, hBq⟩ : ∃ B, w2.heap.size = B := ⟨_, rfl⟩
  have hBqw : w.heap.size ≤ Bq := by have := hb2.size; omega
  have k1 := (hb3.cell (p := ⟨Bl, 0, none⟩) hBl2).trans hBl
  have k2 := (hb3.cell (p := ⟨Bp, 0, none⟩) hBp2).trans hB0
  have k3 := (hb3.cell (p := ⟨Bp, 1, none⟩) hBp2).trans hB1
  rw [hBq] at hat3
  clear hb2
  gi_wp2
  refine ⟨trivial, (fun h => by simp [Fence.wide] at h), ?_⟩
  refine (callsIn_wide.2 (HCC.out _ (btrW HB.out hb3))).mono ?_
  rintro e w4 ⟨rfl, hb4⟩
  unfold plV
  obtain ⟨w5, hw5⟩ : ∃ w5, w4.alloc (.cells #[.int .i64 (c1 : Nat), .int .i64 (c2 : Nat)] 24) = w5 := ⟨_, rfl⟩
  have hat5 : At w5 w4.heap.size (c1, c2) := by rw [← hw5]; exact heap_alloc_new w4 _
  have hb35 : Below w3.heap.size w3 w5 := by rw [← hw5]; exact hb4.alloc hb4.size _
  have hq5 : At w5 Bq (l1, l2) := hat3.keep (hb35.block _ hat3.lt)
  have hb5 : Below w.heap.size w w5 := btrW hb3 hb35
  have hBaq : ¬ w4.heap.size = Bq := by have := hb4.size; have := hat3.lt; omega
  have hBaw : w.heap.size ≤ w4.heap.size := by have := hb3.size; have := hb4.size; omega
  have HJ5 : Hid (J [] w5) := HJ.out _ _ _ HJ0.out hb5
  have HB5 : Hid (But w.heap.size E w w5) := But.of_below hb5
  obtain ⟨Ba, hBa⟩ : ∃ B, w4.heap.size = B := ⟨_, rfl⟩
  rw [hBa] at hat5 hBaq hBaw
  clear hb4 hb35 hb3 hat3 k1 k2 k3 hb5 HCC HLC HJ0
  gi_wp2
  gi_loopw [5] (fun v5 wr => ∃ (Ba : Nat) (p : Pl) (pre : List Pl), v5 = .pointer (some ⟨Ba, 0, none⟩) ∧ w.heap.size ≤ Ba ∧ ¬ Ba = Bq ∧ At wr Bq (l1, l2) ∧ At wr Ba p ∧ Hid (InP L p ∧ pre ++ behL L p = behL L (c1, c2)) ∧ Hid (J pre wr) ∧ Hid (But w.heap.size E w wr)) (fun v5 wr => (behL L (plOf v5 wr)).length)
  case atStart => exact ⟨Ba, (c1, c2), [], rfl, hBaw, hBaq, hq5, hat5, ⟨HIN.out, rfl⟩, HJ5, HB5⟩
  case round =>
    clear hat5 hq5 hBaq hBaw HJ5 HB5 hw3 hw5 hBq hBa
    obtain ⟨Ba, ⟨i, j⟩, pre, rfl, hBaw, hBaq, hq, hat, HP, HJP, HBW⟩ := hrel
    obtain ⟨a0, a1, z0, z1⟩ := row2 hat
    obtain ⟨q0, q1, y0, y1⟩ := row2 hq
    simp only at a0 a1 q0 q1
    have k1 := (HBW.out.cell (p := ⟨Bl, 0, none⟩) hBl2 hEl).trans hBl
    have HAT := Lib.hid hat
    have HQ := Lib.hid hq
    clear hat hq
    by_cases hi : i = l1
    · subst hi
      by_cases hj : j = l2
      · subst hj
        have HD : Hid (J (behL L (c1, c2)) wr) := by
          have e := HP.out.2
          rw [← HLP.out, beh_last, List.append_nil] at e
          rw [← e]
          exact HJP.out
        clear HJP
        gi_wp2
        go_end0
        exact ⟨⟨_, rfl⟩, .inl HD.out⟩
      · 
        have hjI : ¬ (j : Int) = (l2 : Int) := by omega
        have hne : ((i, j) : Pl) ≠ lastP L := by rw [HLP.out]; intro e; cases e; omega
        obtain ⟨hstep, hok⟩ := beh_step (HP.out.1.of hne) hne
        have hin := (places_mem.1 (HP.out.1.of hne))
        have hiL := hin.1
        have hjL := hin.2
        simp only at hiL hjL
        rw [HL.out] at hiL
        have hbw0 : Below w₀.heap.size w₀ wr := HB.out.trans (HBW.out.below HB.out.size (fun k hk e => by have := (HE.out k e).1; omega))
        obtain ⟨b, off, ra, rc, rfl, hbl, e0, hms⟩ := HLN.out wr i hbw0 hiL
        have hpx : ∀ y, sucP L (i, j) = y → pre ++ [y] <+: behL L (c1, c2) ∧ InP L y ∧ pre ++ [y] ++ behL L y = behL L (c1, c2) ∧ behL L (i, j) = y :: behL L y := by
          rintro y rfl
          refine ⟨⟨behL L (sucP L (i, j)), ?_⟩, .inr (places_mem.2 hok), ?_, hstep⟩
          · rw [List.append_assoc, List.singleton_append, ← hstep]; exact HP.out.2
          · rw [List.append_assoc, List.singleton_append, ← hstep]; exact HP.out.2
        have hsuc : sucP L (i, j) = if j + 1 < (lnL L i).length then (i, j + 1) else (i + 1, 0) := rfl
        obtain ⟨m, hm⟩ : ∃ m, (lnL L i).length = m := ⟨_, rfl⟩
        rw [hm] at e0 hms hsuc hjL
        obtain ⟨j1, hj1⟩ : ∃ j1, j + 1 = j1 := ⟨_, rfl⟩
        rw [hj1] at hsuc
        have s1 : (j : Int) + 1 = (j1 : Int) := by omega
        have s2 : (j1 : Int) ≤ 9223372036854775807 := by omega
        obtain ⟨W5, hW5⟩ : ∃ W5, wr.setCell ⟨Ba, 1, none⟩ (.int .i64 (j1 : Nat)) = W5 := ⟨_, rfl⟩
        have hBaS := HAT.out.lt
        have hBqS := HQ.out.lt
        have hb5 : Below w.heap.size wr W5 := by rw [← hW5]; exact setCell_below (Below.refl _ _) _ _ _ hBaw
        have ha5 : At W5 Ba (i, j1) := by rw [← hW5]; exact heap_set HAT.out 1 _
        have hq5 : At W5 Bq (i, l2) := by rw [← hW5]; exact (Below.heap_setCell _ _ _ _ (by first | (show ¬ Bq = Ba; omega) | (show ¬ Ba = Bq; omega))).trans HQ.out
        have hsz5 : W5.heap.size = wr.heap.size := by rw [← hW5]; simp [World.setCell]
        have k5 : W5.cell? ⟨Bl, 0, none⟩ = some (.slice (some ⟨b, off, none⟩) n c) := (hb5.cell (p := ⟨Bl, 0, none⟩) hBl2).trans k1
        have e5 : W5.cell? ⟨b, off + i, none⟩ = some (.slice ra m rc) := (hb5.cell (p := ⟨b, off + i, none⟩) (by have := HB.out.size; show b < _; omega)).trans e0
        obtain ⟨b0, b1, x0, x1⟩ := row2 ha5
        simp only at b0 b1
        have HHS : Hid (W5.heap.size = wr.heap.size) := hsz5
        have HWW : Hid (wr.setCell ⟨Ba, 1, none⟩ (.int .i64 (j1 : Nat)) = W5) := hW5
        have hbw5' : Hid (Below w.heap.size wr W5) := hb5
        have HA5 := Lib.hid ha5
        have HQ5 := Lib.hid hq5
        clear hne hstep hok hin hbw0 e0 hm hj1 ha5 hq5 hsz5 hb5
        by_cases hjm : j1 < m
        · rw [if_pos hjm] at hsuc
          have HPX := Lib.hid (hpx _ hsuc)
          have g1 : decide ((m : Int) ≤ (j1 : Int)) = false := by simp; omega
          have g2 : decide (m ≤ j1) = false := by simp; omega
          clear hsuc hpx
          have hbw5 : Below w.heap.size wr W5.drew := hbw5'.out.drew
          have HA6 : Hid (At W5.drew Ba (i, j1)) := HA5.out
          have HQ6 : Hid (At W5.drew Bq (i, l2)) := HQ5.out
          gi_wp2_with fail
          gi_region
          obtain ⟨fn, tmps, assign, body, hy, hR⟩ := HY.out pre (i, j1) (W5.drew) (Nat.le_trans HBW.out.size hbw5.size) (HJ.out _ _ _ HJP.out hbw5) HPX.out.1
          unfold plV at hy
          simp only at hy
          skip
          have HRR := Lib.hid hR
          have HB5 := Lib.hid hbw5
          clear hR hbw5
          gi_wp2_with fail
          refine ⟨(fun h => by simp [Fence.wide] at h), ?_⟩
          refine HRR.out.mono ?_
          rintro e W3 (⟨rfl, hj3, hb3⟩ | ⟨rfl, hjx3⟩)
          · have hat3 : At W3 Ba (i, j1) := HA6.out.keep (hb3.block _ HA6.out.lt (fun e => by have := (HE.out _ e).2; omega))
            have hq3 : At W3 Bq (i, l2) := HQ6.out.keep (hb3.block _ HQ6.out.lt (fun e => by have := (HE.out _ e).2; omega))
            obtain ⟨d0, d1, -, -⟩ := row2 hat3
            simp only at d0 d1
            obtain ⟨W7, hW7⟩ : ∃ W7, W3.alloc (.cells #[.int .i64 (i : Nat), .int .i64 (j1 : Nat)] 24) = W7 := ⟨_, rfl⟩
            have hat7 : At W7 W3.heap.size (i, j1) := by rw [← hW7]; exact heap_alloc_new W3 _
            have hb37 : Below W3.heap.size W3 W7 := by rw [← hW7]; exact bal _ _
            have hq7 : At W7 Bq (i, l2) := hq3.keep (hb37.block _ hq3.lt)
            have hws3 : w.heap.size ≤ W3.heap.size := Nat.le_trans HBW.out.size (Nat.le_trans HB5.out.size hb3.size)
            have HJ7 : Hid (J (pre ++ [(i, j1)]) W7) := HJ.out _ _ _ hj3 (hb37.mono hws3)
            have HB7 : Hid (But w.heap.size E w W7) := (HBW.out.trans (But.of_below HB5.out)).trans ((hb3.mono (Nat.le_trans HBW.out.size HB5.out.size) (fun _ _ h => h)).trans (But.of_below (hb37.mono hws3)))
            have hnew : ¬ W3.heap.size = Bq := by have := hq3.lt; omega
            have HA7 := Lib.hid hat7
            have HQ7 := Lib.hid hq7
            have HN := Lib.hid hnew
            have HWS := Lib.hid hws3
            have HM : Hid ((behL L (i, j1)).length < (behL L (plOf (.pointer (some ⟨Ba, 0, none⟩)) wr)).length) := by
              have h := HPX.out.2.2.2
              rw [HAT.out.of]
              show _ < (behL L (i, j)).length
              rw [h]; simp
            clear hat3 hq3 hat7 hq7 hb37 hj3 hb3 hnew hws3
            skip
            have HW7 := Lib.hid hW7
            clear hW7
            gi_wp2_with fail
            rw [HW7.out]
            go_roundw
            case rel => exact ⟨W3.heap.size, (i, j1), pre ++ [(i, j1)], rfl, HWS.out, HN.out, HQ7.out, HA7.out, ⟨HPX.out.2.1, HPX.out.2.2.1⟩, HJ7, HB7⟩
            case measure =>
              refine Nat.lt_of_le_of_lt (Nat.le_of_eq ?_) HM.out
              rw [← HA7.out.of]
          · gi_wp2_with fail
            refine bodyPost_ret (results_none rfl _ _ _) rfl ?_
            exact ⟨⟨_, rfl⟩, .inr ⟨_, HPX.out.1, hjx3⟩⟩
        · rw [if_neg hjm] at hsuc
          have HPX := Lib.hid (hpx _ hsuc)
          have g1 : decide ((m : Int) ≤ (j1 : Int)) = true := by simp; omega
          have g2 : decide (m ≤ j1) = true := by simp; omega
          obtain ⟨i1, hi1⟩ : ∃ i1, i + 1 = i1 := ⟨_, rfl⟩
          rw [hi1] at HPX
          have s3 : (i : Int) + 1 = (i1 : Int) := by omega
          obtain ⟨W6, hW6⟩ : ∃ W6, ((W5.setCell ⟨Ba, 0, none⟩ (.int .i64 (i1 : Nat))).setCell ⟨Ba, 1, none⟩ (.int .i64 0)).drew = W6 := ⟨_, rfl⟩
          have hbw5 : Below w.heap.size wr W6 := by rw [← hW6]; exact (setCell_below (setCell_below hbw5'.out _ _ _ hBaw) _ _ _ hBaw).drew
          have HA6 : Hid (At W6 Ba (i1, 0)) := by
            have h0 : At W5 Ba (i, j1) := HA5.out
            show At W6 Ba (i1, 0)
            rw [← hW6]; show At ((W5.setCell _ _).setCell _ _) _ _; exact heap_set (heap_set h0 0 _) 1 _
          have HQ6 : Hid (At W6 Bq (i, l2)) := by
            have h0 : At W5 Bq (i, l2) := HQ5.out
            show At W6 Bq (i, l2)
            rw [← hW6]; show At ((W5.setCell _ _).setCell _ _) _ _; exact ((Below.heap_setCell _ _ _ _ (by first | (show ¬ Bq = Ba; omega) | (show ¬ Ba = Bq; omega))).trans (Below.heap_setCell _ _ _ _ (by first | (show ¬ Bq = Ba; omega) | (show ¬ Ba = Bq; omega)))).trans h0
          obtain ⟨v0, v1, -, -⟩ := row2 HA6.out
          simp only [show ((0 : Nat) : Int) = 0 from rfl] at v0 v1
          clear hsuc hpx hi1
          gi_wp2_with fail
          gi_region
          obtain ⟨fn, tmps, assign, body, hy, hR⟩ := HY.out pre (i1, 0) (W6) (Nat.le_trans HBW.out.size hbw5.size) (HJ.out _ _ _ HJP.out hbw5) HPX.out.1
          unfold plV at hy
          simp only at hy
          simp only [show ((0 : Nat) : Int) = 0 from rfl] at hy
          have HRR := Lib.hid hR
          have HB5 := Lib.hid hbw5
          clear hR hbw5
          gi_wp2_with fail
          refine ⟨(fun h => by simp [Fence.wide] at h), ?_⟩
          refine HRR.out.mono ?_
          rintro e W3 (⟨rfl, hj3, hb3⟩ | ⟨rfl, hjx3⟩)
          · have hat3 : At W3 Ba (i1, 0) := HA6.out.keep (hb3.block _ HA6.out.lt (fun e => by have := (HE.out _ e).2; omega))
            have hq3 : At W3 Bq (i, l2) := HQ6.out.keep (hb3.block _ HQ6.out.lt (fun e => by have := (HE.out _ e).2; omega))
            obtain ⟨d0, d1, -, -⟩ := row2 hat3
            simp only at d0 d1
            obtain ⟨W7, hW7⟩ : ∃ W7, W3.alloc (.cells #[.int .i64 (i1 : Nat), .int .i64 (0 : Nat)] 24) = W7 := ⟨_, rfl⟩
            have hat7 : At W7 W3.heap.size (i1, 0) := by rw [← hW7]; exact heap_alloc_new W3 _
            have hb37 : Below W3.heap.size W3 W7 := by rw [← hW7]; exact bal _ _
            have hq7 : At W7 Bq (i, l2) := hq3.keep (hb37.block _ hq3.lt)
            have hws3 : w.heap.size ≤ W3.heap.size := Nat.le_trans HBW.out.size (Nat.le_trans HB5.out.size hb3.size)
            have HJ7 : Hid (J (pre ++ [(i1, 0)]) W7) := HJ.out _ _ _ hj3 (hb37.mono hws3)
            have HB7 : Hid (But w.heap.size E w W7) := (HBW.out.trans (But.of_below HB5.out)).trans ((hb3.mono (Nat.le_trans HBW.out.size HB5.out.size) (fun _ _ h => h)).trans (But.of_below (hb37.mono hws3)))
            have hnew : ¬ W3.heap.size = Bq := by have := hq3.lt; omega
            have HA7 := Lib.hid hat7
            have HQ7 := Lib.hid hq7
            have HN := Lib.hid hnew
            have HWS := Lib.hid hws3
            have HM : Hid ((behL L (i1, 0)).length < (behL L (plOf (.pointer (some ⟨Ba, 0, none⟩)) wr)).length) := by
              have h := HPX.out.2.2.2
              rw [HAT.out.of]
              show _ < (behL L (i, j)).length
              rw [h]; simp
            clear hat3 hq3 hat7 hq7 hb37 hj3 hb3 hnew hws3
            simp only [show ((0 : Nat) : Int) = 0 from rfl] at d1 hW7
            have HW7 := Lib.hid hW7
            clear hW7
            gi_wp2_with fail
            rw [HW7.out]
            go_roundw
            case rel => exact ⟨W3.heap.size, (i1, 0), pre ++ [(i1, 0)], rfl, HWS.out, HN.out, HQ7.out, HA7.out, ⟨HPX.out.2.1, HPX.out.2.2.1⟩, HJ7, HB7⟩
            case measure =>
              refine Nat.lt_of_le_of_lt (Nat.le_of_eq ?_) HM.out
              rw [← HA7.out.of]
          · gi_wp2_with fail
            refine bodyPost_ret (results_none rfl _ _ _) rfl ?_
            exact ⟨⟨_, rfl⟩, .inr ⟨_, HPX.out.1, hjx3⟩⟩
    · 
      have hiI : ¬ (i : Int) = (l1 : Int) := by omega
      have hne : ((i, j) : Pl) ≠ lastP L := by rw [HLP.out]; intro e; cases e; omega
      obtain ⟨hstep, hok⟩ := beh_step (HP.out.1.of hne) hne
      have hin := (places_mem.1 (HP.out.1.of hne))
      have hiL := hin.1
      have hjL := hin.2
      simp only at hiL hjL
      rw [HL.out] at hiL
      have hbw0 : Below w₀.heap.size w₀ wr := HB.out.trans (HBW.out.below HB.out.size (fun k hk e => by have := (HE.out k e).1; omega))
      obtain ⟨b, off, ra, rc, rfl, hbl, e0, hms⟩ := HLN.out wr i hbw0 hiL
      have hpx : ∀ y, sucP L (i, j) = y → pre ++ [y] <+: behL L (c1, c2) ∧ InP L y ∧ pre ++ [y] ++ behL L y = behL L (c1, c2) ∧ behL L (i, j) = y :: behL L y := by
        rintro y rfl
        refine ⟨⟨behL L (sucP L (i, j)), ?_⟩, .inr (places_mem.2 hok), ?_, hstep⟩
        · rw [List.append_assoc, List.singleton_append, ← hstep]; exact HP.out.2
        · rw [List.append_assoc, List.singleton_append, ← hstep]; exact HP.out.2
      have hsuc : sucP L (i, j) = if j + 1 < (lnL L i).length then (i, j + 1) else (i + 1, 0) := rfl
      obtain ⟨m, hm⟩ : ∃ m, (lnL L i).length = m := ⟨_, rfl⟩
      rw [hm] at e0 hms hsuc hjL
      obtain ⟨j1, hj1⟩ : ∃ j1, j + 1 = j1 := ⟨_, rfl⟩
      rw [hj1] at hsuc
      have s1 : (j : Int) + 1 = (j1 : Int) := by omega
      have s2 : (j1 : Int) ≤ 9223372036854775807 := by omega
      obtain ⟨W5, hW5⟩ : ∃ W5, wr.setCell ⟨Ba, 1, none⟩ (.int .i64 (j1 : Nat)) = W5 := ⟨_, rfl⟩
      have hBaS := HAT.out.lt
      have hBqS := HQ.out.lt
      have hb5 : Below w.heap.size wr W5 := by rw [← hW5]; exact setCell_below (Below.refl _ _) _ _ _ hBaw
      have ha5 : At W5 Ba (i, j1) := by rw [← hW5]; exact heap_set HAT.out 1 _
      have hq5 : At W5 Bq (l1, l2) := by rw [← hW5]; exact (Below.heap_setCell _ _ _ _ (by first | (show ¬ Bq = Ba; omega) | (show ¬ Ba = Bq; omega))).trans HQ.out
      have hsz5 : W5.heap.size = wr.heap.size := by rw [← hW5]; simp [World.setCell]
      have k5 : W5.cell? ⟨Bl, 0, none⟩ = some (.slice (some ⟨b, off, none⟩) n c) := (hb5.cell (p := ⟨Bl, 0, none⟩) hBl2).trans k1
      have e5 : W5.cell? ⟨b, off + i, none⟩ = some (.slice ra m rc) := (hb5.cell (p := ⟨b, off + i, none⟩) (by have := HB.out.size; show b < _; omega)).trans e0
      obtain ⟨b0, b1, x0, x1⟩ := row2 ha5
      simp only at b0 b1
      have HHS : Hid (W5.heap.size = wr.heap.size) := hsz5
      have HWW : Hid (wr.setCell ⟨Ba, 1, none⟩ (.int .i64 (j1 : Nat)) = W5) := hW5
      have hbw5' : Hid (Below w.heap.size wr W5) := hb5
      have HA5 := Lib.hid ha5
      have HQ5 := Lib.hid hq5
      clear hne hstep hok hin hbw0 e0 hm hj1 ha5 hq5 hsz5 hb5
      by_cases hjm : j1 < m
      · rw [if_pos hjm] at hsuc
        have HPX := Lib.hid (hpx _ hsuc)
        have g1 : decide ((m : Int) ≤ (j1 : Int)) = false := by simp; omega
        have g2 : decide (m ≤ j1) = false := by simp; omega
        clear hsuc hpx
        have hbw5 : Below w.heap.size wr W5.drew := hbw5'.out.drew
        have HA6 : Hid (At W5.drew Ba (i, j1)) := HA5.out
        have HQ6 : Hid (At W5.drew Bq (l1, l2)) := HQ5.out
        gi_wp2_with fail
        gi_region
        obtain ⟨fn, tmps, assign, body, hy, hR⟩ := HY.out pre (i, j1) (W5.drew) (Nat.le_trans HBW.out.size hbw5.size) (HJ.out _ _ _ HJP.out hbw5) HPX.out.1
        unfold plV at hy
        simp only at hy
        skip
        have HRR := Lib.hid hR
        have HB5 := Lib.hid hbw5
        clear hR hbw5
        gi_wp2_with fail
        refine ⟨(fun h => by simp [Fence.wide] at h), ?_⟩
        refine HRR.out.mono ?_
        rintro e W3 (⟨rfl, hj3, hb3⟩ | ⟨rfl, hjx3⟩)
        · have hat3 : At W3 Ba (i, j1) := HA6.out.keep (hb3.block _ HA6.out.lt (fun e => by have := (HE.out _ e).2; omega))
          have hq3 : At W3 Bq (l1, l2) := HQ6.out.keep (hb3.block _ HQ6.out.lt (fun e => by have := (HE.out _ e).2; omega))
          obtain ⟨d0, d1, -, -⟩ := row2 hat3
          simp only at d0 d1
          obtain ⟨W7, hW7⟩ : ∃ W7, W3.alloc (.cells #[.int .i64 (i : Nat), .int .i64 (j1 : Nat)] 24) = W7 := ⟨_, rfl⟩
          have hat7 : At W7 W3.heap.size (i, j1) := by rw [← hW7]; exact heap_alloc_new W3 _
          have hb37 : Below W3.heap.size W3 W7 := by rw [← hW7]; exact bal _ _
          have hq7 : At W7 Bq (l1, l2) := hq3.keep (hb37.block _ hq3.lt)
          have hws3 : w.heap.size ≤ W3.heap.size := Nat.le_trans HBW.out.size (Nat.le_trans HB5.out.size hb3.size)
          have HJ7 : Hid (J (pre ++ [(i, j1)]) W7) := HJ.out _ _ _ hj3 (hb37.mono hws3)
          have HB7 : Hid (But w.heap.size E w W7) := (HBW.out.trans (But.of_below HB5.out)).trans ((hb3.mono (Nat.le_trans HBW.out.size HB5.out.size) (fun _ _ h => h)).trans (But.of_below (hb37.mono hws3)))
          have hnew : ¬ W3.heap.size = Bq := by have := hq3.lt; omega
          have HA7 := Lib.hid hat7
          have HQ7 := Lib.hid hq7
          have HN := Lib.hid hnew
          have HWS := Lib.hid hws3
          have HM : Hid ((behL L (i, j1)).length < (behL L (plOf (.pointer (some ⟨Ba, 0, none⟩)) wr)).length) := by
            have h := HPX.out.2.2.2
            rw [HAT.out.of]
            show _ < (behL L (i, j)).length
            rw [h]; simp
          clear hat3 hq3 hat7 hq7 hb37 hj3 hb3 hnew hws3
          skip
          have HW7 := Lib.hid hW7
          clear hW7
          gi_wp2_with fail
          rw [HW7.out]
          go_roundw
          case rel => exact ⟨W3.heap.size, (i, j1), pre ++ [(i, j1)], rfl, HWS.out, HN.out, HQ7.out, HA7.out, ⟨HPX.out.2.1, HPX.out.2.2.1⟩, HJ7, HB7⟩
          case measure =>
            refine Nat.lt_of_le_of_lt (Nat.le_of_eq ?_) HM.out
            rw [← HA7.out.of]
        · gi_wp2_with fail
          refine bodyPost_ret (results_none rfl _ _ _) rfl ?_
          exact ⟨⟨_, rfl⟩, .inr ⟨_, HPX.out.1, hjx3⟩⟩
      · rw [if_neg hjm] at hsuc
        have HPX := Lib.hid (hpx _ hsuc)
        have g1 : decide ((m : Int) ≤ (j1 : Int)) = true := by simp; omega
        have g2 : decide (m ≤ j1) = true := by simp; omega
        obtain ⟨i1, hi1⟩ : ∃ i1, i + 1 = i1 := ⟨_, rfl⟩
        rw [hi1] at HPX
        have s3 : (i : Int) + 1 = (i1 : Int) := by omega
        obtain ⟨W6, hW6⟩ : ∃ W6, ((W5.setCell ⟨Ba, 0, none⟩ (.int .i64 (i1 : Nat))).setCell ⟨Ba, 1, none⟩ (.int .i64 0)).drew = W6 := ⟨_, rfl⟩
        have hbw5 : Below w.heap.size wr W6 := by rw [← hW6]; exact (setCell_below (setCell_below hbw5'.out _ _ _ hBaw) _ _ _ hBaw).drew
        have HA6 : Hid (At W6 Ba (i1, 0)) := by
          have h0 : At W5 Ba (i, j1) := HA5.out
          show At W6 Ba (i1, 0)
          rw [← hW6]; show At ((W5.setCell _ _).setCell _ _) _ _; exact heap_set (heap_set h0 0 _) 1 _
        have HQ6 : Hid (At W6 Bq (l1, l2)) := by
          have h0 : At W5 Bq (l1, l2) := HQ5.out
          show At W6 Bq (l1, l2)
          rw [← hW6]; show At ((W5.setCell _ _).setCell _ _) _ _; exact ((Below.heap_setCell _ _ _ _ (by first | (show ¬ Bq = Ba; omega) | (show ¬ Ba = Bq; omega))).trans (Below.heap_setCell _ _ _ _ (by first | (show ¬ Bq = Ba; omega) | (show ¬ Ba = Bq; omega)))).trans h0
        obtain ⟨v0, v1, -, -⟩ := row2 HA6.out
        simp only [show ((0 : Nat) : Int) = 0 from rfl] at v0 v1
        clear hsuc hpx hi1
        gi_wp2_with fail
        gi_region
        obtain ⟨fn, tmps, assign, body, hy, hR⟩ := HY.out pre (i1, 0) (W6) (Nat.le_trans HBW.out.size hbw5.size) (HJ.out _ _ _ HJP.out hbw5) HPX.out.1
        unfold plV at hy
        simp only at hy
        simp only [show ((0 : Nat) : Int) = 0 from rfl] at hy
        have HRR := Lib.hid hR
        have HB5 := Lib.hid hbw5
        clear hR hbw5
        gi_wp2_with fail
        refine ⟨(fun h => by simp [Fence.wide] at h), ?_⟩
        refine HRR.out.mono ?_
        rintro e W3 (⟨rfl, hj3, hb3⟩ | ⟨rfl, hjx3⟩)
        · have hat3 : At W3 Ba (i1, 0) := HA6.out.keep (hb3.block _ HA6.out.lt (fun e => by have := (HE.out _ e).2; omega))
          have hq3 : At W3 Bq (l1, l2) := HQ6.out.keep (hb3.block _ HQ6.out.lt (fun e => by have := (HE.out _ e).2; omega))
          obtain ⟨d0, d1, -, -⟩ := row2 hat3
          simp only at d0 d1
          obtain ⟨W7, hW7⟩ : ∃ W7, W3.alloc (.cells #[.int .i64 (i1 : Nat), .int .i64 (0 : Nat)] 24) = W7 := ⟨_, rfl⟩
          have hat7 : At W7 W3.heap.size (i1, 0) := by rw [← hW7]; exact heap_alloc_new W3 _
          have hb37 : Below W3.heap.size W3 W7 := by rw [← hW7]; exact bal _ _
          have hq7 : At W7 Bq (l1, l2) := hq3.keep (hb37.block _ hq3.lt)
          have hws3 : w.heap.size ≤ W3.heap.size := Nat.le_trans HBW.out.size (Nat.le_trans HB5.out.size hb3.size)
          have HJ7 : Hid (J (pre ++ [(i1, 0)]) W7) := HJ.out _ _ _ hj3 (hb37.mono hws3)
          have HB7 : Hid (But w.heap.size E w W7) := (HBW.out.trans (But.of_below HB5.out)).trans ((hb3.mono (Nat.le_trans HBW.out.size HB5.out.size) (fun _ _ h => h)).trans (But.of_below (hb37.mono hws3)))
          have hnew : ¬ W3.heap.size = Bq := by have := hq3.lt; omega
          have HA7 := Lib.hid hat7
          have HQ7 := Lib.hid hq7
          have HN := Lib.hid hnew
          have HWS := Lib.hid hws3
          have HM : Hid ((behL L (i1, 0)).length < (behL L (plOf (.pointer (some ⟨Ba, 0, none⟩)) wr)).length) := by
            have h := HPX.out.2.2.2
            rw [HAT.out.of]
            show _ < (behL L (i, j)).length
            rw [h]; simp
          clear hat3 hq3 hat7 hq7 hb37 hj3 hb3 hnew hws3
          simp only [show ((0 : Nat) : Int) = 0 from rfl] at d1 hW7
          have HW7 := Lib.hid hW7
          clear hW7
          gi_wp2_with fail
          rw [HW7.out]
          go_roundw
          case rel => exact ⟨W3.heap.size, (i1, 0), pre ++ [(i1, 0)], rfl, HWS.out, HN.out, HQ7.out, HA7.out, ⟨HPX.out.2.1, HPX.out.2.2.1⟩, HJ7, HB7⟩
          case measure =>
            refine Nat.lt_of_le_of_lt (Nat.le_of_eq ?_) HM.out
            rw [← HA7.out.of]
        · gi_wp2_with fail
          refine bodyPost_ret (results_none rfl _ _ _) rfl ?_
          exact ⟨⟨_, rfl⟩, .inr ⟨_, HPX.out.1, hjx3⟩⟩
end Go.Proofs.Ytikdojebnbmpoaa.U
