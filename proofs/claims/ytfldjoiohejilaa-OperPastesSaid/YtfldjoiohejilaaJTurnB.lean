/-
  The document's Turn of a region that is there: the walk.
-/
import Derived.Test.YtfldjoiohejilaaJTurn
namespace Go.Proofs.Ytfldjoiohejilaa.U
open Go.RowKit
set_option linter.unusedVariables false
set_option linter.unusedSimpArgs false
set_option maxRecDepth 100000

set_option maxHeartbeats 4000000 in
theorem rturn_ok (F : Nat → Prop) (a : Option Addr) (n c : Nat) (L : List (List Int)) (p q : Pl) (k how : Int) (w : World) (h : RdL F w a n c L) (hs : sizeN (lens L) ≤ 1048576) (hp : okP L p) (hq : okP L q) (h1 : 0 ≤ k) (h2 : k ≤ 2) (hw : how = 126 ∨ how = 117 ∨ how = 85) :
    Calls Try.prog 25 #[.slice a n c, rgnV p q k, .int .i32 how] w fun e w' => ∃ ra rc, e = .returned (.tuple #[.slice ra n rc, .int .i64 0]) ∧ FreshL w.heap.size w' ra n rc (turnL L k p q how n) ∧ Below w.heap.size w w' := by
  have hth := there_up (k := k) hp hq h1 h2
  have hpi := i64_okP h hs hp
  have hqi := i64_okP h hs hq
  have hl := h.len
  have hsm := h.small
  have hn1 : n ≤ 1048576 := by have := size_count L; omega
  have hwf := lines_wf (rdl_wf h)
  unfold rgnV
  obtain ⟨wb, hwb⟩ : ∃ wb, w.alloc (.cells #[.int .i64 (p.1 : Nat), .int .i64 (p.2 : Nat), .int .i64 (q.1 : Nat), .int .i64 (q.2 : Nat), .int .i64 k] 26) = wb := ⟨_, rfl⟩
  have hsz : wb.heap.size = w.heap.size + 1 := by rw [← hwb]; simp
  have hB : Below w.heap.size w wb := by rw [← hwb]; exact (Below.refl _ _).alloc (Nat.le_refl _) _
  have g1 : wb.heap[w.heap.size]? = some (.cells #[.int .i64 (p.1 : Nat), .int .i64 (p.2 : Nat), .int .i64 (q.1 : Nat), .int .i64 (q.2 : Nat), .int .i64 k] 26 (0, 0)) := by rw [← hwb]; exact heap_alloc_new w _
  obtain ⟨b, hbe⟩ : ∃ b, w.heap.size = b := ⟨_, rfl⟩
  have HC : Hid (∀ W, W = wb → Calls Try.prog 42 #[.slice a n c, .agg #[.int .i64 (p.1 : Nat), .int .i64 (p.2 : Nat), .int .i64 (q.1 : Nat), .int .i64 (q.2 : Nat), .int .i64 k]] W fun e w' => e = .returned (.int .i64 0) ∧ Hid (Below wb.heap.size wb w')) := by
    rintro W rfl
    refine (rthereR_any F a n c L ⟨upP p, upP q, k⟩ 0 W (h.below hB) ⟨⟨⟨by show _ ≤ (p.1 : Int); omega, by show (p.1 : Int) ≤ _; omega⟩, ⟨by show _ ≤ (p.2 : Int); omega, by show (p.2 : Int) ≤ _; omega⟩⟩, ⟨⟨by show _ ≤ (q.1 : Int); omega, by show (q.1 : Int) ≤ _; omega⟩, ⟨by show _ ≤ (q.2 : Int); omega, by show (q.2 : Int) ≤ _; omega⟩⟩, ⟨by show _ ≤ k; omega, by show k ≤ _; omega⟩⟩ hth.1).mono ?_
    rintro e w' ⟨rfl, hb⟩
    exact ⟨rfl, hb⟩
  have HT : Hid (∀ W, Hid (Below wb.heap.size wb W) → Calls Try.prog 12 #[.slice a n c] W fun e w' => ∃ ta tc, e = .returned (.slice ta n tc) ∧ Hid (TuS w b p q k (turnL L k p q how 0) ta n tc w')) := by
    intro W hW
    have hbW : Below w.heap.size w W := hB.trans (hW.out.mono (by omega))
    refine (rtwin_any F a n c L W (h.below hbW) hs).mono ?_
    rintro e w' ⟨ta, tc, rfl, hf, hb⟩
    have hsW := hW.out.size
    have hs2 := hb.size
    have h0 : turnL L k p q how 0 = L := by unfold turnL; simp
    rw [h0]
    exact ⟨ta, tc, rfl, by rw [← hbe]; exact (hb.block _ (by omega)).trans ((hW.out.block _ (by omega)).trans g1), hf.mono (by omega), by rw [← hbe]; exact hbW.trans (hb.mono (by omega)), by omega⟩
  have HHAS : Hid (∀ (i j : Nat) (W : World), Calls Try.prog 64 #[.agg #[.int .i64 (p.1 : Nat), .int .i64 (p.2 : Nat), .int .i64 (q.1 : Nat), .int .i64 (q.2 : Nat), .int .i64 k], .agg #[.int .i64 (i : Nat), .int .i64 (j : Nat)]] W fun e w' => e = .returned (.bool (regHas k p q (i, j))) ∧ Below W.heap.size W w') := fun i j W => rhas_any p q (i, j) k W
  have hg0 := cell_row g1 0
  have hg1 := cell_row g1 1
  have hg2 := cell_row g1 2
  have hg3 := cell_row g1 3
  have hg4 := cell_row g1 4
  have hgl := heap_lt g1
  rw [hbe] at hg0 hg1 hg2 hg3 hg4 hgl
  have HP := Lib.hid (And.intro hl (And.intro hs hwf))
  have HW := Lib.hid hwb
  have HBE := Lib.hid hbe
  rw [hbe]
  obtain ⟨p1, p2⟩ := p
  obtain ⟨q1, q2⟩ := q
  simp only at hg0 hg1 hg2 hg3 hg4 HC HT HHAS ⊢
  clear hwb hsz hB g1 h hth hp hq hpi hqi hl hs hwf hbe
  go_enter Try.func25, Try.ntmps25
  go_upto_region 1 with fail
  rw [HBE.out, HW.out]
  have hwb' : (how != 126) = false ∨ ((how != 126) = true ∧ ((how != 117) = false ∨ ((how != 117) = true ∧ (how != 85) = false))) := by
    rcases hw with rfl | rfl | rfl <;> decide
  have hgo : (how ≠ 126 → how ≠ 117 → how = 85) := by omega
  have HH := Lib.hid hw
  clear hw hgo
  have key : ∀ how', how' = how → True := fun _ _ => trivial
  clear key
  rcases hwb' with e1 | ⟨e1, e2 | ⟨e2, e3⟩⟩
  all_goals
    go_upto_region 8 with (first
      | (go_at_call 42; (refine (HC.out _ rfl).mono ?_); rintro e w1 ⟨rfl, HB1⟩)
      | (go_at_call 12; (refine (HT.out _ HB1).mono ?_); rintro e w2 ⟨ta, tc, rfl, HS⟩))
    clear hg0 hg1 hg2 hg3 hg4 hgl HC HT HB1
    go_loopw [10, 11] (fun v10 v11 wr => ∃ i : Nat, v10 = .int .i64 (i : Nat) ∧ i ≤ n ∧ Hid (TuS w b (p1, p2) (q1, q2) k (turnL L k (p1, p2) (q1, q2) how i) ta n tc wr)) (fun v10 _ _ => n - (intOf v10).toNat)
    case atStart => exact ⟨0, rfl, Nat.zero_le _, HS⟩
    case round =>
      obtain ⟨i, rfl, hi, hst⟩ := hrel
      clear HS
      by_cases hlt : i < n
      · have hiL : i < L.length := by have := HP.out.1; omega
        obtain ⟨x, hx⟩ : ∃ x, L[i]? = some x := ⟨_, List.getElem?_eq_getElem hiL⟩
        have hxl : x.length ≤ 1048576 := by
          have hm : x.length ∈ lens L := List.mem_map.2 ⟨_, List.mem_of_getElem? hx, rfl⟩
          have := sizeN_mem hm
          have := HP.out.2.1
          omega
        have hln := lnL_of hx
        obtain ⟨m, hm⟩ : ∃ m, x.length = m := ⟨_, rfl⟩
        have HX := Lib.hid (And.intro hx (And.intro hm (And.intro hiL hln)))
        have HI0 : Hid (TuS w b (p1, p2) (q1, q2) k (turnT L k (p1, p2) (q1, q2) how i 0) ta n tc wr) := by rw [turnT_zero hiL]; exact hst
        rw [hm] at hxl
        clear hst hx hm hln hiL
        go_upto_region 11 with fail
        go_loopw [11] (fun v11 wq => ∃ j : Nat, v11 = .int .i64 (j : Nat) ∧ j ≤ m ∧ Hid (TuS w b (p1, p2) (q1, q2) k (turnT L k (p1, p2) (q1, q2) how i j) ta n tc wq)) (fun v11 _ => m - (intOf v11).toNat)
        case atStart => exact ⟨0, rfl, Nat.zero_le _, HI0⟩
        case round =>
          obtain ⟨j, rfl, hj, hst⟩ := hrel
          clear HI0
          obtain ⟨hx, hm, hiL, hln⟩ := HX.out
          have hat := turnT_at (k := k) (p := (p1, p2)) (q := (q1, q2)) (how := how) (j := j) hiL
          rw [hln] at hat
          have hxlen : (turnX k (p1, p2) (q1, q2) how i x j).length = m := by rw [turnX_len, hm]
          by_cases hjl : j < m
          · obtain ⟨z, hz⟩ : ∃ z, x[j]? = some z := ⟨_, List.getElem?_eq_getElem (by omega)⟩
            have hzw : (Lit.int .i32 z).wf = true := HP.out.2.2 x (List.mem_of_getElem? hx) z (List.mem_of_getElem? hz)
            obtain ⟨g, ra0, rc0, rfl, hgs, hgc⟩ := fresh_cell hst.out.fr hat
            rw [hxlen] at hgc
            have t1 := hst.out.rg
            have y0 := cell_row t1 0
            have y1 := cell_row t1 1
            have y2 := cell_row t1 2
            have y3 := cell_row t1 3
            have y4 := cell_row t1 4
            have yl := heap_lt t1
            simp only at y0 y1 y2 y3 y4
            obtain ⟨R, hR⟩ : ∃ R, regHas k (p1, p2) (q1, q2) (i, j) = R := ⟨_, rfl⟩
            cases R
            · have hkeep : turnT L k (p1, p2) (q1, q2) how i (j + 1) = turnT L k (p1, p2) (q1, q2) how i j := by unfold turnT; rw [hln, turnX_keep hz hR]
              have HCn : Hid (∀ W, W = wr → Calls Try.prog 64 #[.agg #[.int .i64 (p1 : Nat), .int .i64 (p2 : Nat), .int .i64 (q1 : Nat), .int .i64 (q2 : Nat), .int .i64 k], .agg #[.int .i64 (i : Nat), .int .i64 (j : Nat)]] W fun e w' => e = .returned (.bool false) ∧ Hid (TuS w b (p1, p2) (q1, q2) k (turnT L k (p1, p2) (q1, q2) how i (j + 1)) (some ⟨g, 0, none⟩) n tc w')) := by
                rintro W rfl
                refine (HHAS.out i j W).mono ?_
                rintro e w' ⟨rfl, hb⟩
                rw [hR, hkeep]
                exact ⟨rfl, hst.out.below hb⟩
              clear hst hat hx hz hR hkeep hln hm hxlen t1
              go_wp2_with (go_at_call 64; (refine (HCn.out _ rfl).mono ?_); rintro e w1 ⟨rfl, HN⟩)
              go_roundw
              case rel => exact ⟨j + 1, by go_num, by omega, HN⟩
              case measure => simp [intOf]; omega
            · have hstep : turnT L k (p1, p2) (q1, q2) how i (j + 1) = (turnT L k (p1, p2) (q1, q2) how i j).set i ((turnX k (p1, p2) (q1, q2) how i x j).set j (turnC13 how z)) := by
                have h5 := turnX_step (k := k) (p := (p1, p2)) (q := (q1, q2)) (how := how) (i := i) hz
                rw [hR] at h5
                simp only [if_true] at h5
                rw [turnT_set, h5]
                unfold turnT
                rw [hln]
              have hzz := turnX_at (k := k) (p := (p1, p2)) (q := (q1, q2)) (how := how) (i := i) hz
              have HCy : Hid (∀ W, W = wr → Calls Try.prog 64 #[.agg #[.int .i64 (p1 : Nat), .int .i64 (p2 : Nat), .int .i64 (q1 : Nat), .int .i64 (q2 : Nat), .int .i64 k], .agg #[.int .i64 (i : Nat), .int .i64 (j : Nat)]] W fun e w' => e = .returned (.bool true) ∧ ∃ gr rc, (w'.cell? ⟨g, i, none⟩ = some (.slice (some ⟨gr, 0, none⟩) m rc) ∧ w'.cell? ⟨gr, j, none⟩ = some (.int .i32 z) ∧ w'.frozen? ⟨gr, j, none⟩ = false ∧ g < w'.heap.size ∧ gr < w'.heap.size) ∧
                  Hid (TuS w b (p1, p2) (q1, q2) k (turnT L k (p1, p2) (q1, q2) how i (j + 1)) (some ⟨g, 0, none⟩) n tc (w'.drew.setCell ⟨gr, j, none⟩ (.int .i32 (turnC13 how z))))) := by
                rintro W rfl
                refine (HHAS.out i j W).mono ?_
                rintro e w' ⟨rfl, hb⟩
                rw [hR]
                have hT := (hst.out.below hb).below (Below.refl _ _).drew
                obtain ⟨g', gr, rc, hae, hg1, hg2, hg3, hg4, hg5, hg6, hg7, hg8⟩ := fresh_set hT.fr hT.l hat (j := j) (by omega)
                cases hae
                rw [hxlen] at hg2
                rw [hzz] at hg6
                obtain ⟨hf1, hf2⟩ := hg8 (turnC13 how z)
                refine ⟨rfl, gr, rc, ⟨hg2, hg6, hg7, hg1, hg4⟩, ?_⟩
                rw [hstep]
                have hll := hT.l
                have hs2 := hf2.size
                exact ⟨(hf2.block _ (by omega)).trans hT.rg, hf1, hT.hb.trans (hf2.mono (by omega)), by omega⟩
              have HTU : Hid (∀ W, Calls Try.prog 65 #[.int .i32 z, .int .i32 how] W fun e w' => e = .returned (.int .i32 (turnC13 how z)) ∧ w' = W) := fun W => rturned_any z how W hzw
              clear hst hat hx hz hR hstep hzz hln hm hxlen t1
              go_upto_region 14 with (go_at_call 64; (refine (HCy.out _ rfl).mono ?_); rintro e w1 ⟨rfl, gr, rc, ⟨d0, d1, d2, d3, d4⟩, HN⟩)
              have d0' : w1.drew.cell? ⟨g, i, none⟩ = some (.slice (some ⟨gr, 0, none⟩) m rc) := d0
              have d1' : w1.drew.cell? ⟨gr, j, none⟩ = some (.int .i32 z) := d1
              have d2' : w1.drew.frozen? ⟨gr, j, none⟩ = false := d2
              have d3' : g < w1.drew.heap.size := d3
              have d4' : gr < w1.drew.heap.size := d4
              go_region_law (first
                | (go_simp; go_at_call 65; (refine (HTU.out _).mono ?_); rintro e wq ⟨rfl, hwq⟩; subst hwq))
              all_goals
                go_wp2_with fail
                go_roundw
                case rel => exact ⟨j + 1, by go_num, by omega, HN⟩
                case measure => first | (simp [intOf]; done) | (simp [intOf]; omega)
          · obtain rfl : j = m := by omega
            have hend := turnT_end (k := k) (p := (p1, p2)) (q := (q1, q2)) (how := how) hiL
            rw [hln, hm] at hend
            have HN : Hid (TuS w b (p1, p2) (q1, q2) k (turnL L k (p1, p2) (q1, q2) how (i + 1)) ta n tc wr) := by rw [← hend]; exact hst
            obtain ⟨g, ra0, rc0, rfl, hgs, hgc⟩ := fresh_cell hst.out.fr hat
            rw [hxlen] at hgc
            clear hst hat hend hx hln hm hxlen
            go_wp2_with fail
            go_roundw
            case rel => exact ⟨i + 1, by go_num, by omega, HN⟩
            case measure => simp [intOf]; omega
      · obtain rfl : i = n := by omega
        have HF := hst
        clear hst
        go_wp2_with fail
        refine bodyPost_ret (v := .tuple #[.slice ta i tc, .int .i64 0]) (by rw [results_tmp2 rfl]; rfl) rfl ⟨ta, tc, rfl, HF.out.fr.mono (by omega), HF.out.hb⟩
end Go.Proofs.Ytfldjoiohejilaa.U
