/-
  The walks of OperTakes.
-/
import Derived.Test.YtfldjoiohejilaaJLaws1
namespace Go.Proofs.Ytfldjoiohejilaa.U
open Go.RowKit
set_option linter.unusedVariables false
set_option linter.unusedSimpArgs false
set_option maxRecDepth 100000

theorem takeR_wf {L : List (List Int)} (h : ∀ x ∈ L, ∀ y ∈ x, (Lit.int .i32 y).wf = true) (r : Rgn) : ∀ x ∈ (takeR L r).1.2, ∀ y ∈ x, (Lit.int .i32 y).wf = true := by
  intro x hx
  unfold takeR at hx
  split at hx
  · unfold takeL insL at hx
    obtain ⟨j, -, rfl⟩ := List.mem_map.1 hx
    unfold inL partIn
    refine wf_part ?_ _
    intro y hy
    unfold lnL at hy
    rw [List.getD_eq_getElem?_getD] at hy
    cases hi : L[(endsR (clipZ L r.f) (clipZ L r.t)).1.1 + j]? with
    | none => rw [hi] at hy; simp at hy
    | some z => rw [hi] at hy; exact h z (List.mem_of_getElem? hi) y hy
  · simp at hx
set_option maxHeartbeats 8000000 in
theorem operTakes_wideP (HP : PasteK 22) (a : Option Addr) (n c : Nat) (L : List (List Int)) (r : Rgn) (w : World) (h : RdL (fun k => k < w.heap.size) w a n c L) (hw : WideL L) (hr : i64r r) :
    Calls Try.prog 3 #[.slice a n c, r.v] w fun e w' => e = .returned (.bool true) ∧ Below w.heap.size w w' := by
  obtain ⟨wb, hwb⟩ : ∃ wb, w.alloc (.cells #[.int .i64 r.f.l, .int .i64 r.f.c, .int .i64 r.t.l, .int .i64 r.t.c, .int .i64 r.k] 26) = wb := ⟨_, rfl⟩
  have hrow : wb.heap[w.heap.size]? = some (.cells #[.int .i64 r.f.l, .int .i64 r.f.c, .int .i64 r.t.l, .int .i64 r.t.c, .int .i64 r.k] 26 (0, 0)) := by rw [← hwb]; exact heap_alloc_new w _
  have hB : Below w.heap.size w wb := by rw [← hwb]; exact bal _ _
  obtain ⟨b, hbe⟩ : ∃ b, w.heap.size = b := ⟨_, rfl⟩
  rw [hbe] at hrow
  have hfit := fit_any _ a n c L wb (h.below hB) hw
  have HB := Lib.hid hB
  have HW := Lib.hid hwb
  have HBE := Lib.hid hbe
  have KS : Hid (∀ W, Below wb.heap.size wb W → RgC b r W) := fun W hW => rgC_of (hbox hrow hW)
  have HH := Lib.hid h
  have HPP := Lib.hid HP
  show Calls Try.prog _ #[_, .agg #[.int .i64 r.f.l, .int .i64 r.f.c, .int .i64 r.t.l, .int .i64 r.t.c, .int .i64 r.k]] w _
  obtain ⟨c0, c1, c2, c3, c4⟩ := KS.out wb (Below.refl _ _)
  by_cases hF : fitL L = true
  · rw [hF] at hfit
    have HFIT : Hid (∀ W, W = wb → Calls Try.prog 11 #[.slice a n c] W fun e w' => e = .returned (.bool true) ∧ W = w') := by
      rintro W rfl
      exact hfit.mono fun e w' h => ⟨h.1, h.2.symm⟩
    obtain ⟨hs, hpl⟩ := fit_small hF
    obtain ⟨⟨⟨R1, R0⟩, R3⟩, hR⟩ : ∃ R, takeR L r = R := ⟨_, rfl⟩
    have hwf0 : ∀ x ∈ R0, ∀ y ∈ x, (Lit.int .i32 y).wf = true := by
      have := takeR_wf (lines_wf (rdl_wf h)) r
      rw [hR] at this
      exact this
    have HTW : Hid (Calls Try.prog 12 #[.slice a n c] wb fun e w' => ∃ ma mc, e = .returned (.slice ma n mc) ∧ RgC b r w' ∧ Hid ((∃ F, RdL F w' ma n mc L) ∧ Below wb.heap.size wb w')) := by
      refine (rtwin_any _ a n c L wb (h.below hB) (by omega)).mono ?_
      rintro e w' ⟨ma, mc, rfl, hf, hb⟩
      exact ⟨ma, mc, rfl, KS.out _ hb, ⟨_, hf.rdl (lines_wf (rdl_wf h))⟩, hb⟩
    have HC1 : Hid (∀ W ma mc, Hid ((∃ F, RdL F W ma n mc L) ∧ Below wb.heap.size wb W) → Calls Try.prog 13 #[.slice ma n mc, .agg #[.int .i64 r.f.l, .int .i64 r.f.c, .int .i64 r.t.l, .int .i64 r.t.c, .int .i64 r.k]] W fun e w' => ∃ ra rm rc, e = .returned (.tuple #[.agg #[.int .i64 R1, .slice ra rm rc], .int .i64 R3]) ∧ ∃ w3 pb, w'.alloc (.cells #[.int .i64 R1, .slice ra rm rc] 30) = w3 ∧ w'.heap.size = pb ∧ RgC b r w3 ∧ Hid (R0.length = rm ∧ MineG W.heap.size w'.heap.size w3 ra rm rc (lens R0) 0 ∧ Below W.heap.size W w3 ∧ (∃ F, RdL F w3 ra rm rc R0) ∧ w3.heap[pb]? = some (.cells #[.int .i64 R1, .slice ra rm rc] 30 (0, 0)) ∧ W.heap.size ≤ w'.heap.size)) := by
      rintro W ma mc hW
      obtain ⟨⟨F, hm⟩, hbW⟩ := hW.out
      refine (ktakeC F ma n mc L r W hm (by omega) hr).mono ?_
      rintro e w' ⟨ra, rm, rc, rfl, hf, hb⟩
      rw [hR] at hf ⊢
      have hb2 := btr hb (bal w' (.cells #[.int .i64 R1, .slice ra rm rc] 30))
      exact ⟨ra, rm, rc, rfl, _, _, rfl, rfl, KS.out _ (btr hbW hb2), hf.len, hf.mineG.below (bal _ _), hb2, ⟨_, (hf.rdl hwf0).below (bal _ _)⟩, heap_alloc_new _ _, hb.size⟩
    have HC2 : Hid (∀ (W1 W : World) (ma : Option Addr) (mc : Nat) (ra : Option Addr) (rm rc pb s : Nat), Hid ((∃ F, RdL F W1 ma n mc L) ∧ Below wb.heap.size wb W1) → Hid (R0.length = rm ∧ MineG W1.heap.size s W ra rm rc (lens R0) 0 ∧ Below W1.heap.size W1 W ∧ (∃ F, RdL F W ra rm rc R0) ∧ W.heap[pb]? = some (.cells #[.int .i64 R1, .slice ra rm rc] 30 (0, 0)) ∧ W1.heap.size ≤ s) → Calls Try.prog 14 #[.slice a n c, .agg #[.int .i64 r.f.l, .int .i64 r.f.c, .int .i64 r.t.l, .int .i64 r.t.c, .int .i64 r.k]] W fun e w' => ∃ qa qm qc, e = .returned (.tuple #[.agg #[.int .i64 R1, .slice qa qm qc], .int .i64 R3]) ∧ ∃ w3 qb, w'.alloc (.cells #[.int .i64 R1, .slice qa qm qc] 30) = w3 ∧ w'.heap.size = qb ∧ (w3.cell? ⟨pb, 0, none⟩ = some (.int .i64 R1) ∧ w3.cell? ⟨pb, 1, none⟩ = some (.slice ra rm rc)) ∧ (w3.cell? ⟨qb, 0, none⟩ = some (.int .i64 R1) ∧ w3.cell? ⟨qb, 1, none⟩ = some (.slice qa qm qc)) ∧ Hid (R0.length = rm ∧ MineG W1.heap.size s w3 ra rm rc (lens R0) 0 ∧ Below W1.heap.size W1 w3 ∧ (∃ F, RdL F w3 ra rm rc R0) ∧ w3.heap[pb]? = some (.cells #[.int .i64 R1, .slice ra rm rc] 30 (0, 0)) ∧ (∃ F, RdL F w3 qa qm qc R0))) := by
      rintro W1 W ma mc ra rm rc pb s h1 hW
      obtain ⟨⟨F, hm⟩, hbW1⟩ := h1.out
      obtain ⟨g1, g2, g3, ⟨G, g4⟩, g5, g6⟩ := hW.out
      refine (rtakeC _ a n c L r W (HH.out.below (btr hB (btr hbW1 g3))) (by omega) hr).mono ?_
      rintro e w' ⟨qa, qm, qc, rfl, hf, hb⟩
      rw [hR] at hf ⊢
      have hb2 := btr hb (bal w' (.cells #[.int .i64 R1, .slice qa qm qc] 30))
      have e1 := hbox g5 hb2
      have e2 := heap_alloc_new w' (.cells #[.int .i64 R1, .slice qa qm qc] 30)
      exact ⟨qa, qm, qc, rfl, _, _, rfl, rfl, ⟨cell_row e1 0, cell_row e1 1⟩, ⟨cell_row e2 0, cell_row e2 1⟩, g1, g2.below hb2, btr g3 hb2, ⟨_, g4.below hb2⟩, e1, ⟨_, (hf.rdl hwf0).below (bal _ _)⟩⟩
    have HS1 : Hid (∀ (W1 W : World) (ra : Option Addr) (rm rc pb s : Nat) (qa : Option Addr) (qm qc : Nat), Hid (R0.length = rm ∧ MineG W1.heap.size s W ra rm rc (lens R0) 0 ∧ Below W1.heap.size W1 W ∧ (∃ F, RdL F W ra rm rc R0) ∧ W.heap[pb]? = some (.cells #[.int .i64 R1, .slice ra rm rc] 30 (0, 0)) ∧ (∃ F, RdL F W qa qm qc R0)) → Calls Try.prog 15 #[.agg #[.int .i64 R1, .slice ra rm rc], .agg #[.int .i64 R1, .slice qa qm qc]] W fun e w' => e = .returned (.bool true) ∧ Hid (R0.length = rm ∧ MineG W1.heap.size s w' ra rm rc (lens R0) 0 ∧ Below W1.heap.size W1 w' ∧ w'.heap[pb]? = some (.cells #[.int .i64 R1, .slice ra rm rc] 30 (0, 0)))) := by
      rintro W1 W ra rm rc pb s qa qm qc hW
      obtain ⟨g1, g2, g3, ⟨G, g4⟩, g5, ⟨G2, g6⟩⟩ := hW.out
      refine (rsameR_any G G2 R1 R1 ra qa rm qm rc qc _ _ W g4 g6).mono ?_
      rintro e w' ⟨rfl, hb⟩
      exact ⟨by simp, g1, g2.below hb, btr g3 hb, hbox g5 hb⟩
    have HS2 : Hid (∀ W ma mc, Hid ((∃ F, RdL F W ma n mc L) ∧ Below wb.heap.size wb W) → Calls Try.prog 16 #[.slice ma n mc, .slice a n c] W fun e w' => e = .returned (.bool true) ∧ Hid (Below w.heap.size w w')) := by
      rintro W ma mc hW
      obtain ⟨⟨F, hm⟩, hbW⟩ := hW.out
      refine (rsame_any F _ ma a n n mc c _ _ W hm (HH.out.below (btr hB hbW))).mono ?_
      rintro e w' ⟨rfl, hb⟩
      exact ⟨by simp, btr hB (btr hbW hb)⟩
    have HAW : Hid (∀ W, Hid (Below w.heap.size w W) → Calls Try.prog 17 #[] W fun e w' => e = .returned (.bool true) ∧ Hid (Below w.heap.size w w')) := by
      intro W hW
      refine (awake_any HPP.out W).mono ?_
      rintro e w' ⟨rfl, hb⟩
      exact ⟨rfl, btr hW.out hb⟩
    clear hR hs hpl hF hfit h hw hr hrow hB hwb hbe HP
    go_enter Try.func3, Try.ntmps3
    go_upto_region 1 with fail
    rw [HW.out, HBE.out]
    go_upto_region 8 with (first
      | (go_at_call 11; (with_reducible refine (HFIT.out _ rfl).mono ?_); rintro e wq ⟨rfl, hwq⟩; subst hwq)
      | (go_at_call 12; (with_reducible refine HTW.out.mono ?_); rintro e w1 ⟨ma, mc, rfl, ⟨c0, c1, c2, c3, c4⟩, H1⟩)
      | (go_at_call 13; (with_reducible refine (HC1.out _ _ _ H1).mono ?_); rintro e w2 ⟨ra, rm, rc, rfl, w3, pb, hw3, hpb, ⟨c0, c1, c2, c3, c4⟩, H3⟩)
      | (go_at_call 14; (with_reducible refine (HC2.out _ _ _ _ _ _ _ _ _ H1 H3).mono ?_); rintro e w4 ⟨qa, qm, qc, rfl, w5, qb, hw5, hqb, ⟨d0, d1⟩, ⟨e0, e1⟩, H5⟩)
      | (go_at_call 15; (with_reducible refine (HS1.out _ _ _ _ _ _ _ _ _ _ H5).mono ?_); rintro e w6 ⟨rfl, H6⟩))
    have hl6 := heap_lt H6.out.2.2.2
    clear c0 c1 c2 c3 c4 d0 d1 e0 e1 hw3 hpb hw5 hqb H5 H3 HC1 HC2 HS1 HTW HFIT
    obtain ⟨B, hBB⟩ : ∃ B, w1.heap.size = B := ⟨_, rfl⟩
    have HST : Hid (R0.length = rm ∧ MineG B w2.heap.size w6 ra rm rc (lens R0) 0 ∧ Below B w1 w6 ∧ w6.heap[pb]? = some (.cells #[.int .i64 R1, .slice ra rm rc] 30 (0, 0))) := by rw [← hBB]; exact H6.out
    have HBB := Lib.hid hBB
    clear hBB H6 hl6
    obtain ⟨sz, hsz⟩ : ∃ sz, w2.heap.size = sz := ⟨_, rfl⟩
    rw [hsz] at HST
    clear hsz
    have hrmb : rm ≤ 9223372036854775807 := by
      have h1 := HST.out.2.1
      obtain ⟨vs, h2, -⟩ := h1
      rcases h2.2 with ⟨-, e0⟩ | ⟨g, cap, cur, -, -, -, hn, hc, -⟩
      · omega
      · unfold maxLen at hc; omega
    go_wp2_with fail
    go_loopw [10, 11] (fun v10 v11 wr => ∃ i : Nat, v10 = .int .i64 i ∧ i ≤ rm ∧ Hid (R0.length = rm ∧ MineG B sz wr ra rm rc (lens R0) 0 ∧ Below B w1 wr ∧ wr.heap[pb]? = some (.cells #[.int .i64 R1, .slice ra rm rc] 30 (0, 0)))) (fun v10 _ _ => rm - (intOf v10).toNat)
    case atStart => exact ⟨0, rfl, Nat.zero_le _, HST⟩
    case round =>
      obtain ⟨i, rfl, hi, hst⟩ := hrel
      clear HST
      have hp1 := cell_row hst.out.2.2.2 1
      have hpl := heap_lt hst.out.2.2.2
      by_cases hlt : i < rm
      · obtain ⟨m, hm⟩ : ∃ m, (lens R0)[i]? = some m := ⟨_, List.getElem?_eq_getElem (by rw [lens_len, hst.out.1]; exact hlt)⟩
        have HMI := Lib.hid hm
        obtain ⟨wq, hwq⟩ : ∃ x, x = wr := ⟨_, rfl⟩
        subst hwq
        clear hm
        go_wp2_with fail
        go_loopw [11] (fun v11 wr => ∃ k : Nat, v11 = .int .i64 k ∧ k ≤ m ∧ Hid (R0.length = rm ∧ MineG B sz wr ra rm rc (lens R0) 0 ∧ Below B w1 wr ∧ wr.heap[pb]? = some (.cells #[.int .i64 R1, .slice ra rm rc] 30 (0, 0)))) (fun v11 _ => m - (intOf v11).toNat)
        case atStart => exact ⟨0, rfl, Nat.zero_le _, hst⟩
        case round =>
          obtain ⟨k, rfl, hk, hin⟩ := hrel
          clear hst hp1 hpl
          have hp1 := cell_row hin.out.2.2.2 1
          have hpl := heap_lt hin.out.2.2.2
          obtain ⟨g, ra', rc', rfl, hgl, hgB, hcell, hrow⟩ := hin.out.2.1.get (Nat.zero_le _) HMI.out
          have hmb : m ≤ 9223372036854775807 := by
            obtain ⟨xs, h2, -⟩ := hrow
            rcases h2.2 with ⟨-, e0⟩ | ⟨g, cap, cur, -, -, -, hn, hc, -⟩
            · omega
            · unfold maxLen at hc; omega
          by_cases hlt2 : k < m
          · obtain ⟨g2, cur, rfl, h2B, h2s, h2g, ⟨u, h2c⟩, h2f, h2l⟩ := hrow.get hlt2
            have hne : ¬ pb = g2 := by
              intro e
              have h1 := hin.out.2.2.2
              rw [e, h2g] at h1
              injection h1 with h1
              injection h1 with _ h1
              exact absurd h1 (by decide)
            have HNX : Hid (R0.length = rm ∧ MineG B sz (wr.setCell ⟨g2, k, none⟩ (.int .i32 7)) (some ⟨g, 0, none⟩) rm rc (lens R0) 0 ∧ Below B w1 (wr.setCell ⟨g2, k, none⟩ (.int .i32 7)) ∧ (wr.setCell ⟨g2, k, none⟩ (.int .i32 7)).heap[pb]? = some (.cells #[.int .i64 R1, .slice (some ⟨g, 0, none⟩) rm rc] 30 (0, 0))) :=
              ⟨hin.out.1, hin.out.2.1.set h2g k _, hin.out.2.2.1.setCell h2B _, (((Fr.refl (fun z => z = g2) wr).setCell ⟨g2, k, none⟩ (.int .i32 7) (fun _ => rfl)).block pb hpl hne).trans hin.out.2.2.2⟩
            clear hin hrow h2g hne
            go_wp2_with fail
            go_roundw
            case rel => exact ⟨k + 1, by go_num, by omega, HNX⟩
            case measure => simp [intOf]; omega
          · obtain rfl : k = m := by omega
            clear hrow
            go_wp2_with fail
            go_roundw
            case rel => exact ⟨i + 1, by go_num, by omega, hin⟩
            case measure => simp [intOf]; omega
      · obtain rfl : i = rm := by omega
        have H9 : Hid ((∃ F, RdL F wr ma n mc L) ∧ Below wb.heap.size wb wr) := by
          obtain ⟨⟨F, hm⟩, hb⟩ := H1.out
          have h9 := hst.out.2.2.1
          rw [← HBB.out] at h9
          exact ⟨⟨_, hm.below h9⟩, btr hb h9⟩
        clear hst
        go_wp2_with (first
          | (go_at_call 16; (with_reducible refine (HS2.out _ _ _ H9).mono ?_); rintro e w7 ⟨rfl, H7⟩)
          | (go_at_call 17; (with_reducible refine (HAW.out _ H7).mono ?_); rintro e w8 ⟨rfl, H8⟩))
        go_ret
        exact ⟨rfl, H8.out⟩
  · have hF2 : fitL L = false := by simpa using hF
    rw [hF2] at hfit
    have HFIT : Hid (∀ W, W = wb → Calls Try.prog 11 #[.slice a n c] W fun e w' => e = .returned (.bool false) ∧ W = w') := by
      rintro W rfl
      exact hfit.mono fun e w' h => ⟨h.1, h.2.symm⟩
    clear hF hF2 hfit h hw hr hrow hB hwb hbe HP
    go_enter Try.func3, Try.ntmps3
    go_upto_region 1 with fail
    rw [HW.out, HBE.out]
    go_wp2_with (go_at_call 11; (with_reducible refine (HFIT.out _ rfl).mono ?_); rintro e wq ⟨rfl, hwq⟩; subst hwq)
    go_ret
    exact ⟨rfl, HB.out⟩
end Go.Proofs.Ytfldjoiohejilaa.U
