/-
  The document's Do.
-/
import Derived.Test.YtalhiedbhcklgaaVDo
import Derived.Deep.RegionHeld3
import Derived.BigQuiet
namespace Go.Proofs.Ytalhiedbhcklgaa.U
open Go.RowKit
set_option linter.unusedVariables false
set_option linter.unusedSimpArgs false
set_option maxRecDepth 100000

theorem MyL.base {B B' n c : Nat} {w : World} {a : Option Addr} {L : List (List Int)} (h : MyL B w a n c L) (hB : B' ≤ B) : MyL B' w a n c L := by
  obtain ⟨vs, h1, h2, h3⟩ := h
  exact ⟨vs, own_mono h1 hB, h2, fun i x hx => by obtain ⟨v, e1, e2⟩ := h3 i x hx; exact ⟨v, e1, own_mono e2 hB⟩⟩
theorem doC_fit (L : List (List Int)) (c : Ch) : doC L c = if fitB L c = true then (if L.length - c.old.length + c.now.length = 0 then ([], 1) else (L.take c.pos.toNat ++ (c.now ++ L.drop (c.pos.toNat + c.old.length)), 0)) else ([], 2) := by
  unfold doC fitB
  simp only [decide_eq_true_eq]

set_option maxHeartbeats 1600000 in
theorem rdo_any (F G : Nat → Prop) (a oa na : Option Addr) (n cap oc nc : Nat) (L : List (List Int)) (c : Ch) (w : World) (h : RdL F w a n cap L) (ho : RdL G w oa c.old.length oc c.old) (hn : RdL G w na c.now.length nc c.now) (hp : i64b c.pos) (hs : sizeN (lens L) + sizeN (lens c.now) ≤ 1048576) :
    Calls Try.prog 14 #[.slice a n cap, .agg #[.int .i64 c.pos, .slice oa c.old.length oc, .slice na c.now.length nc]] w fun e w' => ∃ a' c', e = .returned (.tuple #[.slice a' (doC L c).1.length c', .int .i64 (doC L c).2]) ∧ MyL w.heap.size w' a' (doC L c).1.length c' (doC L c).1 ∧ Below w.heap.size w w' := by
  obtain ⟨wb, hwb⟩ : ∃ wb, w.alloc (.cells #[.int .i64 c.pos, .slice oa c.old.length oc, .slice na c.now.length nc] 24) = wb := ⟨_, rfl⟩
  have hB : Below w.heap.size w wb := by rw [← hwb]; exact (Below.refl _ _).alloc (Nat.le_refl _) _
  have hsz : wb.heap.size = w.heap.size + 1 := by rw [← hwb]; simp
  have g1 : wb.heap[w.heap.size]? = some (.cells #[.int .i64 c.pos, .slice oa c.old.length oc, .slice na c.now.length nc] 24 (0, 0)) := by rw [← hwb]; exact heap_alloc_new w _
  have HC : Hid (∀ W, Below wb.heap.size wb W → W.cell? ⟨w.heap.size, 0, none⟩ = some (.int .i64 c.pos) ∧ W.cell? ⟨w.heap.size, 1, none⟩ = some (.slice oa c.old.length oc) ∧ W.cell? ⟨w.heap.size, 2, none⟩ = some (.slice na c.now.length nc) ∧ w.heap.size < W.heap.size) := by
    intro W hW
    have hk : W.heap[w.heap.size]? = _ := (hW.block _ (by omega)).trans g1
    exact ⟨cell_row hk 0, cell_row hk 1, cell_row hk 2, heap_lt hk⟩
  obtain ⟨c0, c1, c2, l0⟩ := HC.out wb (Below.refl _ _)
  have hnm := h.small
  have hon := ho.small
  have hnn := hn.small
  have hl := h.len
  have hcn : n ≤ cap := by obtain ⟨vs, hv, _⟩ := h; exact hv.2.1
  have hcm : cap ≤ 9223372036854775807 := by obtain ⟨vs, hv, _⟩ := h; have := hv.2.2.1; unfold maxLen at this; omega
  have hcnt := size_count L
  have hcnt2 := size_count c.now
  obtain ⟨hp1, hp2⟩ := hp
  have hdo := doC_fit L c
  have HRF : Hid (fitB L c = decide (0 ≤ c.pos ∧ c.pos ≤ n ∧ (c.old.length : Int) ≤ n - c.pos ∧ (L.drop c.pos.toNat).take c.old.length = c.old)) := by
    show _ = _
    unfold fitB
    rw [hl]
  have HW := Lib.hid hwb
  have HB := Lib.hid hB
  have H := Lib.hid (h.below hB)
  have HO := Lib.hid (ho.below hB)
  have HN := Lib.hid (hn.below hB)
  have HL := Lib.hid hl
  have HS := Lib.hid hs
  have HDO := Lib.hid hdo
  obtain ⟨on, hx⟩ : ∃ x, c.old.length = x := ⟨_, rfl⟩
  obtain ⟨nn, hy⟩ : ∃ x, c.now.length = x := ⟨_, rfl⟩
  obtain ⟨p, hpe⟩ : ∃ x, c.pos = x := ⟨_, rfl⟩
  obtain ⟨R, hR⟩ : ∃ R, fitB L c = R := ⟨_, rfl⟩
  obtain ⟨D, hD⟩ : ∃ D, doC L c = D := ⟨_, rfl⟩
  have HX := Lib.hid hx
  have HY := Lib.hid hy
  rw [hD, hR, hx, hy, hpe] at HDO
  rw [hR, hx, hpe] at HRF
  rw [hx, hy, hpe] at HW HC
  rw [hx] at c1 HO hon
  rw [hy] at c2 HN hnn hcnt2
  rw [hpe] at c0 hp1 hp2
  rw [hx, hy, hpe, hD]
  clear h ho hn hwb hB hsz g1 hl hs hdo hx hy hpe hR hD
  go_enter Try.func14, Try.ntmps14
  go_upto_region 1 with fail
  rw [HW.out]
  go_cut [43] (fun v wx => v = .bool (!R) ∧ Hid (Below wb.heap.size wb wx))
  case first =>
    by_cases q1 : p < 0
    · have HF : Hid (R = false) := by rw [Hid, HRF.out, decide_eq_false_iff_not]; omega
      have hd1 : decide (p < 0) = true := by simpa using q1
      clear q1
      go_quiet (fail)
      go_wp2_with fail
      go_meet
      exact ⟨by rw [HF.out]; rfl, bdrewN (Below.refl _ _) _⟩
    · have hd1 : decide (p < 0) = false := by simpa using q1
      by_cases q2 : (n : Int) < p
      · have HF : Hid (R = false) := by rw [Hid, HRF.out, decide_eq_false_iff_not]; omega
        have hd2 : decide ((n : Int) < p) = true := by simpa using q2
        clear q1 q2
        go_quiet (fail)
        go_wp2_with fail
        go_meet
        exact ⟨by rw [HF.out]; rfl, bdrewN (Below.refl _ _) _⟩
      · have hd2 : decide ((n : Int) < p) = false := by simpa using q2
        have y0 : IntKind.i64.wrap ((n : Int) - p) = (n : Int) - p := by rw [IntKind.wrap_i64]; omega
        by_cases q3 : (n : Int) - p < (on : Int)
        · have HF : Hid (R = false) := by rw [Hid, HRF.out, decide_eq_false_iff_not]; omega
          have hd3 : decide ((n : Int) - p < (on : Int)) = true := by simpa using q3
          clear q1 q2 q3
          go_quiet (fail)
          go_wp2_with fail
          go_meet
          exact ⟨by rw [HF.out]; rfl, bdrewN (Below.refl _ _) _⟩
        · have hd3 : decide ((n : Int) - p < (on : Int)) = false := by simpa using q3
          obtain ⟨k, rfl⟩ : ∃ k : Nat, p = k := ⟨p.toNat, by omega⟩
          have hkn : k + on ≤ n := by omega
          have hd2n : decide (n < k) = false := by simp; omega
          have HEQ := rsame_any F G (if cap = k then a else a.map (·.add (k * 1))) oa on on (cap - k) oc ((L.drop k).take on) c.old wb.drew ((H.out.mid k on hkn).below (Below.refl _ _).drew) (HO.out.below (Below.refl _ _).drew)
          have HRE : Hid (R = decide ((L.drop k).take on = c.old)) := by
            rw [Hid, HRF.out, Bool.eq_iff_iff, decide_eq_true_eq, decide_eq_true_eq, Int.toNat_natCast]
            constructor
            · rintro ⟨_, _, _, e⟩; exact e
            · intro e; exact ⟨by omega, by omega, by omega, e⟩
          rw [← HRE.out] at HEQ
          have HEK : ∀ (x : Option Addr), Calls Try.prog 15 #[.slice x on (cap - k), .slice oa on oc] wb.drew (fun e w' => e = .returned (.bool R) ∧ Below wb.drew.heap.size wb.drew w') → Hid (Calls Try.prog 15 #[.slice x on (cap - k), .slice oa on oc] wb.drew fun e w' => e = .returned (.bool R) ∧ w'.cell? ⟨w.heap.size, 0, none⟩ = some (.int .i64 (k : Nat)) ∧ w'.cell? ⟨w.heap.size, 1, none⟩ = some (.slice oa on oc) ∧ Below wb.heap.size wb w') := by
            intro x hx
            refine hx.mono ?_
            rintro e w' ⟨rfl, hb⟩
            have hb2 : Below wb.heap.size wb w' := (Below.refl wb.heap.size wb).drew.trans hb
            obtain ⟨m0, m1, _, _⟩ := HC.out w' hb2
            exact ⟨rfl, m0, m1, hb2⟩
          have y1 : IntKind.i64.wrap ((k : Int) + (on : Int)) = (k : Int) + (on : Int) := by rw [IntKind.wrap_i64]; omega
          have y2 : 0 ≤ (k : Int) + (on : Int) := by omega
          have y3 : ((k : Int) + (on : Int)).toNat = k + on := by omega
          have y4 : (k : Int) ≤ (k : Int) + (on : Int) := by omega
          have y5 : (k : Int) + (on : Int) ≤ (cap : Int) := by omega
          by_cases hck : cap = k
          · rw [if_pos hck] at HEQ
            have HE := HEK _ HEQ
            have HCK : (cap = k) = True := by simpa using hck
            clear HEQ HEK hck q1 q2 q3 HRE
            go_still_tail 34, (by kernel_rfl)
            change wpList _ _ _ _ _ wb.drew
            go_wp2_with (go_at_call 15; refine HE.out.mono ?_; rintro e w2 ⟨rfl, m0, m1, hbm⟩)
            go_meet
            exact ⟨by first | rfl | simp, hbm⟩
          · rw [if_neg hck] at HEQ
            simp only [Nat.mul_one] at HEQ
            have HE := HEK _ HEQ
            clear HEQ HEK q1 q2 q3 HRE
            go_still_tail 34, (by kernel_rfl)
            change wpList _ _ _ _ _ wb.drew
            go_wp2_with fail
            (with_reducible refine HE.out.mono ?_)
            rintro e w2 ⟨rfl, m0, m1, hbm⟩
            go_wp2_with fail
            go_meet
            exact ⟨by first | rfl | simp, hbm⟩
  case rest =>
    obtain ⟨rfl, hbc⟩ := hcut
    have hbw : Below w.heap.size w wc := HB.out.trans (hbc.out.mono HB.out.size)
    obtain ⟨x0, x1, x2, xl⟩ := HC.out wc hbc.out
    cases R with
    | false =>
      have HD : Hid (D = ([], 2)) := by have := HDO.out; rw [if_neg (by simp)] at this; exact this
      have HBW := Lib.hid hbw
      clear hbw hbc c0 c1 c2 l0
      go_wp2_with fail
      go_ret2
      rw [HD.out]
      exact ⟨none, 0, rfl, MyL.nil _ _, HBW.out⟩
    | true =>
      have hfit := of_decide_eq_true HRF.out.symm
      obtain ⟨f1, f2, f3, f4⟩ := hfit
      obtain ⟨k, rfl⟩ : ∃ k : Nat, p = k := ⟨p.toNat, by omega⟩
      have hkn : k + on ≤ n := by omega
      have HD : Hid (D = if L.length - on + nn = 0 then ([], 1) else (L.take k ++ (c.now ++ L.drop (k + on)), 0)) := by have := HDO.out; rw [if_pos rfl, Int.toNat_natCast] at this; exact this
      have hn20 : n ≤ 1048576 := by have := HS.out; have := HL.out; omega
      have hnn20 : nn ≤ 1048576 := by have := HS.out; omega
      have y1 : IntKind.i64.wrap ((n : Int) - (on : Int)) = (n : Int) - (on : Int) := by rw [IntKind.wrap_i64]; omega
      have y2 : IntKind.i64.wrap ((n : Int) - (on : Int) + (nn : Int)) = (n : Int) - (on : Int) + (nn : Int) := by rw [IntKind.wrap_i64]; omega
      have y3 : IntKind.i64.wrap ((k : Int) + (on : Int)) = (k : Int) + (on : Int) := by rw [IntKind.wrap_i64]; omega
      by_cases hz : (n : Int) - (on : Int) + (nn : Int) = 0
      · have HD0 : Hid (D = ([], 1)) := by
          have := HD.out
          rw [HL.out, if_pos (by omega)] at this
          exact this
        have HBW := Lib.hid hbw
        have hz1 : ((n : Int) - (on : Int) + (nn : Int) == 0) = true := by simpa using hz
        clear hbw hbc c0 c1 c2 l0 f4 HD
        go_wp2_with fail
        go_ret2
        rw [HD0.out]
        exact ⟨none, 0, rfl, MyL.nil _ _, HBW.out⟩
      · have HD0 : Hid (D = (L.take k ++ (c.now ++ L.drop (k + on)), 0)) := by
          have := HD.out
          rw [HL.out, if_neg (by omega)] at this
          exact this
        have hz1 : ((n : Int) - (on : Int) + (nn : Int) == 0) = false := by simpa using hz
        have hkc : k ≤ cap := by omega
        have hkqc : k + on ≤ cap := by omega
        have HT1 := Lib.hid (rtwin_any _ a k cap (L.take k) wc ((H.out.below hbc.out).take k (by omega)) (by have := size_take_le L k; have := HS.out; omega))
        have HBC := hbc
        have HBW := Lib.hid hbw
        clear hbw hbc c0 c1 c2 l0 f4 HD
        go_wp2_with fail
        refine HT1.out.mono ?_
        rintro e w1 ⟨a1, c1, rfl, hf1, hb1⟩
        have hsb := HBC.out.size
        obtain ⟨a2, c2, w2, hrun2, hm2, hb2⟩ := my_app w1 wb.heap.size none 0 0 [] a1 k c1 (L.take k) (MyL.nil _ _) (hf1.my hsb) (Nat.le_trans hsb hb1.size) (by omega)
        rw [Nat.zero_add] at hrun2 hm2
        rw [List.nil_append] at hm2
        have hb02 : Below wb.heap.size wb w2 := (HBC.out.trans (hb1.mono hsb)).trans hb2
        have HT2 := Lib.hid (rtwin_any G na nn nc c.now w2 (HN.out.below hb02) (by have := HS.out; omega))
        have HM2 := Lib.hid hm2
        have HB2 := Lib.hid hb02
        have HRUN2 := Lib.hid hrun2
        obtain ⟨z0, z1, z2, zl⟩ := HC.out w2 hb02
        clear HT1 hf1 hb1 hrun2 hm2 hb2 hb02 x0 x1 x2 xl hsb
        go_wp2_with (at_builtin; go_must (with_reducible refine Lib.wpList_append_run _ rfl (.tmp 55) (.tmp 60) _ _ rfl _ _ rfl rfl _ _ (HRUN2.out _) ?_))
        refine HT2.out.mono ?_
        rintro e w3 ⟨a3, c3, rfl, hf3, hb3⟩
        obtain ⟨a4, c4, w4, hrun4, hm4, hb4⟩ := my_app w3 wb.heap.size a2 k c2 (L.take k) a3 nn c3 c.now (HM2.out.below hb3) (hf3.my HB2.out.size) (Nat.le_trans HB2.out.size hb3.size) (by omega)
        have hb04 : Below wb.heap.size wb w4 := (HB2.out.trans (hb3.mono HB2.out.size)).trans hb4
        obtain ⟨ta, hta, htr⟩ : ∃ ta, (if cap = k + on then a else a.map (·.add ((k + on) * 1))) = ta ∧ RdL F w4 ta (n - (k + on)) (cap - (k + on)) (L.drop (k + on)) := ⟨_, rfl, (H.out.below hb04).drop (k + on) hkn⟩
        have HT3 := Lib.hid (rtwin_any F ta (n - (k + on)) (cap - (k + on)) (L.drop (k + on)) w4 htr (by have := sizeN_drop_le2 (lens L) (k + on); have := HS.out; unfold lens at *; rw [← List.map_drop] at *; omega))
        have HTA := Lib.hid hta
        clear hta htr
        obtain ⟨x0, x1, x2, xl⟩ := HC.out w4 hb04
        have HM4 := Lib.hid hm4
        have HB4 := Lib.hid hb04
        have HRUN4 := Lib.hid hrun4
        clear z0 z1 z2 zl HT2 HRUN2 hf3 hb3 hrun4 hm4 hb4 hb04 HM2
        have y4 : (0 : Int) ≤ (k : Int) + (on : Int) := by omega
        have y5 : (k : Int) + (on : Int) ≤ (n : Int) := by omega
        have y6 : ((k : Int) + (on : Int)).toNat = k + on := by omega
        obtain ⟨E, hE⟩ : ∃ E, n - (k + on) = E := ⟨_, rfl⟩
        have hEb : E ≤ 1048576 := by omega
        rw [hE] at HT3
        have HEE := Lib.hid hE
        clear hE
        have hcase : (cap = k + on ∧ Hid (ta = a)) ∨ (cap ≠ k + on ∧ Hid (ta = Option.map (fun x : Addr => x.add (k + on)) a)) := by
          by_cases hcn : cap = k + on
          · exact .inl ⟨hcn, by have := HTA.out; rw [if_pos hcn] at this; exact this.symm⟩
          · exact .inr ⟨hcn, by have := HTA.out; rw [if_neg hcn, Nat.mul_one] at this; exact this.symm⟩
        clear HTA
        rcases hcase with ⟨hcn, HTE⟩ | ⟨hcn, HTE⟩
        case' inl =>
          have hcn2 := eq_true hcn
          have HCN := Lib.hid hcn
          clear hcn
          go_wp2_with (at_builtin; go_must (with_reducible refine Lib.wpList_append_run _ rfl (.tmp 62) (.tmp 65) _ _ rfl _ _ rfl rfl _ _ (HRUN4.out _) ?_))
          rw [HEE.out, ← HTE.out]
        case' inr =>
          go_wp2_with (at_builtin; go_must (with_reducible refine Lib.wpList_append_run _ rfl (.tmp 62) (.tmp 65) _ _ rfl _ _ rfl rfl _ _ (HRUN4.out _) ?_))
          rw [HEE.out, ← HTE.out]
        all_goals
          refine HT3.out.mono ?_
          rintro e w5 ⟨a5, c5, rfl, hf5, hb5⟩
          obtain ⟨a6, c6, w6, hrun6, hm6, hb6⟩ := my_app w5 wb.heap.size a4 (k + nn) c4 (L.take k ++ c.now) a5 E c5 (L.drop (k + on)) (HM4.out.below hb5) (hf5.my HB4.out.size) (Nat.le_trans HB4.out.size hb5.size) (by omega)
          have hb06 : Below w.heap.size w w6 := HB.out.trans (((HB4.out.trans (hb5.mono HB4.out.size)).trans hb6).mono HB.out.size)
          have HRUN6 := Lib.hid hrun6
          have HFIN : Hid (∃ a' c', (Ending.returned (.tuple #[.slice a6 (k + nn + E) c6, .int .i64 0]) : Ending) = .returned (.tuple #[.slice a' D.1.length c', .int .i64 D.2]) ∧ MyL w.heap.size w6 a' D.1.length c' D.1 ∧ Below w.heap.size w w6) := by
            have hlen := hm6.len
            obtain ⟨A, hA⟩ : ∃ A, L.take k ++ c.now ++ L.drop (k + on) = A := ⟨_, rfl⟩
            have hDA : D = (A, 0) := by rw [← hA, List.append_assoc]; exact HD0.out
            rw [hA] at hm6 hlen
            obtain ⟨K, hK⟩ : ∃ K, k + nn + E = K := ⟨_, rfl⟩
            rw [hK] at hm6 hlen ⊢
            subst hDA
            subst hlen
            exact ⟨a6, c6, rfl, hm6.base HB.out.size, hb06⟩
          clear hf5 hb5 hrun6 hm6 hb6 hb06 HT3 HM4 x0 x1 x2 xl HRUN4 HTE
          go_wp2_with (at_builtin; go_must (with_reducible refine Lib.wpList_append_run _ rfl (.tmp 67) (.tmp 76) _ _ rfl _ _ rfl rfl _ _ (HRUN6.out _) ?_))
          go_ret2
          exact HFIN.out
end Go.Proofs.Ytalhiedbhcklgaa.U
