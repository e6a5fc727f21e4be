/-
  The document's Find. (MADE by wip/tools/gen_bfind.py.)
-/
import Derived.Test.YthlhgkeodaifcaaDoorBBrA
import Derived.Test.YthlhgkeodaifcaaDoorBBlocks
import Derived.Test.YthlhgkeodaifcaaDoorBBrk
import Derived.Test.YthlhgkeodaifcaaDoorBQuo
namespace Go.Proofs.YthlhgkeodaifcaaDoor.U
open Go.RowKit
set_option linter.unusedVariables false
set_option linter.unusedSimpArgs false
set_option maxRecDepth 100000

theorem results_cctt {fn : Func} {p q r s : Tmp} {ty tq : TypeId} (h : fn.results = #[.cell p ty, .cell q tq, .tmp r, .tmp s]) (tmps : Array Value) (P : Program) (w : World) :
    (results fn tmps).run P w = ((asAddr (tmps.getD p undef)).run P w).andThen fun a w₁ => ((loadVar ty a).run P w₁).andThen fun v w₂ =>
      ((asAddr (tmps.getD q undef)).run P w₂).andThen fun b w₃ => ((loadVar tq b).run P w₃).andThen fun u w₄ => .ok (.tuple #[v, u, tmps.getD r undef, tmps.getD s undef]) w₄ := by
  simp only [results, h]
  simp [Sem.run_bind, Result.andThen]
/-- what lies in the boxes of Find: the place, two results -/
def FdS (w : World) (c1 c2 : Nat) (W : World) : Prop := Below w.heap.size w W ∧ W.heap[w.heap.size]? = some (.cells #[.int .i64 (c1 : Nat), .int .i64 (c2 : Nat)] 24 (0, 0)) ∧ W.heap[w.heap.size + 1]? = some (.cells #[.int .i64 0, .int .i64 0] 24 (0, 0)) ∧ W.heap[w.heap.size + 1 + 1]? = some (.cells #[.int .i64 0, .int .i64 0] 24 (0, 0))
theorem FdS.below {w W W2 : World} {c1 c2 : Nat} (h : FdS w c1 c2 W) (hb : Below W.heap.size W W2) : FdS w c1 c2 W2 := by
  obtain ⟨h1, h2, h3, h4⟩ := h
  exact ⟨btr h1 hb, (hb.block _ (Array.getElem?_eq_some_iff.1 h2).1).trans h2, (hb.block _ (Array.getElem?_eq_some_iff.1 h3).1).trans h3, (hb.block _ (Array.getElem?_eq_some_iff.1 h4).1).trans h4⟩
def fdO : Option (Pl × Pl × Int) → Pl × Pl × Int × Bool
  | none => ((0, 0), (0, 0), 0, false)
  | some (a, b, k) => (a, b, k, true)
theorem fdR_of {L : List (List Int)} {p : Pl} {key : Int} {around : Bool} (hL : L ≠ []) {r : Option (Pl × Pl × Int)} (h : fdP L p key around = r) : fdR L p key around = fdO r := by
  subst h
  unfold fdR
  rw [if_neg hL]
  cases fdP L p key around <;> rfl
theorem brk_pos {key o c : Int} (h : brk key = some (o, c)) : o ≠ 0 ∧ o ≠ c := by
  refine ⟨?_, brk_ne h⟩
  unfold brk at h
  split at h
  · cases h; decide
  split at h
  · cases h; decide
  split at h
  · cases h; decide
  split at h
  · cases h; decide
  · cases h
theorem fdP_br {L : List (List Int)} {p : Pl} {key : Int} {around : Bool} (h1 : key ≠ 119) (h2 : key ≠ 87) (h3 : key ≠ 34) (h4 : key ≠ 39) (h5 : key ≠ 96) (h6 : key ≠ 112) : fdP L p key around = match brk key with
    | none => none
    | some (o, c) => (bracketsP L p o c around).map fun r => (r.1, r.2, 0) := by
  unfold fdP
  rw [if_neg (by omega), if_neg (by omega), if_neg (by omega)]
  cases brk key <;> rfl
theorem fdP_w {L : List (List Int)} {p : Pl} {key : Int} {around : Bool} (h : key = 119 ∨ key = 87) : fdP L p key around = (wordsP (lnL L p.1) p.2 (key == 87) around).map fun r => ((p.1, r.1), (p.1, r.2), 0) := by
  unfold fdP
  rw [if_pos h]
theorem fdP_q {L : List (List Int)} {p : Pl} {key : Int} {around : Bool} (h : key = 34 ∨ key = 39 ∨ key = 96) : fdP L p key around = (quotesP (lnL L p.1) p.2 key around).map fun r => ((p.1, r.1), (p.1, r.2), 0) := by
  unfold fdP
  rw [if_neg (by omega), if_pos h]
theorem fdP_p {L : List (List Int)} {p : Pl} {around : Bool} : fdP L p 112 around = (blocksP L p.1 around).map fun r => ((r.1, 0), (r.2, 0), 1) := by
  unfold fdP
  rw [if_neg (by omega), if_neg (by omega), if_pos rfl]
set_option maxHeartbeats 4000000 in
theorem rfind_any : FindC 10 := by
  intro F a n c L q key around w hg h hq hkb hz
  obtain ⟨u, v⟩ := q
  show Calls Tryd.prog _ #[.slice a n c, .agg #[.int .i64 u, .int .i64 v], .int .i32 key, .bool around] w _
  have hl := h.len
  have hsm := h.small
  clear hg
  obtain ⟨V, hV⟩ : ∃ V, fdV (fdR L (clipP L u v) key around) = V := ⟨_, rfl⟩
  simp only
  rw [hV]
  obtain ⟨w0, hw0, hsz0, g1, g2, hb0⟩ := ltwo w (.cells #[.int .i64 u, .int .i64 v] 24) (.cells #[.int .i64 0, .int .i64 0] 24)
  obtain ⟨w1, hw1, hsz1, g3, hb1'⟩ := lone w0 (.cells #[.int .i64 0, .int .i64 0] 24)
  rw [hsz0] at g3
  replace g1 := (hb1'.block _ (Array.getElem?_eq_some_iff.1 g1).1).trans g1
  replace g2 := (hb1'.block _ (Array.getElem?_eq_some_iff.1 g2).1).trans g2
  have hb1 : Below w.heap.size w w1 := btr hb0 hb1'
  have HW1 : Hid (((w.alloc (.cells #[.int .i64 u, .int .i64 v] 24)).alloc (.cells #[.int .i64 0, .int .i64 0] 24)).alloc (.cells #[.int .i64 0, .int .i64 0] 24) = w1) := by show _ = _; rw [hw0, hw1]
  have HB1 := Lib.hid hb1
  have G1 : Hid (w1.heap[w.heap.size]? = some (.cells #[.int .i64 u, .int .i64 v] 24 (0, 0))) := g1
  have G2 : Hid (w1.heap[w.heap.size + 1]? = some (.cells #[.int .i64 0, .int .i64 0] 24 (0, 0))) := g2
  have G3 : Hid (w1.heap[w.heap.size + 1 + 1]? = some (.cells #[.int .i64 0, .int .i64 0] 24 (0, 0))) := g3
  obtain ⟨x0, x1, xf0, xf1⟩ := row2 g1
  obtain ⟨y0, y1, yf0, yf1⟩ := row2 g2
  obtain ⟨z0, z1, zf0, zf1⟩ := row2 g3
  have n1 : ¬ w.heap.size = w.heap.size + 1 := by omega
  have n2 : ¬ w.heap.size = w.heap.size + 1 + 1 := by omega
  have n3 : ¬ w.heap.size + 1 = w.heap.size + 1 + 1 := by omega
  by_cases hn0 : n = 0
  · have e0 : ((n : Int) == 0) = true := by simp; omega
    have hL : L = [] := List.eq_nil_of_length_eq_zero (by omega)
    have HV : Hid (V = .tuple #[.agg #[.int .i64 0, .int .i64 0], .agg #[.int .i64 0, .int .i64 0], .int .i64 0, .bool false]) := by
      show _ = _
      rw [← hV]
      unfold fdR
      rw [if_pos hL]
      rfl
    clear h g1 g2 g3 hb0 hb1 hb1' hw0 hw1 hl hz hsz0 hsz1 hV hL hn0 hq hkb
    go_enter Tryd.func10, Tryd.ntmps10
    go_upto_region 1 with fail
    rw [HW1.out]
    go_wp2_with fail
    refine bodyPost_ret (v := .tuple #[.agg #[.int .i64 0, .int .i64 0], .agg #[.int .i64 0, .int .i64 0], .int .i64 0, .bool false]) ?_ rfl ⟨by rw [HV.out], ?_⟩
    · rw [results_cctt rfl]
      go_simp
    · have h2 := HB1.out
      (repeat' (first | exact h2 | omega | with_reducible refine Below.drew ?_ | with_reducible refine setCell_below ?_ _ _ _ ?_))
  have e0 : ((n : Int) == 0) = false := by simp; omega
  have hL : L ≠ [] := by rintro rfl; simp at hl; omega
  have hok := clipP_ok hL u v
  have h1 := h.below hb1
  obtain ⟨⟨c1, c2⟩, hcp⟩ : ∃ p, clipP L u v = p := ⟨_, rfl⟩
  rw [hcp] at hok hV
  have HCL : Hid (Calls Tryd.prog 12 #[.slice a n c, .agg #[.int .i64 u, .int .i64 v]] w1 fun e w' => e = .returned (.agg #[.int .i64 (c1 : Nat), .int .i64 (c2 : Nat)]) ∧ Below w1.heap.size w1 w') := by
    have := rclip_any _ a n c L ⟨u, v⟩ w1 h1 hq
    simp only [hcp] at this
    exact this
  have hc1 : c1 < L.length := hok.1
  have hc1n : c1 < n := by omega
  have hc2 := hok.2
  simp only at hc2
  obtain ⟨b, off, ra, rc, rfl, -, hbl, l0, hrd⟩ := okP.line (p := (c1, c2)) h hok (Below.refl _ w)
  simp only at l0 hrd
  have HRD : Hid (∀ W, Below w.heap.size w W → Rd .i32 W ra (lnL L c1).length rc (lnL L c1)) := fun W hb => hrd.below hb
  have HRL := Lib.hid (fun W (hb : Below w.heap.size w W) => h.below hb)
  have HBL := Lib.hid hbl
  have HL0 := Lib.hid l0
  have dC : ¬ (c1 : Int) < 0 := by omega
  have dD : decide ((c1 : Int) < 0) = false := by simp
  have HST : Hid (∀ w3 : World, Below w1.heap.size w1 w3 → FdS w c1 c2 ((w3.setCell ⟨w.heap.size, 0, none⟩ (.int .i64 (c1 : Nat))).setCell ⟨w.heap.size, 1, none⟩ (.int .i64 (c2 : Nat)))) := by
    intro w3 hb
    refine ⟨setCell_below (setCell_below (btr HB1.out hb) _ _ _ (Nat.le_refl _)) _ _ _ (Nat.le_refl _), heap_set (heap_set ((hb.block _ (Array.getElem?_eq_some_iff.1 G1.out).1).trans G1.out) 0 _) 1 _, ?_, ?_⟩
    · exact ((Below.heap_setCell _ _ _ _ (by show ¬ w.heap.size + 1 = w.heap.size; omega)).trans (Below.heap_setCell _ _ _ _ (by show ¬ w.heap.size + 1 = w.heap.size; omega))).trans ((hb.block _ (Array.getElem?_eq_some_iff.1 G2.out).1).trans G2.out)
    · exact ((Below.heap_setCell _ _ _ _ (by show ¬ w.heap.size + 1 + 1 = w.heap.size; omega)).trans (Below.heap_setCell _ _ _ _ (by show ¬ w.heap.size + 1 + 1 = w.heap.size; omega))).trans ((hb.block _ (Array.getElem?_eq_some_iff.1 G3.out).1).trans G3.out)
  obtain ⟨x, hx⟩ : ∃ x, lnL L c1 = x := ⟨_, rfl⟩
  rw [hx] at HRD HL0 hc2
  obtain ⟨m, hm⟩ : ∃ m, x.length = m := ⟨_, rfl⟩
  rw [hm] at HRD HL0 hc2
  have hms : m ≤ 9223372036854775807 := by have := (HRD.out w (Below.refl _ _)).small; omega
  have HX := Lib.hid hx
  have HM := Lib.hid hm
  have HLL := Lib.hid hL
  have HLN := Lib.hid hl
  have HV := Lib.hid hV
  have HZ := Lib.hid hz
  clear h h1 g1 g2 g3 hb0 hb1 hb1' hw0 hw1 hl hz hsz0 hsz1 hV hL hn0 hq hkb hok hcp hc1 l0 hrd hbl hx hm
  have hkeys : key = 119 ∨ key = 87 ∨ key = 34 ∨ key = 39 ∨ key = 96 ∨ key = 112 ∨ (key ≠ 119 ∧ key ≠ 87 ∧ key ≠ 34 ∧ key ≠ 39 ∧ key ≠ 96 ∧ key ≠ 112) := by omega
  rcases hkeys with rfl | rfl | rfl | rfl | rfl | rfl | ⟨k1, k2, k3, k4, k5, k6⟩
  · obtain ⟨r, hr⟩ : ∃ r, wordsP x c2 false around = r := ⟨_, rfl⟩
    have hV := HV.out
    rw [fdR_of HLL.out (fdP_w (key := 119) (by omega))] at hV
    simp only at hV
    rw [HX.out, show ((119 : Int) == 87) = false from rfl, hr] at hV
    have HWO : Hid (∀ W, Below w.heap.size w W → Calls Tryd.prog 20 #[.slice ra m rc, .int .i64 (c2 : Nat), .bool false, .bool around] W fun e w' => e = .returned (woV r) ∧ W = w') := by
      intro W hb
      have := rwords_any ra m rc x c2 false around W (HRD.out W hb) hc2
      rw [hr] at this
      exact this
    cases r with
    | none =>
      have HV2 : Hid (V = .tuple #[.agg #[.int .i64 0, .int .i64 0], .agg #[.int .i64 0, .int .i64 0], .int .i64 0, .bool false]) := hV.symm
      simp only [woV] at HWO
      clear hr hV
      go_enter Tryd.func10, Tryd.ntmps10
      go_upto_region 1 with fail
      rw [HW1.out]
      go_upto_region 4 with (go_at_call 12; refine HCL.out.mono ?_; rintro e w3 ⟨rfl, hb3⟩; obtain ⟨x0, x1, xf0, xf1⟩ := row2 ((hb3.block _ (Array.getElem?_eq_some_iff.1 G1.out).1).trans G1.out))
      obtain ⟨w4, hw4⟩ : ∃ w4, (w3.setCell ⟨w.heap.size, 0, none⟩ (.int .i64 (c1 : Nat))).setCell ⟨w.heap.size, 1, none⟩ (.int .i64 (c2 : Nat)) = w4 := ⟨_, rfl⟩
      have hs4 := HST.out w3 hb3
      rw [hw4] at hs4
      rw [hw4]
      have HS4 := Lib.hid hs4
      have hB4 : Below w.heap.size w w4 := hs4.1
      obtain ⟨x0, x1, xf0, xf1⟩ := row2 hs4.2.1
      obtain ⟨y0, y1, yf0, yf1⟩ := row2 hs4.2.2.1
      obtain ⟨z0, z1, zf0, zf1⟩ := row2 hs4.2.2.2
      have l0 := (hB4.cell (p := ⟨b, off + c1, none⟩) HBL.out).trans HL0.out
      have HB4 := Lib.hid hB4
      clear hw4 hs4 hb3 hB4
      have HEND := HS4
      go_wp2_with (go_at_call 20; refine (HWO.out _ HB4.out).mono ?_; rintro e w5 ⟨rfl, hw5⟩; subst hw5)
      refine bodyPost_ret (v := .tuple #[.agg #[.int .i64 0, .int .i64 0], .agg #[.int .i64 0, .int .i64 0], .int .i64 0, .bool false]) ?_ rfl ⟨by rw [HV2.out], ?_⟩
      · rw [results_cctt rfl]
        go_simp
      · have h2 := HEND.out.1
        (repeat' (first | exact h2 | omega | with_reducible refine Below.drew ?_ | with_reducible refine setCell_below ?_ _ _ _ ?_))
    | some r =>
      obtain ⟨r1, r2⟩ := r
      have HV2 : Hid (V = .tuple #[.agg #[.int .i64 (c1 : Nat), .int .i64 (r1 : Nat)], .agg #[.int .i64 (c1 : Nat), .int .i64 (r2 : Nat)], .int .i64 0, .bool true]) := hV.symm
      simp only [woV] at HWO
      clear hr hV
      go_enter Tryd.func10, Tryd.ntmps10
      go_upto_region 1 with fail
      rw [HW1.out]
      go_upto_region 4 with (go_at_call 12; refine HCL.out.mono ?_; rintro e w3 ⟨rfl, hb3⟩; obtain ⟨x0, x1, xf0, xf1⟩ := row2 ((hb3.block _ (Array.getElem?_eq_some_iff.1 G1.out).1).trans G1.out))
      obtain ⟨w4, hw4⟩ : ∃ w4, (w3.setCell ⟨w.heap.size, 0, none⟩ (.int .i64 (c1 : Nat))).setCell ⟨w.heap.size, 1, none⟩ (.int .i64 (c2 : Nat)) = w4 := ⟨_, rfl⟩
      have hs4 := HST.out w3 hb3
      rw [hw4] at hs4
      rw [hw4]
      have HS4 := Lib.hid hs4
      have hB4 : Below w.heap.size w w4 := hs4.1
      obtain ⟨x0, x1, xf0, xf1⟩ := row2 hs4.2.1
      obtain ⟨y0, y1, yf0, yf1⟩ := row2 hs4.2.2.1
      obtain ⟨z0, z1, zf0, zf1⟩ := row2 hs4.2.2.2
      have l0 := (hB4.cell (p := ⟨b, off + c1, none⟩) HBL.out).trans HL0.out
      have HB4 := Lib.hid hB4
      clear hw4 hs4 hb3 hB4
      have HEND := HS4
      go_wp2_with (go_at_call 20; refine (HWO.out _ HB4.out).mono ?_; rintro e w5 ⟨rfl, hw5⟩; subst hw5)
      go_region
      all_goals
        go_wp2_with fail
        refine bodyPost_ret (v := .tuple #[.agg #[.int .i64 (c1 : Nat), .int .i64 (r1 : Nat)], .agg #[.int .i64 (c1 : Nat), .int .i64 (r2 : Nat)], .int .i64 0, .bool true]) ?_ rfl ⟨by rw [HV2.out], ?_⟩
        · rw [results_cctt rfl]
          go_simp
        · have h2 := HEND.out.1
          (repeat' (first | exact h2 | omega | with_reducible refine Below.drew ?_ | with_reducible refine setCell_below ?_ _ _ _ ?_))
  · obtain ⟨r, hr⟩ : ∃ r, wordsP x c2 true around = r := ⟨_, rfl⟩
    have hV := HV.out
    rw [fdR_of HLL.out (fdP_w (key := 87) (by omega))] at hV
    simp only at hV
    rw [HX.out, show ((87 : Int) == 87) = true from rfl, hr] at hV
    have HWO : Hid (∀ W, Below w.heap.size w W → Calls Tryd.prog 20 #[.slice ra m rc, .int .i64 (c2 : Nat), .bool true, .bool around] W fun e w' => e = .returned (woV r) ∧ W = w') := by
      intro W hb
      have := rwords_any ra m rc x c2 true around W (HRD.out W hb) hc2
      rw [hr] at this
      exact this
    cases r with
    | none =>
      have HV2 : Hid (V = .tuple #[.agg #[.int .i64 0, .int .i64 0], .agg #[.int .i64 0, .int .i64 0], .int .i64 0, .bool false]) := hV.symm
      simp only [woV] at HWO
      clear hr hV
      go_enter Tryd.func10, Tryd.ntmps10
      go_upto_region 1 with fail
      rw [HW1.out]
      go_upto_region 4 with (go_at_call 12; refine HCL.out.mono ?_; rintro e w3 ⟨rfl, hb3⟩; obtain ⟨x0, x1, xf0, xf1⟩ := row2 ((hb3.block _ (Array.getElem?_eq_some_iff.1 G1.out).1).trans G1.out))
      obtain ⟨w4, hw4⟩ : ∃ w4, (w3.setCell ⟨w.heap.size, 0, none⟩ (.int .i64 (c1 : Nat))).setCell ⟨w.heap.size, 1, none⟩ (.int .i64 (c2 : Nat)) = w4 := ⟨_, rfl⟩
      have hs4 := HST.out w3 hb3
      rw [hw4] at hs4
      rw [hw4]
      have HS4 := Lib.hid hs4
      have hB4 : Below w.heap.size w w4 := hs4.1
      obtain ⟨x0, x1, xf0, xf1⟩ := row2 hs4.2.1
      obtain ⟨y0, y1, yf0, yf1⟩ := row2 hs4.2.2.1
      obtain ⟨z0, z1, zf0, zf1⟩ := row2 hs4.2.2.2
      have l0 := (hB4.cell (p := ⟨b, off + c1, none⟩) HBL.out).trans HL0.out
      have HB4 := Lib.hid hB4
      clear hw4 hs4 hb3 hB4
      have HEND := HS4
      go_wp2_with (go_at_call 20; refine (HWO.out _ HB4.out).mono ?_; rintro e w5 ⟨rfl, hw5⟩; subst hw5)
      refine bodyPost_ret (v := .tuple #[.agg #[.int .i64 0, .int .i64 0], .agg #[.int .i64 0, .int .i64 0], .int .i64 0, .bool false]) ?_ rfl ⟨by rw [HV2.out], ?_⟩
      · rw [results_cctt rfl]
        go_simp
      · have h2 := HEND.out.1
        (repeat' (first | exact h2 | omega | with_reducible refine Below.drew ?_ | with_reducible refine setCell_below ?_ _ _ _ ?_))
    | some r =>
      obtain ⟨r1, r2⟩ := r
      have HV2 : Hid (V = .tuple #[.agg #[.int .i64 (c1 : Nat), .int .i64 (r1 : Nat)], .agg #[.int .i64 (c1 : Nat), .int .i64 (r2 : Nat)], .int .i64 0, .bool true]) := hV.symm
      simp only [woV] at HWO
      clear hr hV
      go_enter Tryd.func10, Tryd.ntmps10
      go_upto_region 1 with fail
      rw [HW1.out]
      go_upto_region 4 with (go_at_call 12; refine HCL.out.mono ?_; rintro e w3 ⟨rfl, hb3⟩; obtain ⟨x0, x1, xf0, xf1⟩ := row2 ((hb3.block _ (Array.getElem?_eq_some_iff.1 G1.out).1).trans G1.out))
      obtain ⟨w4, hw4⟩ : ∃ w4, (w3.setCell ⟨w.heap.size, 0, none⟩ (.int .i64 (c1 : Nat))).setCell ⟨w.heap.size, 1, none⟩ (.int .i64 (c2 : Nat)) = w4 := ⟨_, rfl⟩
      have hs4 := HST.out w3 hb3
      rw [hw4] at hs4
      rw [hw4]
      have HS4 := Lib.hid hs4
      have hB4 : Below w.heap.size w w4 := hs4.1
      obtain ⟨x0, x1, xf0, xf1⟩ := row2 hs4.2.1
      obtain ⟨y0, y1, yf0, yf1⟩ := row2 hs4.2.2.1
      obtain ⟨z0, z1, zf0, zf1⟩ := row2 hs4.2.2.2
      have l0 := (hB4.cell (p := ⟨b, off + c1, none⟩) HBL.out).trans HL0.out
      have HB4 := Lib.hid hB4
      clear hw4 hs4 hb3 hB4
      have HEND := HS4
      go_wp2_with (go_at_call 20; refine (HWO.out _ HB4.out).mono ?_; rintro e w5 ⟨rfl, hw5⟩; subst hw5)
      go_region
      all_goals
        go_wp2_with fail
        refine bodyPost_ret (v := .tuple #[.agg #[.int .i64 (c1 : Nat), .int .i64 (r1 : Nat)], .agg #[.int .i64 (c1 : Nat), .int .i64 (r2 : Nat)], .int .i64 0, .bool true]) ?_ rfl ⟨by rw [HV2.out], ?_⟩
        · rw [results_cctt rfl]
          go_simp
        · have h2 := HEND.out.1
          (repeat' (first | exact h2 | omega | with_reducible refine Below.drew ?_ | with_reducible refine setCell_below ?_ _ _ _ ?_))
  · obtain ⟨r, hr⟩ : ∃ r, quoP c2 ((List.range x.length).filter fun i => x.getD i 0 == 34) = r := ⟨_, rfl⟩
    have hV := HV.out
    rw [fdR_of HLL.out (fdP_q (key := 34) (by omega))] at hV
    simp only at hV
    rw [HX.out] at hV
    unfold quotesP at hV
    rw [hr] at hV
    have HQO : Hid (∀ W, Below w.heap.size w W → Calls Tryd.prog 21 #[.slice ra m rc, .int .i64 (c2 : Nat), .int .i32 34, .bool around] W fun e w' => e = .returned (quoV r around) ∧ W = w') := by
      intro W hb
      have := rquotes_any ra m rc x c2 34 around W (HRD.out W hb)
      rw [hr] at this
      exact this
    cases r with
    | none =>
      have HV2 : Hid (V = .tuple #[.agg #[.int .i64 0, .int .i64 0], .agg #[.int .i64 0, .int .i64 0], .int .i64 0, .bool false]) := hV.symm
      simp only [quoV] at HQO
      clear hr hV
      go_enter Tryd.func10, Tryd.ntmps10
      go_upto_region 1 with fail
      rw [HW1.out]
      go_upto_region 4 with (go_at_call 12; refine HCL.out.mono ?_; rintro e w3 ⟨rfl, hb3⟩; obtain ⟨x0, x1, xf0, xf1⟩ := row2 ((hb3.block _ (Array.getElem?_eq_some_iff.1 G1.out).1).trans G1.out))
      obtain ⟨w4, hw4⟩ : ∃ w4, (w3.setCell ⟨w.heap.size, 0, none⟩ (.int .i64 (c1 : Nat))).setCell ⟨w.heap.size, 1, none⟩ (.int .i64 (c2 : Nat)) = w4 := ⟨_, rfl⟩
      have hs4 := HST.out w3 hb3
      rw [hw4] at hs4
      rw [hw4]
      have HS4 := Lib.hid hs4
      have hB4 : Below w.heap.size w w4 := hs4.1
      obtain ⟨x0, x1, xf0, xf1⟩ := row2 hs4.2.1
      obtain ⟨y0, y1, yf0, yf1⟩ := row2 hs4.2.2.1
      obtain ⟨z0, z1, zf0, zf1⟩ := row2 hs4.2.2.2
      have l0 := (hB4.cell (p := ⟨b, off + c1, none⟩) HBL.out).trans HL0.out
      have HB4 := Lib.hid hB4
      clear hw4 hs4 hb3 hB4
      have HEND := HS4
      go_wp2_with (go_at_call 21; refine (HQO.out _ HB4.out).mono ?_; rintro e w5 ⟨rfl, hw5⟩; subst hw5)
      refine bodyPost_ret (v := .tuple #[.agg #[.int .i64 0, .int .i64 0], .agg #[.int .i64 0, .int .i64 0], .int .i64 0, .bool false]) ?_ rfl ⟨by rw [HV2.out], ?_⟩
      · rw [results_cctt rfl]
        go_simp
      · have h2 := HEND.out.1
        (repeat' (first | exact h2 | omega | with_reducible refine Below.drew ?_ | with_reducible refine setCell_below ?_ _ _ _ ?_))
    | some r =>
      obtain ⟨r1, r2⟩ := r
      obtain ⟨q1, q2⟩ := quotes_raw hr
      rw [HM.out] at q2
      cases around with
      | true =>
        have HV2 : Hid (V = .tuple #[.agg #[.int .i64 (c1 : Nat), .int .i64 (r1 : Nat)], .agg #[.int .i64 (c1 : Nat), .int .i64 (r2 : Nat)], .int .i64 0, .bool true]) := hV.symm
        simp only [quoV, if_true] at HQO
        clear hr hV
        go_enter Tryd.func10, Tryd.ntmps10
        go_upto_region 1 with fail
        rw [HW1.out]
        go_upto_region 4 with (go_at_call 12; refine HCL.out.mono ?_; rintro e w3 ⟨rfl, hb3⟩; obtain ⟨x0, x1, xf0, xf1⟩ := row2 ((hb3.block _ (Array.getElem?_eq_some_iff.1 G1.out).1).trans G1.out))
        obtain ⟨w4, hw4⟩ : ∃ w4, (w3.setCell ⟨w.heap.size, 0, none⟩ (.int .i64 (c1 : Nat))).setCell ⟨w.heap.size, 1, none⟩ (.int .i64 (c2 : Nat)) = w4 := ⟨_, rfl⟩
        have hs4 := HST.out w3 hb3
        rw [hw4] at hs4
        rw [hw4]
        have HS4 := Lib.hid hs4
        have hB4 : Below w.heap.size w w4 := hs4.1
        obtain ⟨x0, x1, xf0, xf1⟩ := row2 hs4.2.1
        obtain ⟨y0, y1, yf0, yf1⟩ := row2 hs4.2.2.1
        obtain ⟨z0, z1, zf0, zf1⟩ := row2 hs4.2.2.2
        have l0 := (hB4.cell (p := ⟨b, off + c1, none⟩) HBL.out).trans HL0.out
        have HB4 := Lib.hid hB4
        clear hw4 hs4 hb3 hB4
        have HEND := HS4
        go_wp2_with (go_at_call 21; refine (HQO.out _ HB4.out).mono ?_; rintro e w5 ⟨rfl, hw5⟩; subst hw5)
        go_region
        all_goals
          go_wp2_with fail
          refine bodyPost_ret (v := .tuple #[.agg #[.int .i64 (c1 : Nat), .int .i64 (r1 : Nat)], .agg #[.int .i64 (c1 : Nat), .int .i64 (r2 : Nat)], .int .i64 0, .bool true]) ?_ rfl ⟨by rw [HV2.out], ?_⟩
          · rw [results_cctt rfl]
            go_simp
          · have h2 := HEND.out.1
            (repeat' (first | exact h2 | omega | with_reducible refine Below.drew ?_ | with_reducible refine setCell_below ?_ _ _ _ ?_))
      | false =>
        by_cases hb : r1 + 1 < r2
        · have hd : decide (r1 + 1 < r2) = true := by simp; omega
          obtain ⟨s1, hs1⟩ : ∃ s, r1 + 1 = s := ⟨_, rfl⟩
          obtain ⟨s2, hs2⟩ : ∃ s, r2 - 1 = s := ⟨_, rfl⟩
          have e1 : ((r1 : Nat) : Int) + 1 = (s1 : Int) := by omega
          have e2 : ((r2 : Nat) : Int) - 1 = (s2 : Int) := by omega
          simp only [Bool.false_eq_true, if_false, if_pos hb] at hV
          rw [hs1, hs2] at hV
          have HV2 : Hid (V = .tuple #[.agg #[.int .i64 (c1 : Nat), .int .i64 (s1 : Nat)], .agg #[.int .i64 (c1 : Nat), .int .i64 (s2 : Nat)], .int .i64 0, .bool true]) := hV.symm
          simp only [quoV, hd, e1, e2] at HQO
          clear hr hV hd hs1 hs2 e1 e2 hb
          go_enter Tryd.func10, Tryd.ntmps10
          go_upto_region 1 with fail
          rw [HW1.out]
          go_upto_region 4 with (go_at_call 12; refine HCL.out.mono ?_; rintro e w3 ⟨rfl, hb3⟩; obtain ⟨x0, x1, xf0, xf1⟩ := row2 ((hb3.block _ (Array.getElem?_eq_some_iff.1 G1.out).1).trans G1.out))
          obtain ⟨w4, hw4⟩ : ∃ w4, (w3.setCell ⟨w.heap.size, 0, none⟩ (.int .i64 (c1 : Nat))).setCell ⟨w.heap.size, 1, none⟩ (.int .i64 (c2 : Nat)) = w4 := ⟨_, rfl⟩
          have hs4 := HST.out w3 hb3
          rw [hw4] at hs4
          rw [hw4]
          have HS4 := Lib.hid hs4
          have hB4 : Below w.heap.size w w4 := hs4.1
          obtain ⟨x0, x1, xf0, xf1⟩ := row2 hs4.2.1
          obtain ⟨y0, y1, yf0, yf1⟩ := row2 hs4.2.2.1
          obtain ⟨z0, z1, zf0, zf1⟩ := row2 hs4.2.2.2
          have l0 := (hB4.cell (p := ⟨b, off + c1, none⟩) HBL.out).trans HL0.out
          have HB4 := Lib.hid hB4
          clear hw4 hs4 hb3 hB4
          have HEND := HS4
          go_wp2_with (go_at_call 21; refine (HQO.out _ HB4.out).mono ?_; rintro e w5 ⟨rfl, hw5⟩; subst hw5)
          go_region
          all_goals
            go_wp2_with fail
            refine bodyPost_ret (v := .tuple #[.agg #[.int .i64 (c1 : Nat), .int .i64 (s1 : Nat)], .agg #[.int .i64 (c1 : Nat), .int .i64 (s2 : Nat)], .int .i64 0, .bool true]) ?_ rfl ⟨by rw [HV2.out], ?_⟩
            · rw [results_cctt rfl]
              go_simp
            · have h2 := HEND.out.1
              (repeat' (first | exact h2 | omega | with_reducible refine Below.drew ?_ | with_reducible refine setCell_below ?_ _ _ _ ?_))
        · have hd : decide (r1 + 1 < r2) = false := by simp; omega
          obtain ⟨s1, hs1⟩ : ∃ s, ((r1 : Nat) : Int) + 1 = s := ⟨_, rfl⟩
          obtain ⟨s2, hs2⟩ : ∃ s, ((r2 : Nat) : Int) - 1 = s := ⟨_, rfl⟩
          simp only [Bool.false_eq_true, if_false, if_neg hb] at hV
          have HV2 : Hid (V = .tuple #[.agg #[.int .i64 0, .int .i64 0], .agg #[.int .i64 0, .int .i64 0], .int .i64 0, .bool false]) := hV.symm
          simp only [quoV, hd, hs1, hs2] at HQO
          clear hr hV hd hs1 hs2 hb
          go_enter Tryd.func10, Tryd.ntmps10
          go_upto_region 1 with fail
          rw [HW1.out]
          go_upto_region 4 with (go_at_call 12; refine HCL.out.mono ?_; rintro e w3 ⟨rfl, hb3⟩; obtain ⟨x0, x1, xf0, xf1⟩ := row2 ((hb3.block _ (Array.getElem?_eq_some_iff.1 G1.out).1).trans G1.out))
          obtain ⟨w4, hw4⟩ : ∃ w4, (w3.setCell ⟨w.heap.size, 0, none⟩ (.int .i64 (c1 : Nat))).setCell ⟨w.heap.size, 1, none⟩ (.int .i64 (c2 : Nat)) = w4 := ⟨_, rfl⟩
          have hs4 := HST.out w3 hb3
          rw [hw4] at hs4
          rw [hw4]
          have HS4 := Lib.hid hs4
          have hB4 : Below w.heap.size w w4 := hs4.1
          obtain ⟨x0, x1, xf0, xf1⟩ := row2 hs4.2.1
          obtain ⟨y0, y1, yf0, yf1⟩ := row2 hs4.2.2.1
          obtain ⟨z0, z1, zf0, zf1⟩ := row2 hs4.2.2.2
          have l0 := (hB4.cell (p := ⟨b, off + c1, none⟩) HBL.out).trans HL0.out
          have HB4 := Lib.hid hB4
          clear hw4 hs4 hb3 hB4
          have HEND := HS4
          go_wp2_with (go_at_call 21; refine (HQO.out _ HB4.out).mono ?_; rintro e w5 ⟨rfl, hw5⟩; subst hw5)
          refine bodyPost_ret (v := .tuple #[.agg #[.int .i64 0, .int .i64 0], .agg #[.int .i64 0, .int .i64 0], .int .i64 0, .bool false]) ?_ rfl ⟨by rw [HV2.out], ?_⟩
          · rw [results_cctt rfl]
            go_simp
          · have h2 := HEND.out.1
            (repeat' (first | exact h2 | omega | with_reducible refine Below.drew ?_ | with_reducible refine setCell_below ?_ _ _ _ ?_))
  · obtain ⟨r, hr⟩ : ∃ r, quoP c2 ((List.range x.length).filter fun i => x.getD i 0 == 39) = r := ⟨_, rfl⟩
    have hV := HV.out
    rw [fdR_of HLL.out (fdP_q (key := 39) (by omega))] at hV
    simp only at hV
    rw [HX.out] at hV
    unfold quotesP at hV
    rw [hr] at hV
    have HQO : Hid (∀ W, Below w.heap.size w W → Calls Tryd.prog 21 #[.slice ra m rc, .int .i64 (c2 : Nat), .int .i32 39, .bool around] W fun e w' => e = .returned (quoV r around) ∧ W = w') := by
      intro W hb
      have := rquotes_any ra m rc x c2 39 around W (HRD.out W hb)
      rw [hr] at this
      exact this
    cases r with
    | none =>
      have HV2 : Hid (V = .tuple #[.agg #[.int .i64 0, .int .i64 0], .agg #[.int .i64 0, .int .i64 0], .int .i64 0, .bool false]) := hV.symm
      simp only [quoV] at HQO
      clear hr hV
      go_enter Tryd.func10, Tryd.ntmps10
      go_upto_region 1 with fail
      rw [HW1.out]
      go_upto_region 4 with (go_at_call 12; refine HCL.out.mono ?_; rintro e w3 ⟨rfl, hb3⟩; obtain ⟨x0, x1, xf0, xf1⟩ := row2 ((hb3.block _ (Array.getElem?_eq_some_iff.1 G1.out).1).trans G1.out))
      obtain ⟨w4, hw4⟩ : ∃ w4, (w3.setCell ⟨w.heap.size, 0, none⟩ (.int .i64 (c1 : Nat))).setCell ⟨w.heap.size, 1, none⟩ (.int .i64 (c2 : Nat)) = w4 := ⟨_, rfl⟩
      have hs4 := HST.out w3 hb3
      rw [hw4] at hs4
      rw [hw4]
      have HS4 := Lib.hid hs4
      have hB4 : Below w.heap.size w w4 := hs4.1
      obtain ⟨x0, x1, xf0, xf1⟩ := row2 hs4.2.1
      obtain ⟨y0, y1, yf0, yf1⟩ := row2 hs4.2.2.1
      obtain ⟨z0, z1, zf0, zf1⟩ := row2 hs4.2.2.2
      have l0 := (hB4.cell (p := ⟨b, off + c1, none⟩) HBL.out).trans HL0.out
      have HB4 := Lib.hid hB4
      clear hw4 hs4 hb3 hB4
      have HEND := HS4
      go_wp2_with (go_at_call 21; refine (HQO.out _ HB4.out).mono ?_; rintro e w5 ⟨rfl, hw5⟩; subst hw5)
      refine bodyPost_ret (v := .tuple #[.agg #[.int .i64 0, .int .i64 0], .agg #[.int .i64 0, .int .i64 0], .int .i64 0, .bool false]) ?_ rfl ⟨by rw [HV2.out], ?_⟩
      · rw [results_cctt rfl]
        go_simp
      · have h2 := HEND.out.1
        (repeat' (first | exact h2 | omega | with_reducible refine Below.drew ?_ | with_reducible refine setCell_below ?_ _ _ _ ?_))
    | some r =>
      obtain ⟨r1, r2⟩ := r
      obtain ⟨q1, q2⟩ := quotes_raw hr
      rw [HM.out] at q2
      cases around with
      | true =>
        have HV2 : Hid (V = .tuple #[.agg #[.int .i64 (c1 : Nat), .int .i64 (r1 : Nat)], .agg #[.int .i64 (c1 : Nat), .int .i64 (r2 : Nat)], .int .i64 0, .bool true]) := hV.symm
        simp only [quoV, if_true] at HQO
        clear hr hV
        go_enter Tryd.func10, Tryd.ntmps10
        go_upto_region 1 with fail
        rw [HW1.out]
        go_upto_region 4 with (go_at_call 12; refine HCL.out.mono ?_; rintro e w3 ⟨rfl, hb3⟩; obtain ⟨x0, x1, xf0, xf1⟩ := row2 ((hb3.block _ (Array.getElem?_eq_some_iff.1 G1.out).1).trans G1.out))
        obtain ⟨w4, hw4⟩ : ∃ w4, (w3.setCell ⟨w.heap.size, 0, none⟩ (.int .i64 (c1 : Nat))).setCell ⟨w.heap.size, 1, none⟩ (.int .i64 (c2 : Nat)) = w4 := ⟨_, rfl⟩
        have hs4 := HST.out w3 hb3
        rw [hw4] at hs4
        rw [hw4]
        have HS4 := Lib.hid hs4
        have hB4 : Below w.heap.size w w4 := hs4.1
        obtain ⟨x0, x1, xf0, xf1⟩ := row2 hs4.2.1
        obtain ⟨y0, y1, yf0, yf1⟩ := row2 hs4.2.2.1
        obtain ⟨z0, z1, zf0, zf1⟩ := row2 hs4.2.2.2
        have l0 := (hB4.cell (p := ⟨b, off + c1, none⟩) HBL.out).trans HL0.out
        have HB4 := Lib.hid hB4
        clear hw4 hs4 hb3 hB4
        have HEND := HS4
        go_wp2_with (go_at_call 21; refine (HQO.out _ HB4.out).mono ?_; rintro e w5 ⟨rfl, hw5⟩; subst hw5)
        go_region
        all_goals
          go_wp2_with fail
          refine bodyPost_ret (v := .tuple #[.agg #[.int .i64 (c1 : Nat), .int .i64 (r1 : Nat)], .agg #[.int .i64 (c1 : Nat), .int .i64 (r2 : Nat)], .int .i64 0, .bool true]) ?_ rfl ⟨by rw [HV2.out], ?_⟩
          · rw [results_cctt rfl]
            go_simp
          · have h2 := HEND.out.1
            (repeat' (first | exact h2 | omega | with_reducible refine Below.drew ?_ | with_reducible refine setCell_below ?_ _ _ _ ?_))
      | false =>
        by_cases hb : r1 + 1 < r2
        · have hd : decide (r1 + 1 < r2) = true := by simp; omega
          obtain ⟨s1, hs1⟩ : ∃ s, r1 + 1 = s := ⟨_, rfl⟩
          obtain ⟨s2, hs2⟩ : ∃ s, r2 - 1 = s := ⟨_, rfl⟩
          have e1 : ((r1 : Nat) : Int) + 1 = (s1 : Int) := by omega
          have e2 : ((r2 : Nat) : Int) - 1 = (s2 : Int) := by omega
          simp only [Bool.false_eq_true, if_false, if_pos hb] at hV
          rw [hs1, hs2] at hV
          have HV2 : Hid (V = .tuple #[.agg #[.int .i64 (c1 : Nat), .int .i64 (s1 : Nat)], .agg #[.int .i64 (c1 : Nat), .int .i64 (s2 : Nat)], .int .i64 0, .bool true]) := hV.symm
          simp only [quoV, hd, e1, e2] at HQO
          clear hr hV hd hs1 hs2 e1 e2 hb
          go_enter Tryd.func10, Tryd.ntmps10
          go_upto_region 1 with fail
          rw [HW1.out]
          go_upto_region 4 with (go_at_call 12; refine HCL.out.mono ?_; rintro e w3 ⟨rfl, hb3⟩; obtain ⟨x0, x1, xf0, xf1⟩ := row2 ((hb3.block _ (Array.getElem?_eq_some_iff.1 G1.out).1).trans G1.out))
          obtain ⟨w4, hw4⟩ : ∃ w4, (w3.setCell ⟨w.heap.size, 0, none⟩ (.int .i64 (c1 : Nat))).setCell ⟨w.heap.size, 1, none⟩ (.int .i64 (c2 : Nat)) = w4 := ⟨_, rfl⟩
          have hs4 := HST.out w3 hb3
          rw [hw4] at hs4
          rw [hw4]
          have HS4 := Lib.hid hs4
          have hB4 : Below w.heap.size w w4 := hs4.1
          obtain ⟨x0, x1, xf0, xf1⟩ := row2 hs4.2.1
          obtain ⟨y0, y1, yf0, yf1⟩ := row2 hs4.2.2.1
          obtain ⟨z0, z1, zf0, zf1⟩ := row2 hs4.2.2.2
          have l0 := (hB4.cell (p := ⟨b, off + c1, none⟩) HBL.out).trans HL0.out
          have HB4 := Lib.hid hB4
          clear hw4 hs4 hb3 hB4
          have HEND := HS4
          go_wp2_with (go_at_call 21; refine (HQO.out _ HB4.out).mono ?_; rintro e w5 ⟨rfl, hw5⟩; subst hw5)
          go_region
          all_goals
            go_wp2_with fail
            refine bodyPost_ret (v := .tuple #[.agg #[.int .i64 (c1 : Nat), .int .i64 (s1 : Nat)], .agg #[.int .i64 (c1 : Nat), .int .i64 (s2 : Nat)], .int .i64 0, .bool true]) ?_ rfl ⟨by rw [HV2.out], ?_⟩
            · rw [results_cctt rfl]
              go_simp
            · have h2 := HEND.out.1
              (repeat' (first | exact h2 | omega | with_reducible refine Below.drew ?_ | with_reducible refine setCell_below ?_ _ _ _ ?_))
        · have hd : decide (r1 + 1 < r2) = false := by simp; omega
          obtain ⟨s1, hs1⟩ : ∃ s, ((r1 : Nat) : Int) + 1 = s := ⟨_, rfl⟩
          obtain ⟨s2, hs2⟩ : ∃ s, ((r2 : Nat) : Int) - 1 = s := ⟨_, rfl⟩
          simp only [Bool.false_eq_true, if_false, if_neg hb] at hV
          have HV2 : Hid (V = .tuple #[.agg #[.int .i64 0, .int .i64 0], .agg #[.int .i64 0, .int .i64 0], .int .i64 0, .bool false]) := hV.symm
          simp only [quoV, hd, hs1, hs2] at HQO
          clear hr hV hd hs1 hs2 hb
          go_enter Tryd.func10, Tryd.ntmps10
          go_upto_region 1 with fail
          rw [HW1.out]
          go_upto_region 4 with (go_at_call 12; refine HCL.out.mono ?_; rintro e w3 ⟨rfl, hb3⟩; obtain ⟨x0, x1, xf0, xf1⟩ := row2 ((hb3.block _ (Array.getElem?_eq_some_iff.1 G1.out).1).trans G1.out))
          obtain ⟨w4, hw4⟩ : ∃ w4, (w3.setCell ⟨w.heap.size, 0, none⟩ (.int .i64 (c1 : Nat))).setCell ⟨w.heap.size, 1, none⟩ (.int .i64 (c2 : Nat)) = w4 := ⟨_, rfl⟩
          have hs4 := HST.out w3 hb3
          rw [hw4] at hs4
          rw [hw4]
          have HS4 := Lib.hid hs4
          have hB4 : Below w.heap.size w w4 := hs4.1
          obtain ⟨x0, x1, xf0, xf1⟩ := row2 hs4.2.1
          obtain ⟨y0, y1, yf0, yf1⟩ := row2 hs4.2.2.1
          obtain ⟨z0, z1, zf0, zf1⟩ := row2 hs4.2.2.2
          have l0 := (hB4.cell (p := ⟨b, off + c1, none⟩) HBL.out).trans HL0.out
          have HB4 := Lib.hid hB4
          clear hw4 hs4 hb3 hB4
          have HEND := HS4
          go_wp2_with (go_at_call 21; refine (HQO.out _ HB4.out).mono ?_; rintro e w5 ⟨rfl, hw5⟩; subst hw5)
          refine bodyPost_ret (v := .tuple #[.agg #[.int .i64 0, .int .i64 0], .agg #[.int .i64 0, .int .i64 0], .int .i64 0, .bool false]) ?_ rfl ⟨by rw [HV2.out], ?_⟩
          · rw [results_cctt rfl]
            go_simp
          · have h2 := HEND.out.1
            (repeat' (first | exact h2 | omega | with_reducible refine Below.drew ?_ | with_reducible refine setCell_below ?_ _ _ _ ?_))
  · obtain ⟨r, hr⟩ : ∃ r, quoP c2 ((List.range x.length).filter fun i => x.getD i 0 == 96) = r := ⟨_, rfl⟩
    have hV := HV.out
    rw [fdR_of HLL.out (fdP_q (key := 96) (by omega))] at hV
    simp only at hV
    rw [HX.out] at hV
    unfold quotesP at hV
    rw [hr] at hV
    have HQO : Hid (∀ W, Below w.heap.size w W → Calls Tryd.prog 21 #[.slice ra m rc, .int .i64 (c2 : Nat), .int .i32 96, .bool around] W fun e w' => e = .returned (quoV r around) ∧ W = w') := by
      intro W hb
      have := rquotes_any ra m rc x c2 96 around W (HRD.out W hb)
      rw [hr] at this
      exact this
    cases r with
    | none =>
      have HV2 : Hid (V = .tuple #[.agg #[.int .i64 0, .int .i64 0], .agg #[.int .i64 0, .int .i64 0], .int .i64 0, .bool false]) := hV.symm
      simp only [quoV] at HQO
      clear hr hV
      go_enter Tryd.func10, Tryd.ntmps10
      go_upto_region 1 with fail
      rw [HW1.out]
      go_upto_region 4 with (go_at_call 12; refine HCL.out.mono ?_; rintro e w3 ⟨rfl, hb3⟩; obtain ⟨x0, x1, xf0, xf1⟩ := row2 ((hb3.block _ (Array.getElem?_eq_some_iff.1 G1.out).1).trans G1.out))
      obtain ⟨w4, hw4⟩ : ∃ w4, (w3.setCell ⟨w.heap.size, 0, none⟩ (.int .i64 (c1 : Nat))).setCell ⟨w.heap.size, 1, none⟩ (.int .i64 (c2 : Nat)) = w4 := ⟨_, rfl⟩
      have hs4 := HST.out w3 hb3
      rw [hw4] at hs4
      rw [hw4]
      have HS4 := Lib.hid hs4
      have hB4 : Below w.heap.size w w4 := hs4.1
      obtain ⟨x0, x1, xf0, xf1⟩ := row2 hs4.2.1
      obtain ⟨y0, y1, yf0, yf1⟩ := row2 hs4.2.2.1
      obtain ⟨z0, z1, zf0, zf1⟩ := row2 hs4.2.2.2
      have l0 := (hB4.cell (p := ⟨b, off + c1, none⟩) HBL.out).trans HL0.out
      have HB4 := Lib.hid hB4
      clear hw4 hs4 hb3 hB4
      have HEND := HS4
      go_wp2_with (go_at_call 21; refine (HQO.out _ HB4.out).mono ?_; rintro e w5 ⟨rfl, hw5⟩; subst hw5)
      refine bodyPost_ret (v := .tuple #[.agg #[.int .i64 0, .int .i64 0], .agg #[.int .i64 0, .int .i64 0], .int .i64 0, .bool false]) ?_ rfl ⟨by rw [HV2.out], ?_⟩
      · rw [results_cctt rfl]
        go_simp
      · have h2 := HEND.out.1
        (repeat' (first | exact h2 | omega | with_reducible refine Below.drew ?_ | with_reducible refine setCell_below ?_ _ _ _ ?_))
    | some r =>
      obtain ⟨r1, r2⟩ := r
      obtain ⟨q1, q2⟩ := quotes_raw hr
      rw [HM.out] at q2
      cases around with
      | true =>
        have HV2 : Hid (V = .tuple #[.agg #[.int .i64 (c1 : Nat), .int .i64 (r1 : Nat)], .agg #[.int .i64 (c1 : Nat), .int .i64 (r2 : Nat)], .int .i64 0, .bool true]) := hV.symm
        simp only [quoV, if_true] at HQO
        clear hr hV
        go_enter Tryd.func10, Tryd.ntmps10
        go_upto_region 1 with fail
        rw [HW1.out]
        go_upto_region 4 with (go_at_call 12; refine HCL.out.mono ?_; rintro e w3 ⟨rfl, hb3⟩; obtain ⟨x0, x1, xf0, xf1⟩ := row2 ((hb3.block _ (Array.getElem?_eq_some_iff.1 G1.out).1).trans G1.out))
        obtain ⟨w4, hw4⟩ : ∃ w4, (w3.setCell ⟨w.heap.size, 0, none⟩ (.int .i64 (c1 : Nat))).setCell ⟨w.heap.size, 1, none⟩ (.int .i64 (c2 : Nat)) = w4 := ⟨_, rfl⟩
        have hs4 := HST.out w3 hb3
        rw [hw4] at hs4
        rw [hw4]
        have HS4 := Lib.hid hs4
        have hB4 : Below w.heap.size w w4 := hs4.1
        obtain ⟨x0, x1, xf0, xf1⟩ := row2 hs4.2.1
        obtain ⟨y0, y1, yf0, yf1⟩ := row2 hs4.2.2.1
        obtain ⟨z0, z1, zf0, zf1⟩ := row2 hs4.2.2.2
        have l0 := (hB4.cell (p := ⟨b, off + c1, none⟩) HBL.out).trans HL0.out
        have HB4 := Lib.hid hB4
        clear hw4 hs4 hb3 hB4
        have HEND := HS4
        go_wp2_with (go_at_call 21; refine (HQO.out _ HB4.out).mono ?_; rintro e w5 ⟨rfl, hw5⟩; subst hw5)
        go_region
        all_goals
          go_wp2_with fail
          refine bodyPost_ret (v := .tuple #[.agg #[.int .i64 (c1 : Nat), .int .i64 (r1 : Nat)], .agg #[.int .i64 (c1 : Nat), .int .i64 (r2 : Nat)], .int .i64 0, .bool true]) ?_ rfl ⟨by rw [HV2.out], ?_⟩
          · rw [results_cctt rfl]
            go_simp
          · have h2 := HEND.out.1
            (repeat' (first | exact h2 | omega | with_reducible refine Below.drew ?_ | with_reducible refine setCell_below ?_ _ _ _ ?_))
      | false =>
        by_cases hb : r1 + 1 < r2
        · have hd : decide (r1 + 1 < r2) = true := by simp; omega
          obtain ⟨s1, hs1⟩ : ∃ s, r1 + 1 = s := ⟨_, rfl⟩
          obtain ⟨s2, hs2⟩ : ∃ s, r2 - 1 = s := ⟨_, rfl⟩
          have e1 : ((r1 : Nat) : Int) + 1 = (s1 : Int) := by omega
          have e2 : ((r2 : Nat) : Int) - 1 = (s2 : Int) := by omega
          simp only [Bool.false_eq_true, if_false, if_pos hb] at hV
          rw [hs1, hs2] at hV
          have HV2 : Hid (V = .tuple #[.agg #[.int .i64 (c1 : Nat), .int .i64 (s1 : Nat)], .agg #[.int .i64 (c1 : Nat), .int .i64 (s2 : Nat)], .int .i64 0, .bool true]) := hV.symm
          simp only [quoV, hd, e1, e2] at HQO
          clear hr hV hd hs1 hs2 e1 e2 hb
          go_enter Tryd.func10, Tryd.ntmps10
          go_upto_region 1 with fail
          rw [HW1.out]
          go_upto_region 4 with (go_at_call 12; refine HCL.out.mono ?_; rintro e w3 ⟨rfl, hb3⟩; obtain ⟨x0, x1, xf0, xf1⟩ := row2 ((hb3.block _ (Array.getElem?_eq_some_iff.1 G1.out).1).trans G1.out))
          obtain ⟨w4, hw4⟩ : ∃ w4, (w3.setCell ⟨w.heap.size, 0, none⟩ (.int .i64 (c1 : Nat))).setCell ⟨w.heap.size, 1, none⟩ (.int .i64 (c2 : Nat)) = w4 := ⟨_, rfl⟩
          have hs4 := HST.out w3 hb3
          rw [hw4] at hs4
          rw [hw4]
          have HS4 := Lib.hid hs4
          have hB4 : Below w.heap.size w w4 := hs4.1
          obtain ⟨x0, x1, xf0, xf1⟩ := row2 hs4.2.1
          obtain ⟨y0, y1, yf0, yf1⟩ := row2 hs4.2.2.1
          obtain ⟨z0, z1, zf0, zf1⟩ := row2 hs4.2.2.2
          have l0 := (hB4.cell (p := ⟨b, off + c1, none⟩) HBL.out).trans HL0.out
          have HB4 := Lib.hid hB4
          clear hw4 hs4 hb3 hB4
          have HEND := HS4
          go_wp2_with (go_at_call 21; refine (HQO.out _ HB4.out).mono ?_; rintro e w5 ⟨rfl, hw5⟩; subst hw5)
          go_region
          all_goals
            go_wp2_with fail
            refine bodyPost_ret (v := .tuple #[.agg #[.int .i64 (c1 : Nat), .int .i64 (s1 : Nat)], .agg #[.int .i64 (c1 : Nat), .int .i64 (s2 : Nat)], .int .i64 0, .bool true]) ?_ rfl ⟨by rw [HV2.out], ?_⟩
            · rw [results_cctt rfl]
              go_simp
            · have h2 := HEND.out.1
              (repeat' (first | exact h2 | omega | with_reducible refine Below.drew ?_ | with_reducible refine setCell_below ?_ _ _ _ ?_))
        · have hd : decide (r1 + 1 < r2) = false := by simp; omega
          obtain ⟨s1, hs1⟩ : ∃ s, ((r1 : Nat) : Int) + 1 = s := ⟨_, rfl⟩
          obtain ⟨s2, hs2⟩ : ∃ s, ((r2 : Nat) : Int) - 1 = s := ⟨_, rfl⟩
          simp only [Bool.false_eq_true, if_false, if_neg hb] at hV
          have HV2 : Hid (V = .tuple #[.agg #[.int .i64 0, .int .i64 0], .agg #[.int .i64 0, .int .i64 0], .int .i64 0, .bool false]) := hV.symm
          simp only [quoV, hd, hs1, hs2] at HQO
          clear hr hV hd hs1 hs2 hb
          go_enter Tryd.func10, Tryd.ntmps10
          go_upto_region 1 with fail
          rw [HW1.out]
          go_upto_region 4 with (go_at_call 12; refine HCL.out.mono ?_; rintro e w3 ⟨rfl, hb3⟩; obtain ⟨x0, x1, xf0, xf1⟩ := row2 ((hb3.block _ (Array.getElem?_eq_some_iff.1 G1.out).1).trans G1.out))
          obtain ⟨w4, hw4⟩ : ∃ w4, (w3.setCell ⟨w.heap.size, 0, none⟩ (.int .i64 (c1 : Nat))).setCell ⟨w.heap.size, 1, none⟩ (.int .i64 (c2 : Nat)) = w4 := ⟨_, rfl⟩
          have hs4 := HST.out w3 hb3
          rw [hw4] at hs4
          rw [hw4]
          have HS4 := Lib.hid hs4
          have hB4 : Below w.heap.size w w4 := hs4.1
          obtain ⟨x0, x1, xf0, xf1⟩ := row2 hs4.2.1
          obtain ⟨y0, y1, yf0, yf1⟩ := row2 hs4.2.2.1
          obtain ⟨z0, z1, zf0, zf1⟩ := row2 hs4.2.2.2
          have l0 := (hB4.cell (p := ⟨b, off + c1, none⟩) HBL.out).trans HL0.out
          have HB4 := Lib.hid hB4
          clear hw4 hs4 hb3 hB4
          have HEND := HS4
          go_wp2_with (go_at_call 21; refine (HQO.out _ HB4.out).mono ?_; rintro e w5 ⟨rfl, hw5⟩; subst hw5)
          refine bodyPost_ret (v := .tuple #[.agg #[.int .i64 0, .int .i64 0], .agg #[.int .i64 0, .int .i64 0], .int .i64 0, .bool false]) ?_ rfl ⟨by rw [HV2.out], ?_⟩
          · rw [results_cctt rfl]
            go_simp
          · have h2 := HEND.out.1
            (repeat' (first | exact h2 | omega | with_reducible refine Below.drew ?_ | with_reducible refine setCell_below ?_ _ _ _ ?_))
  · obtain ⟨r, hr⟩ : ∃ r, blocksP L c1 around = r := ⟨_, rfl⟩
    have hV := HV.out
    rw [fdR_of HLL.out fdP_p] at hV
    simp only at hV
    rw [hr] at hV
    have HBO : Hid (∀ W, Below w.heap.size w W → Calls Tryd.prog 22 #[.slice (some ⟨b, off, none⟩) n c, .int .i64 (c1 : Nat), .bool around] W fun e w' => e = .returned (woV r) ∧ Below W.heap.size W w') := by
      intro W hb
      have := rblocks_any F (some ⟨b, off, none⟩) n c L c1 around W (HRL.out W hb) hc1n
      rw [hr] at this
      exact this
    cases r with
    | none =>
      have HV2 : Hid (V = .tuple #[.agg #[.int .i64 0, .int .i64 0], .agg #[.int .i64 0, .int .i64 0], .int .i64 0, .bool false]) := hV.symm
      simp only [woV] at HBO
      clear hr hV
      go_enter Tryd.func10, Tryd.ntmps10
      go_upto_region 1 with fail
      rw [HW1.out]
      go_upto_region 4 with (go_at_call 12; refine HCL.out.mono ?_; rintro e w3 ⟨rfl, hb3⟩; obtain ⟨x0, x1, xf0, xf1⟩ := row2 ((hb3.block _ (Array.getElem?_eq_some_iff.1 G1.out).1).trans G1.out))
      obtain ⟨w4, hw4⟩ : ∃ w4, (w3.setCell ⟨w.heap.size, 0, none⟩ (.int .i64 (c1 : Nat))).setCell ⟨w.heap.size, 1, none⟩ (.int .i64 (c2 : Nat)) = w4 := ⟨_, rfl⟩
      have hs4 := HST.out w3 hb3
      rw [hw4] at hs4
      rw [hw4]
      have HS4 := Lib.hid hs4
      have hB4 : Below w.heap.size w w4 := hs4.1
      obtain ⟨x0, x1, xf0, xf1⟩ := row2 hs4.2.1
      obtain ⟨y0, y1, yf0, yf1⟩ := row2 hs4.2.2.1
      obtain ⟨z0, z1, zf0, zf1⟩ := row2 hs4.2.2.2
      have l0 := (hB4.cell (p := ⟨b, off + c1, none⟩) HBL.out).trans HL0.out
      have HB4 := Lib.hid hB4
      clear hw4 hs4 hb3 hB4
      go_wp2_with (go_at_call 22; refine (HBO.out _ HB4.out).mono ?_; rintro e w5 ⟨rfl, hb5⟩; have hs5 := HS4.out.below hb5; obtain ⟨x0, x1, xf0, xf1⟩ := row2 hs5.2.1; obtain ⟨y0, y1, yf0, yf1⟩ := row2 hs5.2.2.1; obtain ⟨z0, z1, zf0, zf1⟩ := row2 hs5.2.2.2; have HEND := Lib.hid hs5; clear hs5 hb5)
      refine bodyPost_ret (v := .tuple #[.agg #[.int .i64 0, .int .i64 0], .agg #[.int .i64 0, .int .i64 0], .int .i64 0, .bool false]) ?_ rfl ⟨by rw [HV2.out], ?_⟩
      · rw [results_cctt rfl]
        go_simp
      · have h2 := HEND.out.1
        (repeat' (first | exact h2 | omega | with_reducible refine Below.drew ?_ | with_reducible refine setCell_below ?_ _ _ _ ?_))
    | some r =>
      obtain ⟨r1, r2⟩ := r
      have HV2 : Hid (V = .tuple #[.agg #[.int .i64 (r1 : Nat), .int .i64 0], .agg #[.int .i64 (r2 : Nat), .int .i64 0], .int .i64 1, .bool true]) := hV.symm
      simp only [woV] at HBO
      clear hr hV
      go_enter Tryd.func10, Tryd.ntmps10
      go_upto_region 1 with fail
      rw [HW1.out]
      go_upto_region 4 with (go_at_call 12; refine HCL.out.mono ?_; rintro e w3 ⟨rfl, hb3⟩; obtain ⟨x0, x1, xf0, xf1⟩ := row2 ((hb3.block _ (Array.getElem?_eq_some_iff.1 G1.out).1).trans G1.out))
      obtain ⟨w4, hw4⟩ : ∃ w4, (w3.setCell ⟨w.heap.size, 0, none⟩ (.int .i64 (c1 : Nat))).setCell ⟨w.heap.size, 1, none⟩ (.int .i64 (c2 : Nat)) = w4 := ⟨_, rfl⟩
      have hs4 := HST.out w3 hb3
      rw [hw4] at hs4
      rw [hw4]
      have HS4 := Lib.hid hs4
      have hB4 : Below w.heap.size w w4 := hs4.1
      obtain ⟨x0, x1, xf0, xf1⟩ := row2 hs4.2.1
      obtain ⟨y0, y1, yf0, yf1⟩ := row2 hs4.2.2.1
      obtain ⟨z0, z1, zf0, zf1⟩ := row2 hs4.2.2.2
      have l0 := (hB4.cell (p := ⟨b, off + c1, none⟩) HBL.out).trans HL0.out
      have HB4 := Lib.hid hB4
      clear hw4 hs4 hb3 hB4
      go_wp2_with (go_at_call 22; refine (HBO.out _ HB4.out).mono ?_; rintro e w5 ⟨rfl, hb5⟩; have hs5 := HS4.out.below hb5; obtain ⟨x0, x1, xf0, xf1⟩ := row2 hs5.2.1; obtain ⟨y0, y1, yf0, yf1⟩ := row2 hs5.2.2.1; obtain ⟨z0, z1, zf0, zf1⟩ := row2 hs5.2.2.2; have HEND := Lib.hid hs5; clear hs5 hb5)
      refine bodyPost_ret (v := .tuple #[.agg #[.int .i64 (r1 : Nat), .int .i64 0], .agg #[.int .i64 (r2 : Nat), .int .i64 0], .int .i64 1, .bool true]) ?_ rfl ⟨by rw [HV2.out], ?_⟩
      · rw [results_cctt rfl]
        go_simp
      · have h2 := HEND.out.1
        (repeat' (first | exact h2 | omega | with_reducible refine Below.drew ?_ | with_reducible refine setCell_below ?_ _ _ _ ?_))
  · have f1 : (key == 119) = false := by simp [k1]
    have f2 : (key == 87) = false := by simp [k2]
    have f3 : (key == 34) = false := by simp [k3]
    have f4 : (key == 39) = false := by simp [k4]
    have f5 : (key == 96) = false := by simp [k5]
    have f6 : (key == 112) = false := by simp [k6]
    have hV := HV.out
    rw [fdR_of HLL.out (fdP_br k1 k2 k3 k4 k5 k6)] at hV
    have HBK := Lib.hid (fun W => rbrk_any key W)
    unfold brV at HBK
    clear k1 k2 k3 k4 k5 k6
    cases hb : brk key with
    | none =>
      simp only [hb] at hV HBK
      have HV2 : Hid (V = .tuple #[.agg #[.int .i64 0, .int .i64 0], .agg #[.int .i64 0, .int .i64 0], .int .i64 0, .bool false]) := hV.symm
      clear hV hb
      go_enter Tryd.func10, Tryd.ntmps10
      go_upto_region 1 with fail
      rw [HW1.out]
      go_upto_region 4 with (go_at_call 12; refine HCL.out.mono ?_; rintro e w3 ⟨rfl, hb3⟩; obtain ⟨x0, x1, xf0, xf1⟩ := row2 ((hb3.block _ (Array.getElem?_eq_some_iff.1 G1.out).1).trans G1.out))
      obtain ⟨w4, hw4⟩ : ∃ w4, (w3.setCell ⟨w.heap.size, 0, none⟩ (.int .i64 (c1 : Nat))).setCell ⟨w.heap.size, 1, none⟩ (.int .i64 (c2 : Nat)) = w4 := ⟨_, rfl⟩
      have hs4 := HST.out w3 hb3
      rw [hw4] at hs4
      rw [hw4]
      have HS4 := Lib.hid hs4
      have hB4 : Below w.heap.size w w4 := hs4.1
      obtain ⟨x0, x1, xf0, xf1⟩ := row2 hs4.2.1
      obtain ⟨y0, y1, yf0, yf1⟩ := row2 hs4.2.2.1
      obtain ⟨z0, z1, zf0, zf1⟩ := row2 hs4.2.2.2
      have l0 := (hB4.cell (p := ⟨b, off + c1, none⟩) HBL.out).trans HL0.out
      have HB4 := Lib.hid hB4
      clear hw4 hs4 hb3 hB4
      have HEND := HS4
      go_wp2_with (go_at_call 15; refine (HBK.out _).mono ?_; rintro e w5 ⟨rfl, hw5⟩; subst hw5)
      refine bodyPost_ret (v := .tuple #[.agg #[.int .i64 0, .int .i64 0], .agg #[.int .i64 0, .int .i64 0], .int .i64 0, .bool false]) ?_ rfl ⟨by rw [HV2.out], ?_⟩
      · rw [results_cctt rfl]
        go_simp
      · have h2 := HEND.out.1
        (repeat' (first | exact h2 | omega | with_reducible refine Below.drew ?_ | with_reducible refine setCell_below ?_ _ _ _ ?_))
    | some oc =>
      obtain ⟨o1, o2⟩ := oc
      obtain ⟨hz0, hoo⟩ := brk_pos hb
      simp only [hb] at hV HBK
      have hz1 : (o1 != 0) = true := by simp [hz0]
      obtain ⟨r, hr⟩ : ∃ r, bracketsP L (c1, c2) o1 o2 around = r := ⟨_, rfl⟩
      rw [hr] at hV
      have HBR : Hid (∀ W, Below w.heap.size w W → Calls Tryd.prog 23 #[.slice (some ⟨b, off, none⟩) n c, .agg #[.int .i64 (c1 : Nat), .int .i64 (c2 : Nat)], .int .i32 o1, .int .i32 o2, .bool around] W fun e w' => e = .returned (brsV r) ∧ Below W.heap.size W w') := by
        intro W hb
        have := rbrackets_any F (some ⟨b, off, none⟩) n c L c1 c2 o1 o2 around W (HRL.out W hb) hoo HZ.out
        rw [hr] at this
        exact this
      obtain ⟨⟨⟨a1, a2⟩, ⟨b1, b2⟩⟩, hab⟩ : ∃ y, r.getD ((0, 0), (0, 0)) = y := ⟨_, rfl⟩
      obtain ⟨ok, hok⟩ : ∃ y, r.isSome = y := ⟨_, rfl⟩
      have HV2 : Hid (V = .tuple #[.agg #[.int .i64 (a1 : Nat), .int .i64 (a2 : Nat)], .agg #[.int .i64 (b1 : Nat), .int .i64 (b2 : Nat)], .int .i64 0, .bool ok]) := by
        show _ = _
        rw [← hV, ← hok]
        cases r with
        | none => simp only [Option.getD_none] at hab; cases hab; rfl
        | some y => simp only [Option.getD_some] at hab; subst hab; rfl
      unfold brsV plV at HBR
      rw [hab, hok] at HBR
      simp only at HBR
      clear hV hr hab hok hb hoo
      go_enter Tryd.func10, Tryd.ntmps10
      go_upto_region 1 with fail
      rw [HW1.out]
      go_upto_region 4 with (go_at_call 12; refine HCL.out.mono ?_; rintro e w3 ⟨rfl, hb3⟩; obtain ⟨x0, x1, xf0, xf1⟩ := row2 ((hb3.block _ (Array.getElem?_eq_some_iff.1 G1.out).1).trans G1.out))
      obtain ⟨w4, hw4⟩ : ∃ w4, (w3.setCell ⟨w.heap.size, 0, none⟩ (.int .i64 (c1 : Nat))).setCell ⟨w.heap.size, 1, none⟩ (.int .i64 (c2 : Nat)) = w4 := ⟨_, rfl⟩
      have hs4 := HST.out w3 hb3
      rw [hw4] at hs4
      rw [hw4]
      have HS4 := Lib.hid hs4
      have hB4 : Below w.heap.size w w4 := hs4.1
      obtain ⟨x0, x1, xf0, xf1⟩ := row2 hs4.2.1
      obtain ⟨y0, y1, yf0, yf1⟩ := row2 hs4.2.2.1
      obtain ⟨z0, z1, zf0, zf1⟩ := row2 hs4.2.2.2
      have l0 := (hB4.cell (p := ⟨b, off + c1, none⟩) HBL.out).trans HL0.out
      have HB4 := Lib.hid hB4
      clear hw4 hs4 hb3 hB4
      go_upto_region 10 with (first
        | (go_at_call 15; refine (HBK.out _).mono ?_; rintro e w5 ⟨rfl, hw5⟩; subst hw5)
        | (go_at_call 23; refine (HBR.out _ HB4.out).mono ?_; rintro e w6 ⟨rfl, hb6⟩))
      obtain ⟨w7, hw7, hsz7, g5, g6, hb7⟩ := ltwo w6 (.cells #[.int .i64 (a1 : Nat), .int .i64 (a2 : Nat)] 24) (.cells #[.int .i64 (b1 : Nat), .int .i64 (b2 : Nat)] 24)
      rw [hw7]
      have hs7 := HS4.out.below (btr hb6 hb7)
      have hlt : w.heap.size + 1 + 1 < w6.heap.size := by have := (HS4.out.below hb6).2.2.2; exact (Array.getElem?_eq_some_iff.1 this).1
      obtain ⟨S, hS⟩ : ∃ S, w6.heap.size = S := ⟨_, rfl⟩
      rw [hS] at g5 g6 hlt
      rw [hS]
      obtain ⟨s0, s1, -, -⟩ := row2 g5
      obtain ⟨t0, t1, -, -⟩ := row2 g6
      obtain ⟨x0, x1, xf0, xf1⟩ := row2 hs7.2.1
      obtain ⟨y0, y1, yf0, yf1⟩ := row2 hs7.2.2.1
      obtain ⟨z0, z1, zf0, zf1⟩ := row2 hs7.2.2.2
      have HEND := Lib.hid hs7
      have m1 : ¬ S = w.heap.size + 1 := by omega
      have m2 : ¬ S = w.heap.size + 1 + 1 := by omega
      have m3 : ¬ S + 1 = w.heap.size + 1 := by omega
      have m4 : ¬ S + 1 = w.heap.size + 1 + 1 := by omega
      clear hw7 hsz7 g5 g6 hb7 hb6 hs7 hS hlt
      go_region
      all_goals
        go_wp2_with fail
        refine bodyPost_ret (v := .tuple #[.agg #[.int .i64 (a1 : Nat), .int .i64 (a2 : Nat)], .agg #[.int .i64 (b1 : Nat), .int .i64 (b2 : Nat)], .int .i64 0, .bool ok]) ?_ rfl ⟨by rw [HV2.out], ?_⟩
        · rw [results_cctt rfl]
          go_simp
        · have h2 := HEND.out.1
          (repeat' (first | exact h2 | omega | with_reducible refine Below.drew ?_ | with_reducible refine setCell_below ?_ _ _ _ ?_))
end Go.Proofs.YthlhgkeodaifcaaDoor.U
