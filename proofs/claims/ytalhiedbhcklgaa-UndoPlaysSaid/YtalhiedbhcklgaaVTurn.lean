/-
  The program's Turned; the document's List; is a change small?
-/
import Derived.Test.YtalhiedbhcklgaaVList
namespace Go.Proofs.Ytalhiedbhcklgaa.U
open Go.RowKit
set_option linter.unusedVariables false
set_option linter.unusedSimpArgs false
set_option maxRecDepth 100000

theorem FreshR.base {B B' hi n c : Nat} {w : World} {a : Option Addr} {L : List (List Int)} (h : FreshR B hi w a n c L) (hB : B' ≤ B) : FreshR B' hi w a n c L := by
  obtain ⟨vs, h1, h2, h3, h4, h5⟩ := h
  exact ⟨vs, own_mono h1 hB, h2, fun i x hx => by obtain ⟨v, e1, e2, e3⟩ := h3 i x hx; exact ⟨v, e1, own_mono e2 hB, e3⟩, h4, h5⟩

set_option maxHeartbeats 4000000 in
theorem turned_any (F : Nat → Prop) (oa na : Option Addr) (oc nc : Nat) (c : Ch) (w : World) (ho : RdL F w oa c.old.length oc c.old) (hn : RdL F w na c.now.length nc c.now) (hok : OkC c) :
    Calls Try.prog 17 #[.agg #[.int .i64 c.pos, .slice oa c.old.length oc, .slice na c.now.length nc]] w (CopP w (turnC c)) := by
  obtain ⟨wb, hwb⟩ : ∃ wb, (w.alloc (.cells #[.int .i64 c.pos, .slice oa c.old.length oc, .slice na c.now.length nc] 24)).alloc (.cells #[.int .i64 0, .slice none 0 0, .slice none 0 0] 24) = wb := ⟨_, rfl⟩
  have hsix := six_new w (.int .i64 c.pos) (.slice oa c.old.length oc) (.slice na c.now.length nc)
  rw [hwb] at hsix
  have hsz : wb.heap.size = w.heap.size + 2 := by rw [← hwb]; simp
  have hB : Below w.heap.size w wb := by rw [← hwb]; exact ((Below.refl _ _).alloc (Nat.le_refl _) _).alloc (by simp) _
  rw [← hsz] at hsix
  have HC : Hid (Calls Try.prog 44 #[.agg #[.int .i64 c.pos, .slice na c.now.length nc, .slice oa c.old.length oc]] wb fun e w1 => ∃ a1 c1 a2 c2, e = .returned (.agg #[.int .i64 c.pos, .slice a1 c.now.length c1, .slice a2 c.old.length c2]) ∧
      Six w.heap.size (.int .i64 c.pos) (.slice oa c.old.length oc) (.slice na c.now.length nc) w1 ∧ Hid (CopP w (turnC c) (.returned (.agg #[.int .i64 c.pos, .slice a1 c.now.length c1, .slice a2 c.old.length c2])) (((w1.setCell ⟨w.heap.size + 1, 0, none⟩ (.int .i64 c.pos)).setCell ⟨w.heap.size + 1, 1, none⟩ (.slice a1 c.now.length c1)).setCell ⟨w.heap.size + 1, 2, none⟩ (.slice a2 c.old.length c2)))) := by
    refine (copied_any F na oa nc oc (turnC c) wb (hn.below hB) (ho.below hB) hok.turn).mono ?_
    rintro e w1 ⟨a1, c1, a2, c2, rfl, f1, f2, hb⟩
    refine ⟨a1, c1, a2, c2, rfl, hsix w1 hb, a1, c1, a2, c2, rfl, ?_, ?_, ?_⟩
    · have g := set_high (f1.base (B' := w.heap.size + 2) (by omega)) (b := w.heap.size + 1) (by omega) (.int .i64 c.pos) (.slice a1 c.now.length c1) (.slice a2 c.old.length c2)
      exact (g.base (by omega)).mono (by simp)
    · have g := set_high (f2.base (B' := w.heap.size + 2) (by omega)) (b := w.heap.size + 1) (by omega) (.int .i64 c.pos) (.slice a1 c.now.length c1) (.slice a2 c.old.length c2)
      exact (g.base (by omega)).mono (by simp)
    · exact ((((hB.trans (hb.mono (by omega))).setCell (p := ⟨w.heap.size + 1, 0, none⟩) (by simp) _).setCell (p := ⟨w.heap.size + 1, 1, none⟩) (by simp) _).setCell (p := ⟨w.heap.size + 1, 2, none⟩) (by simp) _)
  obtain ⟨c0, c1, c2, d0, d1, d2, z0, z1, z2, l0, l1⟩ := hsix wb (Below.refl _ _)
  have HW := Lib.hid hwb
  clear ho hn hok hwb hsix hsz hB
  obtain ⟨x, hx⟩ : ∃ x, c.old.length = x := ⟨_, rfl⟩
  obtain ⟨y, hy⟩ : ∃ y, c.now.length = y := ⟨_, rfl⟩
  obtain ⟨p, hp⟩ : ∃ p, c.pos = p := ⟨_, rfl⟩
  obtain ⟨P, hP⟩ : ∃ P, CopP w (turnC c) = P := ⟨_, rfl⟩
  rw [hx, hy, hp, hP] at HC
  rw [hx, hy, hp] at HW
  rw [hy] at c2
  rw [hx] at c1
  rw [hp] at c0
  rw [hx, hy, hp, hP]
  clear hx hy hp hP
  obtain ⟨b, hbe⟩ : ∃ b, w.heap.size = b := ⟨_, rfl⟩
  have HBE := Lib.hid hbe
  rw [hbe] at c0 c1 c2 d0 d1 d2 z0 z1 z2 l0 l1 HC
  clear hbe
  go_enter Try.func17, Try.ntmps17
  go_upto_region 1 with fail
  rw [HW.out, HBE.out]
  go_wp2_with fail
  refine HC.out.mono ?_
  rintro e w1 ⟨a1, m1, a2, m2, rfl, ⟨e0, e1, e2, f0, f1, f2, y0, y1, y2, j0, j1⟩, hfin⟩
  clear c0 c1 c2 d0 d1 d2 z0 z1 z2 l0 l1 HC
  go_wp2_with fail
  (try simp only [Exit.inBlock, Exit.then])
  refine bodyPost_ret (v := .agg #[.int .i64 p, .slice a1 y m1, .slice a2 x m2]) ?_ rfl ?_
  · rw [results_cell1 rfl]
    go_simp
  · exact hfin.out

set_option maxHeartbeats 4000000 in
theorem rlist_any (F G : Nat → Prop) (a b : Option Addr) (n c m d : Nat) (cs ds : List Ch) (w : World) (h : RdCs F w a n c cs) (k : RdCs G w b m d ds) :
    Calls Try.prog 33 #[.slice a n c, .slice b m d] w fun e w' => e = .returned (.bool (decide (cs = ds))) ∧ Below w.heap.size w w' := by
  have hl := h.len
  have kl := k.len
  have hsm := h.small
  have ksm := k.small
  by_cases hnm : n = m
  · subst hnm
    have H := Lib.hid h
    have K := Lib.hid k
    have HL := Lib.hid hl
    have KL := Lib.hid kl
    have t1 : ((n : Int) != (n : Int)) = false := by simp
    obtain ⟨R, hR⟩ : ∃ R, decide (cs = ds) = R := ⟨_, rfl⟩
    have HR := Lib.hid hR
    rw [hR]
    clear h k hl kl hR
    go_enter Try.func33, Try.ntmps33
    go_wp2_with fail
    go_loopw [5] (fun v5 wr => ∃ i : Nat, v5 = .int .i64 i ∧ i ≤ n ∧ Hid (cs.take i = ds.take i ∧ Below w.heap.size w wr)) (fun v5 _ => n - (intOf v5).toNat)
    case atStart => exact ⟨0, rfl, Nat.zero_le _, by simp, Below.refl _ _⟩
    case round =>
      obtain ⟨i, rfl, hi, hst⟩ := hrel
      by_cases hlt : i < n
      · obtain ⟨x, hx⟩ : ∃ x, cs[i]? = some x := ⟨_, List.getElem?_eq_getElem (by have := HL.out; omega)⟩
        obtain ⟨y, hy⟩ : ∃ y, ds[i]? = some y := ⟨_, List.getElem?_eq_getElem (by have := KL.out; omega)⟩
        obtain ⟨heq, hb⟩ := hst.out
        obtain ⟨b1, o1, oa, oc, na, nc, rfl, hb1, c0, c1, c2, r1, r2⟩ := H.out.get hb hx
        obtain ⟨b2, o2, pa, pc, qa, qc, rfl, hb2, d0, d1, d2, s1, s2⟩ := K.out.get hb hy
        have hbs := hb.size
        have l1 : b1 < wr.heap.size := by omega
        have l2 : b2 < wr.heap.size := by omega
        have hsame := rsameC_any F G oa na pa qa oc nc pc qc x y wr.drew (r1.below (Below.refl _ _).drew) (r2.below (Below.refl _ _).drew) (s1.below (Below.refl _ _).drew) (s2.below (Below.refl _ _).drew)
        have HSTEP : Hid (x = y → cs.take (i + 1) = ds.take (i + 1)) := by
          intro e
          obtain ⟨q1, q2⟩ := List.getElem?_eq_some_iff.1 hx
          obtain ⟨q3, q4⟩ := List.getElem?_eq_some_iff.1 hy
          rw [List.take_succ_eq_append_getElem q1, List.take_succ_eq_append_getElem q3, heq, q2, q4, e]
        have HNE : Hid (x ≠ y → R = false) := by
          intro e
          rw [← HR.out, decide_eq_false_iff_not]
          intro e2
          rw [e2, hy] at hx
          injection hx with hx
          exact e hx.symm
        have HB := Lib.hid hb
        obtain ⟨z1, e1⟩ : ∃ z, x.old.length = z := ⟨_, rfl⟩
        obtain ⟨z2, e2⟩ : ∃ z, x.now.length = z := ⟨_, rfl⟩
        obtain ⟨z3, e3⟩ : ∃ z, y.old.length = z := ⟨_, rfl⟩
        obtain ⟨z4, e4⟩ : ∃ z, y.now.length = z := ⟨_, rfl⟩
        obtain ⟨p1, e5⟩ : ∃ z, x.pos = z := ⟨_, rfl⟩
        obtain ⟨p2, e6⟩ : ∃ z, y.pos = z := ⟨_, rfl⟩
        rw [e1, e2, e3, e4, e5, e6] at hsame
        rw [e5] at c0
        rw [e1] at c1
        rw [e2] at c2
        rw [e6] at d0
        rw [e3] at d1
        rw [e4] at d2
        have HSM := Lib.hid hsame
        clear hst hx hy heq hb r1 r2 s1 s2 hsame e1 e2 e3 e4 e5 e6 hbs
        cases hxy : decide (x = y) with
        | true =>
          have HN : Hid (cs.take (i + 1) = ds.take (i + 1)) := HSTEP.out (of_decide_eq_true hxy)
          rw [hxy] at HSM
          clear hxy HNE HSTEP
          go_wp2_with fail
          go_still_tail 8, (by kernel_rfl)
          change wpList _ _ _ _ _ wr.drew
          go_wp2_with (go_at_call 16; refine HSM.out.mono ?_; rintro e w1 ⟨rfl, hb3⟩)
          go_roundw
          case rel => exact ⟨i + 1, by go_num, by omega, HN.out, HB.out.drew.trans (hb3.mono HB.out.size)⟩
          case measure => simp [intOf]; omega
        | false =>
          have HRF : Hid (R = false) := HNE.out (of_decide_eq_false hxy)
          rw [hxy] at HSM
          clear hxy HNE HSTEP
          go_wp2_with fail
          go_still_tail 8, (by kernel_rfl)
          change wpList _ _ _ _ _ wr.drew
          go_wp2_with (go_at_call 16; refine HSM.out.mono ?_; rintro e w1 ⟨rfl, hb3⟩)
          go_ret
          exact ⟨ret_bool HRF.out.symm, HB.out.drew.trans (hb3.mono HB.out.size)⟩
      · obtain rfl : i = n := by omega
        have HF : Hid (R = true ∧ Below w.heap.size w wr) := by
          obtain ⟨heq, hb⟩ := hst.out
          rw [List.take_of_length_le (by have := HL.out; omega), List.take_of_length_le (by have := KL.out; omega)] at heq
          exact ⟨by rw [← HR.out]; exact decide_eq_true heq, hb⟩
        clear hst
        go_wp2_with fail
        go_ret
        exact ⟨ret_bool HF.out.1.symm, HF.out.2⟩
  · have t1 : ((n : Int) != (m : Int)) = true := by simp; omega
    have t2 : decide (cs = ds) = false := by
      rw [decide_eq_false_iff_not]
      intro e
      subst e
      omega
    rw [t2]
    clear h k hl kl t2 hnm
    go_enter Try.func33, Try.ntmps33
    go_wp2_with fail
    go_ret
    exact ⟨rfl, Below.refl _ _⟩

/-- is a change small? -/
def smallC (c : Ch) : Bool := smallL c.old && smallL c.now
set_option maxHeartbeats 2000000 in
theorem small5_any (F : Nat → Prop) (oa na : Option Addr) (oc nc : Nat) (c : Ch) (w : World) (ho : RdL F w oa c.old.length oc c.old) (hn : RdL F w na c.now.length nc c.now) (wo : WideL c.old) (wn : WideL c.now) :
    Calls Try.prog 10 #[.agg #[.int .i64 c.pos, .slice oa c.old.length oc, .slice na c.now.length nc]] w fun e w' => e = .returned (.bool (smallC c)) ∧ Below w.heap.size w w' := by
  obtain ⟨wb, hwb⟩ : ∃ wb, w.alloc (.cells #[.int .i64 c.pos, .slice oa c.old.length oc, .slice na c.now.length nc] 24) = wb := ⟨_, rfl⟩
  have hB : Below w.heap.size w wb := by rw [← hwb]; exact (Below.refl _ _).alloc (Nat.le_refl _) _
  have g1 : wb.heap[w.heap.size]? = some (.cells #[.int .i64 c.pos, .slice oa c.old.length oc, .slice na c.now.length nc] 24 (0, 0)) := by rw [← hwb]; exact heap_alloc_new w _
  have HO := Lib.hid (small_wide F oa c.old.length oc c.old wb (ho.below hB) wo)
  have HN := Lib.hid (small_wide F na c.now.length nc c.now wb (hn.below hB) wn)
  have c1 := cell_row g1 1
  have c2 := cell_row g1 2
  have l0 := heap_lt g1
  have e1 : #[Value.int IntKind.i64 c.pos, Value.slice oa c.old.length oc, Value.slice na c.now.length nc][1]? = some (.slice oa c.old.length oc) := rfl
  have e2 : #[Value.int IntKind.i64 c.pos, Value.slice oa c.old.length oc, Value.slice na c.now.length nc][2]? = some (.slice na c.now.length nc) := rfl
  rw [e1] at c1
  rw [e2] at c2
  have HW := Lib.hid hwb
  have HB := Lib.hid hB
  unfold smallC
  obtain ⟨so, hso⟩ : ∃ s, smallL c.old = s := ⟨_, rfl⟩
  obtain ⟨sn, hsn⟩ : ∃ s, smallL c.now = s := ⟨_, rfl⟩
  rw [hso] at HO ⊢
  rw [hsn] at HN ⊢
  obtain ⟨x, hx⟩ : ∃ x, c.old.length = x := ⟨_, rfl⟩
  obtain ⟨y, hy⟩ : ∃ y, c.now.length = y := ⟨_, rfl⟩
  obtain ⟨p, hp⟩ : ∃ p, c.pos = p := ⟨_, rfl⟩
  rw [hx, hy, hp] at HW
  rw [hx] at HO c1
  rw [hy] at HN c2
  rw [hx, hy, hp]
  clear ho hn wo wn hwb hB g1 hso hsn hx hy hp e1 e2
  cases so with
  | true =>
    rw [Bool.true_and]
    go_enter Try.func10, Try.ntmps10
    go_upto_region 1 with fail
    rw [HW.out]
    go_wp2_with fail
    refine HO.out.mono ?_
    rintro e w' ⟨rfl, rfl⟩
    go_wp2_with fail
    refine HN.out.mono ?_
    rintro e w' ⟨rfl, rfl⟩
    go_wp2_with fail
    go_ret
    exact ⟨rfl, HB.out⟩
  | false =>
    rw [Bool.false_and]
    go_enter Try.func10, Try.ntmps10
    go_upto_region 1 with fail
    rw [HW.out]
    go_wp2_with fail
    refine HO.out.mono ?_
    rintro e w' ⟨rfl, rfl⟩
    go_wp2_with fail
    go_ret
    exact ⟨rfl, HB.out⟩
end Go.Proofs.Ytalhiedbhcklgaa.U
