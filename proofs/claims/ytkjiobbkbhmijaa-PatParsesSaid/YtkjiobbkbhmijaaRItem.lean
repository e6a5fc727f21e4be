/-
  The program's reader: an item of a set.
-/
import Derived.Test.YtkjiobbkbhmijaaRTook
namespace Go.Proofs.Ytkjiobbkbhmijaa.U
open Go.RowKit
set_option linter.unusedVariables false
set_option linter.unusedSimpArgs false
set_option maxRecDepth 100000

theorem rest_of {w : World} {br : Nat} {p l : List Int} {n o : Nat} (h : RdS w br p l n o) : ∃ a cap i, w.cell? ⟨br, 0, none⟩ = some (.slice a p.length cap) ∧ w.cell? ⟨br, 1, none⟩ = some (.int .i64 (i : Nat)) ∧ i ≤ p.length ∧ p.length ≤ cap ∧ cap ≤ 9223372036854775807 ∧ p.length - i = l.length ∧ p.length ≤ 1000000 ∧
    Hid (Rd .i32 w (if cap = i then a else a.map (fun x => x.add i)) l.length (cap - i) l) ∧ (∀ j, w.frozen? ⟨br, j, none⟩ = false) ∧ Hid (InF (fun k => k < br) (if cap = i then a else a.map (fun x => x.add i)) l.length) := by
  obtain ⟨a, cap, i, e0, e1, e2, e3, fz, hr, hin, hd, hi, hn, hp, ho⟩ := h.cells
  have hll : l.length = p.length - i := by rw [hd]; simp
  have hrd := hr.drop i hi
  rw [← hd, ← hll, Nat.mul_one] at hrd
  have hid := hin.drop (c := cap) hi
  rw [← hll, Nat.mul_one] at hid
  have := hr.2.2.1
  unfold maxLen at this
  exact ⟨a, cap, i, e0, e1, hi, hr.2.1, by omega, hll.symm, hp, hrd, fz, hid⟩
def itemV (c : Int) (l : List Int) : Int × Int := if isRange l then (c, l.getD 1 0) else (c, c)
def itemL (l : List Int) : List Int := if isRange l then l.drop 2 else l
set_option maxHeartbeats 2000000 in
theorem item_any (br : Nat) (p l : List Int) (c : Int) (n o : Nat) (w : World) (h : RdS w br p (c :: l) n o) :
    Calls Try.prog 55 #[.pointer (some ⟨br, 0, none⟩)] w fun e w' => e = .returned (.agg #[.int .i64 (itemV c l).1, .int .i64 (itemV c l).2]) ∧ RdS w' br p (itemL l) n o ∧ Fr (· = br) w w' := by
  have hlt := h.lt
  obtain ⟨w1, hw1⟩ : ∃ w1, w.alloc (.cells #[.int .i64 0, .int .i64 0] 48) = w1 := ⟨_, rfl⟩
  have hb1 : Below w.heap.size w w1 := by rw [← hw1]; exact bal _ _
  have hg1 : w1.heap[w.heap.size]? = some (.cells #[.int .i64 0, .int .i64 0] 48 (0, 0)) := by rw [← hw1]; exact heap_alloc_new w _
  have HNX : Hid (Calls Try.prog 49 #[.pointer (some ⟨br, 0, none⟩)] w1 fun e w' => e = .returned (.int .i32 c) ∧ RdS w' br p l n o ∧ Fr (· = br) w1 w') := next_any br p l c n o w1 (h.below hb1)
  have hcb : -2147483648 ≤ c ∧ c ≤ 2147483647 := by
    obtain ⟨a, cap, i, e0, e1, e2, e3, fz, hr, hin, hd, hi, hn, hp, ho⟩ := h.cells
    obtain ⟨hil, hc, hl⟩ := drop_cons hd
    have := hr.i32 i
    rw [hc] at this
    exact this
  obtain ⟨hc0, hc1⟩ := hcb
  have HG1 := Lib.hid hg1
  have HB1 := Lib.hid hb1
  have HW1 := Lib.hid hw1
  clear hg1 hb1 hw1 h
  go_enter Try.func55, Try.ntmps55
  go_upto_region 1 with fail
  rw [HW1.out]
  go_upto_region 2 with (go_at_call 49; refine HNX.out.mono ?_; rintro e w2 ⟨rfl, h2, hf2⟩; have H2 := Lib.hid (And.intro h2 hf2); clear h2 hf2)
  obtain ⟨a, cap, i, e0, e1, hi, hqc, hcm, hql, hp6, HRD, fz, HIN⟩ := rest_of H2.out.1
  obtain ⟨q, hq⟩ : ∃ q, p.length = q := ⟨_, rfl⟩
  rw [hq] at e0 hi hqc hql hp6
  obtain ⟨m, hm⟩ : ∃ m, l.length = m := ⟨_, rfl⟩
  rw [hm] at hql HRD HIN
  obtain ⟨ck, hck⟩ : ∃ ck, cap - i = ck := ⟨_, rfl⟩
  rw [hck] at HRD
  have hiq : (i : Int) ≤ (q : Int) := by omega
  have hqci : (q : Int) ≤ (cap : Int) := by omega
  have hmc : m ≤ ck := by omega
  have HQ := Lib.hid hq
  have HM := Lib.hid hm
  clear hq hm
  obtain ⟨ar, har⟩ : ∃ ar, (if cap = i then a else a.map (fun x => x.add i)) = ar := ⟨_, rfl⟩
  rw [har] at HRD HIN
  have HAR := Lib.hid har
  clear har
  go_cut [4] from 5 to 16 (fun v wx => v = .slice ar m ck ∧ Hid (Below w2.heap.size w2 wx))
  case first =>
    go_quiet (fail)
    go_wp2
    all_goals go_meet
    all_goals refine ⟨?_, by first | exact Below.refl _ _ | exact bdrewN (Below.refl _ _) _⟩
    all_goals (first | (rw [← HAR.out]; done) | (rw [← HAR.out, if_pos (by omega)]) | (rw [← HAR.out, if_neg (by omega)]))
  case rest =>
  obtain ⟨rfl, hcb⟩ := hcut
  clear HAR
  have hwc : wc.heap[w.heap.size]? = some (.cells #[.int .i64 0, .int .i64 0] 48 (0, 0)) := by
    have h1 := heap_lt HG1.out
    rw [hcb.out.block _ (by have := H2.out.2.size; omega), H2.out.2.block _ h1 (by omega)]
    exact HG1.out
  have r0 : wc.cell? ⟨w.heap.size, 0, none⟩ = some (.int .i64 0) := by rw [cell_row hwc]; rfl
  have r1 : wc.cell? ⟨w.heap.size, 1, none⟩ = some (.int .i64 0) := by rw [cell_row hwc]; rfl
  have z0 := frozen_row hwc 0
  have z1 := frozen_row hwc 1
  have HRC : Hid (RdS wc br p l n o ∧ Fr (· = br) w1 wc) := ⟨H2.out.1.below hcb.out, H2.out.2.trans (Fr.of_below _ hcb.out) (fun _ _ h => h)⟩
  have HFW : Hid (∀ W : World, Fr (fun j => j = br ∨ j = w.heap.size) w1 W → Fr (· = br) w W) := by
    intro W hW
    have h1 := HB1.out
    exact ⟨hW.os.trans h1.os, hW.tape.trans h1.tape, hW.output.trans h1.output, Nat.le_trans h1.size hW.size, fun j hj hne => (hW.block j (Nat.lt_of_lt_of_le hj h1.size) (fun e => e.elim hne (fun e => by omega))).trans (h1.block j hj)⟩
  have HW0 : Hid (wc.heap[w.heap.size]? = some (.cells #[.int .i64 0, .int .i64 0] 48 (0, 0))) := hwc
  clear hwc
  have hfin0 : isRange l = false → ∀ (e : Ending) (W : World), e = .returned (.agg #[.int .i64 c, .int .i64 c]) → W = (wc.setCell ⟨w.heap.size, 0, none⟩ (.int .i64 c)).setCell ⟨w.heap.size, 1, none⟩ (.int .i64 c) →
      e = .returned (.agg #[.int .i64 (itemV c l).1, .int .i64 (itemV c l).2]) ∧ RdS W br p (itemL l) n o ∧ Fr (· = br) w W := by
    rintro hr e W rfl rfl
    have hf : Fr (fun j => j = w.heap.size) wc ((wc.setCell ⟨w.heap.size, 0, none⟩ (.int .i64 c)).setCell ⟨w.heap.size, 1, none⟩ (.int .i64 c)) := ((Fr.refl (fun j => j = w.heap.size) wc).setCell ⟨w.heap.size, 0, none⟩ _ (fun _ => rfl)).setCell ⟨w.heap.size, 1, none⟩ _ (fun _ => rfl)
    refine ⟨by unfold itemV; rw [hr]; rfl, ?_, HFW.out _ ((HRC.out.2.mono (fun _ _ h => Or.inl h)).trans hf (fun _ _ h => Or.inr h))⟩
    unfold itemL
    rw [hr]
    exact HRC.out.1.fr hf (fun k e => by omega)
  have HFIN0 := Lib.hid hfin0
  clear hfin0
  by_cases hm2 : m < 2
  · have hr : isRange l = false := by
      unfold isRange
      rw [show decide (2 ≤ l.length) = false by simp; have := HM.out; omega]
      rfl
    have g0 : decide ((m : Int) < 2) = true := by simp; omega
    have HR := Lib.hid hr
    clear hr
    go_wp2
    refine bodyPost_ret (v := .agg #[.int .i64 c, .int .i64 c]) ?_ rfl (HFIN0.out HR.out _ _ rfl rfl)
    rw [results_cell1 rfl]
    go_simp
  · obtain ⟨x, y, l', hl⟩ : ∃ x y l', l = x :: y :: l' := by
      match l, HM.out with
      | [], h => simp at h; omega
      | [_], h => simp at h; omega
      | x :: y :: l', _ => exact ⟨x, y, l', rfl⟩
    subst hl
    have hyb := HRD.out.i32 1
    obtain ⟨b, off, rfl, hbl, hc0'⟩ := HRD.out.at_ (i := 0) (by omega)
    obtain ⟨b', off', hbb, -, hc1'⟩ := HRD.out.at_ (i := 1) (by omega)
    cases hbb
    have e2 := (hcb.out.cell (p := ⟨b, off, none⟩) hbl).trans hc0'
    have e3 := (hcb.out.cell (p := ⟨b, off + 1, none⟩) hbl).trans hc1'
    have hyb2 : -2147483648 ≤ y ∧ y ≤ 2147483647 := hyb
    obtain ⟨hy0, hy1⟩ := hyb2
    replace e2 : wc.cell? ⟨b, off, none⟩ = some (.int .i32 x) := e2
    replace e3 : wc.cell? ⟨b, off + 1, none⟩ = some (.int .i32 y) := e3
    clear hyb hc0' hc1'
    have g0 : decide ((m : Int) < 2) = false := by simp; omega
    have g1 : ¬ (m : Int) < 2 := by omega
    have g2 : (0 : Int) < (m : Int) := by omega
    have g3 : (1 : Int) < (m : Int) := by omega
    by_cases hx : x = 45
    · subst hx
      by_cases hy : y = 93
      · subst hy
        have HR : Hid (isRange (45 :: 93 :: l') = false) := by show _ = _; simp [isRange]
        go_wp2
        refine bodyPost_ret (v := .agg #[.int .i64 c, .int .i64 c]) ?_ rfl (HFIN0.out HR.out _ _ rfl rfl)
        rw [results_cell1 rfl]
        go_simp
      · have hyf : (y == 93) = false := by simpa using hy
        have HR : Hid (isRange (45 :: y :: l') = true) := by show _ = _; simp [isRange, hy]
        have hbbr : b < br := HIN.out (by omega) _ rfl
        have n1 : ¬ b = br := by omega
        have n2 : ¬ br = b := by omega
        have n3 : ¬ b = w.heap.size := by omega
        have n4 : ¬ w.heap.size = b := by omega
        have n5 : ¬ br = w.heap.size := by omega
        have n6 : ¬ w.heap.size = br := by omega
        have e1c := (hcb.out.cell (p := ⟨br, 1, none⟩) (by have := H2.out.1.lt; omega)).trans e1
        have f1 : wc.frozen? ⟨br, 1, none⟩ = false := by
          obtain ⟨_, _, _, _, _, _, _, fz', _⟩ := HRC.out.1.cells
          exact fz' 1
        obtain ⟨k, hk⟩ : ∃ k, i + 2 = k := ⟨_, rfl⟩
        have hk1 : (i : Int) + 2 = (k : Int) := by omega
        have hk2 : k ≤ 1000002 := by omega
        have hst := HRC.out.1.setAt (Below.refl _ wc) 2 (by simp) e1c (v := .int .i64 (k : Nat)) (by rw [← hk])
        have hfin : ∀ (e : Ending) (W : World), e = .returned (.agg #[.int .i64 c, .int .i64 y]) → Fr (fun j => j = w.heap.size) (wc.setCell ⟨br, 1, none⟩ (.int .i64 (k : Nat))) W →
            e = .returned (.agg #[.int .i64 (itemV c (45 :: y :: l')).1, .int .i64 (itemV c (45 :: y :: l')).2]) ∧ RdS W br p (itemL (45 :: y :: l')) n o ∧ Fr (· = br) w W := by
          rintro e W rfl hf
          refine ⟨by unfold itemV; rw [HR.out]; rfl, ?_, HFW.out _ (((HRC.out.2.trans hst.2 (fun _ _ h => h)).mono (fun _ _ h => Or.inl h)).trans hf (fun _ _ h => Or.inr h))⟩
          unfold itemL
          rw [HR.out]
          exact hst.1.fr hf (fun k e => by omega)
        have HFIN := Lib.hid hfin
        clear hfin hst hk HR hcb HIN HRD H2
        go_wp2
        refine bodyPost_ret (v := .agg #[.int .i64 c, .int .i64 y]) ?_ rfl (HFIN.out _ _ rfl ?_)
        · rw [results_cell1 rfl]
          go_simp
        · refine Fr.setCell (Fr.setCell (Fr.refl _ _) _ _ ?_) _ _ ?_ <;> exact fun _ => rfl
    · have hxf : (x != 45) = true := by simpa using hx
      have HR : Hid (isRange (x :: y :: l') = false) := by show _ = _; simp [isRange, hx]
      go_wp2
      refine bodyPost_ret (v := .agg #[.int .i64 c, .int .i64 c]) ?_ rfl (HFIN0.out HR.out _ _ rfl rfl)
      rw [results_cell1 rfl]
      go_simp
end Go.Proofs.Ytkjiobbkbhmijaa.U
