/-
  The program's New and Get.
-/
import Derived.Test.YtleidcegbfnmkaaHCop
namespace Go.Proofs.Ytleidcegbfnmkaa.U
open Go.RowKit
set_option linter.unusedVariables false
set_option linter.unusedSimpArgs false
set_option maxRecDepth 100000

/-- what Get tells: lines in memory of their own -/
def GetF (w w' : World) (g : Rg) (er : Int) (e : Ending) : Prop := ∃ a c, e = .returned (.tuple #[rgV g.k a g.L.length c, .int .i64 er]) ∧ FreshL w.heap.size w' a g.L.length c g.L ∧ (∀ x ∈ g.L, ∀ y ∈ x, (Lit.int .i32 y).wf = true) ∧ Below w.heap.size w w'
theorem getF_none {w wb W : World} {b : Nat} {er : Int} (hb : Below w.heap.size w wb) (hbe : w.heap.size = b) (h : Below w.heap.size wb W) : GetF w ((W.setCell ⟨b, 0, none⟩ (.int .i64 0)).setCell ⟨b, 1, none⟩ (.slice none 0 0)) rg0 er (.returned (.tuple #[.agg #[.int .i64 0, .slice none 0 0], .int .i64 er])) := by
  refine ⟨none, 0, rfl, FreshL.nil _ _, fun x hx => (by cases hx), ?_⟩
  refine Below.setCell (Below.setCell (hb.trans h) ?_ _) ?_ _ <;> simp <;> omega
theorem getF_none0 {w wb : World} {er : Int} (hb : Below w.heap.size w wb) : GetF w wb rg0 er (.returned (.tuple #[.agg #[.int .i64 0, .slice none 0 0], .int .i64 er])) :=
  ⟨none, 0, rfl, FreshL.nil _ _, fun x hx => (by cases hx), hb⟩
theorem name95 {n : Int} (h : n ≠ 95) : nameG n ≠ 95 := by
  intro e
  by_cases h0 : n = 0
  · subst h0
    revert e
    decide
  · have he : (if n = 0 then (34 : Int) else n) = n := if_neg h0
    unfold nameG at e
    rw [he] at e
    by_cases hb : bigR n = true
    · rw [if_pos hb] at e
      unfold bigR at hb
      simp only [Bool.and_eq_true, decide_eq_true_eq] at hb
      omega
    · rw [if_neg hb] at e
      exact h e
theorem may_names {n : Int} (hm : mayG (nameG n) = true) (h95 : n ≠ 95) : nmB (nameG n) = true := by
  have h2 := name95 h95
  unfold mayG littleR at hm
  unfold nmB littleR
  simp only [Bool.or_eq_true, Bool.and_eq_true, decide_eq_true_eq] at hm ⊢
  omega
theorem getR_held {H : Nat → Rg} {last : Nat} {n : Int} (hm : mayG (nameG n) = true) (h95 : n ≠ 95) : getR (allH H last) n = (match heldH (H (plN last (nameG n))) with | some r => (r, 0) | none => (rg0, 26)) := by
  have hn := may_names hm h95
  unfold getR
  rw [if_pos hm, all_holds, if_pos hn]
  rfl
theorem getR_95 (H : Nat → Rg) (last : Nat) : getR (allH H last) 95 = (rg0, 26) := by
  unfold getR
  rw [show nameG 95 = 95 by decide, if_pos (by decide), all_holds, if_neg (by decide)]
theorem getR_no {s : List Nm} {n : Int} (hm : mayG (nameG n) = false) : getR s n = (rg0, 1) := by unfold getR; rw [hm]; rfl
set_option maxHeartbeats 2000000 in
theorem pget_any (P : Nat → Prop) (bx : Nat) (s : List Nm) (n : Int) (w : World) (h : GSt P w bx s) (hwf : (Lit.int .i32 n).wf = true) :
    Calls Try.prog 11 #[.pointer (some ⟨bx, 0, none⟩), .int .i32 n] w fun e w' => GetF w w' (getR s n).1 (getR s n).2 e := by
  obtain ⟨H, last, V, G, h, rfl⟩ := h
  obtain ⟨wb, hwb⟩ : ∃ wb, w.alloc (.cells #[.int .i64 0, .slice none 0 0] 31) = wb := ⟨_, rfl⟩
  have hbx := box_new w 0 none 0 0
  rw [hwb] at hbx
  have hsz : wb.heap.size = w.heap.size + 1 := by rw [← hwb]; simp
  have hB : Below w.heap.size w wb := by rw [← hwb]; exact (Below.refl _ _).alloc (Nat.le_refl _) _
  have hx := hbx wb (by rw [← hsz]; exact Below.refl _ _)
  have hg := h.below hB
  have hlt := h.lt bx h.box
  have HB := Lib.hid hB
  have HW := Lib.hid hwb
  have HG := Lib.hid hg
  have HS := Lib.hid hsz
  have HBX : Hid (∀ W, Below wb.heap.size wb W → BoxS W w.heap.size 0 none 0 0) := by rw [hsz]; exact hbx
  clear hwb hB hbx hsz h hg
  obtain ⟨b, hbe⟩ : ∃ b, w.heap.size = b := ⟨_, rfl⟩
  have HBE := Lib.hid hbe
  rw [hbe] at hx HBX
  have hltb : bx < wb.heap.size := by have := HS.out; omega
  clear hbe hlt
  obtain ⟨q0, q1, y0, y1, l0⟩ := hx
  by_cases h95 : n = 95
  · subst h95
    rw [getR_95]
    go_enter Try.func11, Try.ntmps11
    go_upto_region 1 with fail
    rw [HW.out, HBE.out]
    go_wp2_with fail
    refine bodyPost_ret (v := .tuple #[.agg #[.int .i64 0, .slice none 0 0], .int .i64 26]) ?_ rfl ?_
    · rw [results_ct rfl]
      go_simp
    · first | exact getF_none HB.out HBE.out (Below.refl _ _) | exact getF_none0 HB.out
  · have f95 : (n == 95) = false := by simpa using h95
    have HP := Lib.hid (pplace_any bx last n wb HG.out.lc hwf h95)
    cases hm : mayG (nameG n) with
    | false =>
      rw [getR_no hm]
      rw [hm] at HP
      clear hm h95
      go_enter Try.func11, Try.ntmps11
      go_upto_region 1 with fail
      rw [HW.out, HBE.out]
      go_wp2_with (go_at_call 22; (with_reducible refine HP.out.mono ?_); rintro e w1 ⟨rfl, rfl⟩)
      refine bodyPost_ret (v := .tuple #[.agg #[.int .i64 0, .slice none 0 0], .int .i64 1]) ?_ rfl ?_
      · rw [results_ct rfl]
        go_simp
      · first | exact getF_none HB.out HBE.out (Below.refl _ _) | exact getF_none0 HB.out
    | true =>
      have hn := may_names hm h95
      rw [getR_held hm h95]
      have hsp : spotI last n = ((plN last (nameG n) : Nat) : Int) := by unfold spotI; rw [hm]; rfl
      have hi := HG.out.ok.pl hn
      rw [hm, hsp] at HP
      obtain ⟨i, hie⟩ : ∃ i, plN last (nameG n) = i := ⟨_, rfl⟩
      rw [hie] at hi HP ⊢
      have c0 := HG.out.kc i hi
      have c1 := HG.out.vc i hi
      obtain ⟨⟨rk, rL⟩, hr⟩ : ∃ r, H i = r := ⟨_, rfl⟩
      obtain ⟨⟨va, vc⟩, hv⟩ : ∃ v, V i = v := ⟨_, rfl⟩
      have hown := HG.out.own i hi
      rw [hr, hv] at hown
      rw [hr] at c0
      rw [hr, hv] at c1
      rw [hr]
      have hok := HG.out.ok.ok i hi
      rw [hr] at hok
      simp only at c0 c1 hown hok ⊢
      have hsm := hown.small
      have HO := Lib.hid (And.intro hown hok)
      obtain ⟨m, hmm⟩ : ∃ m, rL.length = m := ⟨_, rfl⟩
      have HM := Lib.hid hmm
      rw [hmm] at c1 hsm
      clear hm h95 hn hsp hie hr hv hown hok hmm
      by_cases hm0 : m = 0
      · subst hm0
        have hL : rL = [] := List.eq_nil_of_length_eq_zero HM.out
        rw [held_none hL]
        clear hL
        go_enter Try.func11, Try.ntmps11
        go_upto_region 1 with fail
        rw [HW.out, HBE.out]
        go_wp2_with (go_at_call 22; (with_reducible refine HP.out.mono ?_); rintro e w1 ⟨rfl, rfl⟩)
        refine bodyPost_ret (v := .tuple #[.agg #[.int .i64 0, .slice none 0 0], .int .i64 26]) ?_ rfl ?_
        · rw [results_ct rfl]
          go_simp
        · first | exact getF_none HB.out HBE.out (Below.refl _ _) | exact getF_none0 HB.out
      · have hL : rL ≠ [] := by
          intro e
          have := HM.out
          rw [e] at this
          exact hm0 this.symm
        have hs : sizeR rL ≤ 1048576 := by have := (HO.out.2.resolve_left hL).2.2.2; simp only at this; omega
        rw [held_some hL]
        have fm : ((m : Int) == 0) = false := by simpa using hm0
        have HC : Hid (∀ W, W = wb → Calls Try.prog 23 #[.agg #[.int .i64 rk, .slice va m vc]] W fun e w' => ∃ a' c', e = .returned (.agg #[.int .i64 rk, .slice a' m c']) ∧ BoxS w' b 0 none 0 0 ∧ Hid (FreshL wb.heap.size w' a' m c' rL ∧ Below wb.heap.size wb w')) := by
          rintro W rfl
          have hrd := HO.out.1.rdl
          rw [HM.out] at hrd
          refine (pcopied_any _ rk va m vc rL _ hrd hs).mono ?_
          rintro e w' ⟨a', c', rfl, hf, hb⟩
          exact ⟨a', c', rfl, HBX.out w' hb, hf, hb⟩
        have HWF : Hid (∀ x ∈ rL, ∀ y ∈ x, (Lit.int .i32 y).wf = true) := by
          obtain ⟨vs, _, _, h3⟩ := HO.out.1
          intro x hx
          obtain ⟨i, hi, rfl⟩ := List.getElem_of_mem hx
          obtain ⟨v, _, _, _, h4⟩ := h3.2.1 i _ (List.getElem?_eq_getElem hi)
          exact h4
        clear hm0 hL hs HO
        go_enter Try.func11, Try.ntmps11
        go_upto_region 1 with fail
        rw [HW.out, HBE.out]
        go_wp2_with (first
          | (go_at_call 22; (with_reducible refine HP.out.mono ?_); rintro e w1 ⟨rfl, rfl⟩)
          | (go_at_call 23; (with_reducible refine (HC.out _ rfl).mono ?_); rintro e w2 ⟨a', c', rfl, ⟨t0, t1, t2, t3, t4⟩, HF⟩))
        refine bodyPost_ret (v := .tuple #[.agg #[.int .i64 rk, .slice a' m c'], .int .i64 0]) ?_ rfl ?_
        · rw [results_ct rfl]
          go_simp
        · have hf : Fr (fun k => k = b) w2 ((w2.setCell ⟨b, 0, none⟩ (.int .i64 rk)).setCell ⟨b, 1, none⟩ (.slice a' m c')) := ((Fr.refl (fun k => k = b) w2).setCell ⟨b, 0, none⟩ _ (fun _ => rfl)).setCell ⟨b, 1, none⟩ _ (fun _ => rfl)
          have h1 := HBE.out
          have h2 := HS.out
          refine ⟨a', c', by rw [HM.out]; rfl, ?_, HWF.out, ?_⟩
          · rw [HM.out]
            exact (HF.out.1.fr hf (fun k q1 q2 => by omega)).mono (by omega)
          · refine Below.setCell (Below.setCell (HB.out.trans (HF.out.2.mono (by omega))) ?_ _) ?_ _ <;> simp <;> omega
/-- Get of registers that are none -/
theorem pget_nil (n : Int) (w : World) : Calls Try.prog 11 #[.pointer none, .int .i32 n] w fun e w' => e = .returned (.tuple #[.agg #[.int .i64 0, .slice none 0 0], .int .i64 1]) ∧ Below w.heap.size w w' := by
  obtain ⟨wb, hwb⟩ : ∃ wb, w.alloc (.cells #[.int .i64 0, .slice none 0 0] 31) = wb := ⟨_, rfl⟩
  have hbx := box_new w 0 none 0 0
  rw [hwb] at hbx
  have hsz : wb.heap.size = w.heap.size + 1 := by rw [← hwb]; simp
  have hB : Below w.heap.size w wb := by rw [← hwb]; exact (Below.refl _ _).alloc (Nat.le_refl _) _
  have hx := hbx wb (by rw [← hsz]; exact Below.refl _ _)
  have HB := Lib.hid hB
  have HW := Lib.hid hwb
  clear hwb hB hbx hsz
  obtain ⟨b, hbe⟩ : ∃ b, w.heap.size = b := ⟨_, rfl⟩
  have HBE := Lib.hid hbe
  rw [hbe] at hx
  clear hbe
  obtain ⟨q0, q1, y0, y1, l0⟩ := hx
  go_enter Try.func11, Try.ntmps11
  go_upto_region 1 with fail
  rw [HW.out, HBE.out]
  go_wp2_with fail
  refine bodyPost_ret (v := .tuple #[.agg #[.int .i64 0, .slice none 0 0], .int .i64 1]) ?_ rfl ⟨rfl, ?_⟩
  · rw [results_ct rfl]
    go_simp
  · have h1 := HBE.out
    first | exact HB.out | (refine Below.setCell (Below.setCell HB.out ?_ _) ?_ _ <;> simp <;> omega)
def zero75 : Array Value := #[.int .i64 0, .slice none 0 0, .int .i64 0, .slice none 0 0, .int .i64 0, .slice none 0 0, .int .i64 0, .slice none 0 0, .int .i64 0, .slice none 0 0, .int .i64 0, .slice none 0 0, .int .i64 0, .slice none 0 0, .int .i64 0, .slice none 0 0, .int .i64 0, .slice none 0 0, .int .i64 0, .slice none 0 0, .int .i64 0, .slice none 0 0, .int .i64 0, .slice none 0 0, .int .i64 0, .slice none 0 0, .int .i64 0, .slice none 0 0, .int .i64 0, .slice none 0 0, .int .i64 0, .slice none 0 0, .int .i64 0, .slice none 0 0, .int .i64 0, .slice none 0 0, .int .i64 0, .slice none 0 0, .int .i64 0, .slice none 0 0, .int .i64 0, .slice none 0 0, .int .i64 0, .slice none 0 0, .int .i64 0, .slice none 0 0, .int .i64 0, .slice none 0 0, .int .i64 0, .slice none 0 0, .int .i64 0, .slice none 0 0, .int .i64 0, .slice none 0 0, .int .i64 0, .slice none 0 0, .int .i64 0, .slice none 0 0, .int .i64 0, .slice none 0 0, .int .i64 0, .slice none 0 0, .int .i64 0, .slice none 0 0, .int .i64 0, .slice none 0 0, .int .i64 0, .slice none 0 0, .int .i64 0, .slice none 0 0, .int .i64 0, .slice none 0 0, .int .i64 0, .slice none 0 0, .int .i64 0]
theorem zero75_at : ∀ i : Fin 37, zero75[i.1 * 2]? = some (.int .i64 0) ∧ zero75[i.1 * 2 + 1]? = some (.slice none 0 0) := by
  rintro ⟨i, hi⟩
  match i, hi with
  | 0, _ | 1, _ | 2, _ | 3, _ | 4, _ | 5, _ | 6, _ | 7, _ | 8, _ | 9, _ | 10, _ | 11, _ | 12, _ | 13, _ | 14, _ | 15, _ | 16, _ | 17, _ | 18, _ | 19, _ | 20, _ | 21, _ | 22, _ | 23, _ | 24, _ | 25, _ | 26, _ | 27, _ | 28, _ | 29, _ | 30, _ | 31, _ | 32, _ | 33, _ | 34, _ | 35, _ | 36, _ => exact ⟨rfl, rfl⟩
  | n + 37, h => omega
theorem gst_new (w : World) : GSt (fun k => k = w.heap.size) (w.alloc (.cells zero75 59)) w.heap.size [] := by
  have hr := heap_alloc_new w (.cells zero75 59)
  refine ⟨fun _ => rg0, 0, fun _ => (none, 0), fun _ _ => False, ⟨⟨_, hr, rfl⟩, by rw [cell_row hr]; rfl, okH_new, fun i hi => by rw [cell_row hr]; exact (zero75_at ⟨i, hi⟩).1, fun i hi => by rw [cell_row hr]; exact (zero75_at ⟨i, hi⟩).2, fun i hi => OwnL.nil, fun _ _ _ _ _ _ h => h.elim, fun _ _ _ h => h.elim, rfl, fun k hk => by subst hk; exact heap_lt hr⟩, all_new.symm⟩
set_option maxHeartbeats 2000000 in
theorem pnew_any (w : World) : Calls Try.prog 9 #[] w fun e w' => e = .returned (.pointer (some ⟨w.heap.size, 0, none⟩)) ∧ GSt (fun k => k = w.heap.size) w' w.heap.size [] ∧ Below w.heap.size w w' := by
  have HG := Lib.hid (gst_new w)
  have hz : ∀ W, Sem.run Try.prog (zeroValue 59) W = .ok (.agg zero75) W := fun W => by kernel_rfl
  go_enter Try.func9, Try.ntmps9
  go_wp2_with fail
  go_ret
  exact ⟨rfl, HG.out, (Below.refl _ _).alloc (Nat.le_refl _) _⟩
end Go.Proofs.Ytleidcegbfnmkaa.U
