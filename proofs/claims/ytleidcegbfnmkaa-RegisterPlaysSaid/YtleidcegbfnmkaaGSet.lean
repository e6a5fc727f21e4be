/-
  The document's set. MADE by wip/tools/gen_rset12.py.
-/
import Derived.Test.YtleidcegbfnmkaaGOut
namespace Go.Proofs.Ytleidcegbfnmkaa.U
open Go.RowKit
set_option linter.unusedVariables false
set_option linter.unusedSimpArgs false
set_option maxRecDepth 100000

/-- in the midst of set: out is built, i were looked at -/
def SetS (P : Nat → Prop) (bx B : Nat) (s : List Nm) (r : Int) (g : Rg) (wb wr : World) (i : Nat) (put : Bool) (a : Option Addr) (k c : Nat) (out : List Nm) : Prop :=
  out ++ setA r g put (s.drop i) = setR s r g ∧ Below B wb wr ∧ OutS P bx B wr (.slice a k c) k out
theorem setA_step {s : List Nm} {r : Int} {g : Rg} {put : Bool} {i : Nat} {x : Nm} (hx : s[i]? = some x) :
    setA r g put (s.drop i) = (if !put && decide (r ≤ x.1) then [(r, g)] else []) ++ (if x.1 = r then [] else [x]) ++ setA r g (put || decide (r ≤ x.1)) (s.drop (i + 1)) := by
  have hi := (List.getElem?_eq_some_iff.1 hx).1
  rw [List.drop_eq_getElem_cons hi, (List.getElem?_eq_some_iff.1 hx).2]
  obtain ⟨q, o⟩ := x
  rfl

set_option maxHeartbeats 4000000 in
theorem rset_any {P : Nat → Prop} {bx : Nat} {s : List Nm} (F : Nat → Prop) (r : Int) (rk : Int) (ra0 : Option Addr) (n0 c0' : Nat) (L : List (List Int)) (w : World) (h : RSt P w bx s) (hok : OkS s) (hr : RdL F w ra0 n0 c0' L) (hs : sizeR L ≤ 1048576) :
    Calls Try.prog 38 #[.pointer (some ⟨bx, 0, none⟩), .int .i32 r, rgV rk ra0 n0 c0'] w fun e w' => e = .returned (.tuple #[]) ∧ AfS P w w' bx (setR s r ⟨rk, L⟩) := by
  show Calls _ _ #[.pointer (some ⟨bx, 0, none⟩), .int .i32 r, .agg #[.int .i64 rk, .slice ra0 n0 c0']] w _
  have hln := hr.len
  have hwf := lines_wfG hr
  obtain ⟨wb, hwb⟩ : ∃ wb, w.alloc (.cells #[.int .i64 rk, .slice ra0 n0 c0'] 31) = wb := ⟨_, rfl⟩
  have hb1 : Below w.heap.size w wb := by rw [← hwb]; exact (Below.refl _ w).alloc (Nat.le_refl _) _
  have d0 : wb.cell? ⟨w.heap.size, 0, none⟩ = some (.int .i64 rk) := by rw [← hwb, cell_of_row _ _ _ _ _ _ (heap_alloc_new w _)]; rfl
  have d1 : wb.cell? ⟨w.heap.size, 1, none⟩ = some (.slice ra0 n0 c0') := by rw [← hwb, cell_of_row _ _ _ _ _ _ (heap_alloc_new w _)]; rfl
  have hsz : wb.heap.size = w.heap.size + 1 := by rw [← hwb]; simp
  obtain ⟨na, nc, h1, h2, p1, p2⟩ := h.below hb1
  have hbx : bx < w.heap.size := h.lt bx p1
  have hPl : ∀ k, P k → k < wb.heap.size := fun k hk => by have := h.lt k hk; omega
  have e0 : wb.cell? ⟨bx, 0, none⟩ = some (.slice na s.length nc) := by rw [cell_row h1]; rfl
  have hlen := hok.len
  have HT : Hid (∀ W, Hid (Below wb.heap.size wb W) → Calls Try.prog 14 #[.agg #[.int .i64 rk, .slice ra0 n0 c0']] W fun e w' => ∃ a' c', e = .returned (.agg #[.int .i64 rk, .slice a' n0 c']) ∧ Hid (FreshL W.heap.size w' a' n0 c' L ∧ Below W.heap.size W w')) := fun W hW => rtwinR_any F rk ra0 n0 c0' L W (hr.below (hb1.trans (hW.out.mono (by omega)))) hs
  obtain ⟨n, hn⟩ : ∃ n, s.length = n := ⟨_, rfl⟩
  rw [hn] at e0 h2 hlen
  obtain ⟨pb, hpb⟩ : ∃ pb, w.heap.size = pb := ⟨_, rfl⟩
  rw [hpb] at d0 d1 hsz hbx
  obtain ⟨B, hB⟩ : ∃ B, wb.heap.size = B := ⟨_, rfl⟩
  have HBB := Lib.hid hB
  rw [hB] at hsz HT hPl
  have HB := Lib.hid (And.intro hb1 (And.intro hpb (And.intro hsz hn)))
  have HROW := Lib.hid (And.intro h1 h2)
  have HWB := Lib.hid hwb
  have HP := Lib.hid (And.intro hPl hwf)
  have HLN := Lib.hid hln
  clear h1 h2 p2 hb1 hwb hn hPl hwf hln hr hB
  go_enter Try.func38, Try.ntmps38
  go_upto_region 1 with fail
  rw [HWB.out]
  clear hpb
  go_wp2_with fail
  go_loopw [6, 7, 8] (fun v pv iv wr => ∃ (a : Option Addr) (c k i : Nat) (put : Bool) (out : List Nm), v = .slice a k c ∧ pv = .bool put ∧ iv = .int .i64 i ∧ i ≤ n ∧ k ≤ 2 * i ∧ Hid (SetS P bx B s r ⟨rk, L⟩ wb wr i put a k c out)) (fun _ _ iv _ => n - (intOf iv).toNat)
  case atStart => exact ⟨none, 0, 0, 0, false, [], rfl, rfl, rfl, Nat.zero_le _, Nat.zero_le _, rfl, Below.refl _ _, OutS.nil⟩
  case round =>
    obtain ⟨a, c, k, i, put, out, rfl, rfl, rfl, hin, hki, HS⟩ := hrel
    have HBW : Hid (Below B wb wr) := HS.out.2.1
    have hbw := HS.out.2.1
    have f0 := (hbw.cell (p := ⟨pb, 0, none⟩) (by simp only; omega)).trans d0
    have f1 := (hbw.cell (p := ⟨pb, 1, none⟩) (by simp only; omega)).trans d1
    have g0 := (hbw.cell (p := ⟨bx, 0, none⟩) (by simp only; omega)).trans e0
    have hwl : B ≤ wr.heap.size := by have := hbw.size; have := HBB.out; omega
    have z0 : wr.frozen? ⟨bx, 0, none⟩ = false := frozen_row ((hbw.block bx (by omega)).trans HROW.out.1) 0
    by_cases hlt : i < n
    · have hgx : s[i]? = some (s.getD i nm0) := by rw [List.getD_eq_getElem?_getD, List.getElem?_eq_getElem (by have := HB.out; omega)]; rfl
      obtain ⟨x, hx⟩ : ∃ x, s.getD i nm0 = x := ⟨_, rfl⟩
      rw [hx] at hgx
      obtain ⟨b, off, ra, rc, rfl, hb, hF, c0, c1, c2, hrd⟩ := HROW.out.2.get (W := wr) (by have h := hbw; rw [← HBB.out] at h; exact h) hgx
      rw [HBB.out] at hb
      obtain ⟨xr, ⟨xk, xL⟩⟩ := x
      have hstep := HS.out.1
      rw [setA_step hgx] at hstep
      have HST := Lib.hid hstep
      simp only at c0 c1 c2 hrd
      have HXL : Hid (∀ (W : World) {v : Value}, Below B wr W → RdL (FS P bx B W v) W ra xL.length rc xL) := fun W v hW =>
        (hrd.frF (G := fun k => B ≤ k) ⟨hW.os, hW.tape, hW.output, hW.size, fun k _ hk => hW.block k (by omega)⟩ (fun k hk h => by have := HP.out.1 k hk.1; omega)).mono (fun k hk => .inl hk)
      obtain ⟨xm, hxm⟩ : ∃ xm, xL.length = xm := ⟨_, rfl⟩
      have HXN := Lib.hid hxm
      rw [hxm] at c2
      clear hstep hgx hx hbw hrd hF hxm
      cases put
      · by_cases hle : r ≤ xr
        · have hge : decide (r ≤ xr) = true := by simpa using hle
          have HLE := Lib.hid hle
          clear hle
          by_cases hxr : xr = r
          · have hne : (xr != r) = false := by simp [hxr]
            have HXR := Lib.hid hxr
            clear hxr
            go_wp2_with (first
              | (go_at_call 14; (with_reducible refine (HT.out _ HBW).mono ?_); rintro e w1 ⟨t1, tc, rfl, HF⟩; obtain ⟨a1, c1', w6, hrun, ho6, hb6⟩ := OutS.put (m := r) (r := ⟨rk, L⟩) HS.out.2.2 HP.out.1 hwl (by omega) HP.out.2 (by rw [HLN.out]; exact HF.out.1) HF.out.2; simp only [HLN.out] at hrun; have HRUN := Lib.hid hrun; have HO6 := Lib.hid (And.intro ho6 hb6); have m0 := (hb6.cell (p := ⟨b, off + i * 3, none⟩) (by simp only; omega)).trans c0; have m1 := (hb6.cell (p := ⟨b, off + i * 3 + 1, none⟩) (by simp only; omega)).trans c1; have m2 := (hb6.cell (p := ⟨b, off + i * 3 + 2, none⟩) (by simp only; omega)).trans c2; have mg := (hb6.cell (p := ⟨bx, 0, none⟩) (by simp only; omega)).trans g0; have hl6 : B ≤ w6.heap.size := Nat.le_trans hwl hb6.size; clear hrun ho6 hb6)
              | (at_builtin; (with_reducible refine Lib.wpList_append_run _ rfl _ _ _ _ rfl _ _ rfl rfl _ _ (HRUN.out _) ?_)))
            go_roundw
            case rel =>
              refine ⟨a1, c1', (k + 1), i + 1, true, (out ++ [(r, (⟨rk, L⟩ : Rg))]), by first | rfl | go_num, rfl, by go_num, by omega, by omega, ?_, (HS.out.2.1.trans HO6.out.2), HO6.out.1⟩
              have h9 := HST.out
              simpa [HXR.out, HLE.out, List.append_assoc] using h9
            case measure => simp [intOf]; omega
          · have hne : (xr != r) = true := by simpa using hxr
            have HXR := Lib.hid hxr
            clear hxr
            go_wp2_with (first
              | (go_at_call 14; (with_reducible refine (HT.out _ HBW).mono ?_); rintro e w1 ⟨t1, tc, rfl, HF⟩; obtain ⟨a1, c1', w6, hrun, ho6, hb6⟩ := OutS.put (m := r) (r := ⟨rk, L⟩) HS.out.2.2 HP.out.1 hwl (by omega) HP.out.2 (by rw [HLN.out]; exact HF.out.1) HF.out.2; simp only [HLN.out] at hrun; have HRUN := Lib.hid hrun; have HO6 := Lib.hid (And.intro ho6 hb6); have m0 := (hb6.cell (p := ⟨b, off + i * 3, none⟩) (by simp only; omega)).trans c0; have m1 := (hb6.cell (p := ⟨b, off + i * 3 + 1, none⟩) (by simp only; omega)).trans c1; have m2 := (hb6.cell (p := ⟨b, off + i * 3 + 2, none⟩) (by simp only; omega)).trans c2; have mg := (hb6.cell (p := ⟨bx, 0, none⟩) (by simp only; omega)).trans g0; have hl6 : B ≤ w6.heap.size := Nat.le_trans hwl hb6.size; clear hrun ho6 hb6; obtain ⟨a2, c2', w7, hrun7, ho7, hb7⟩ := OutS.app HO6.out.1 HP.out.1 hl6 (by omega) xr ⟨xk, xL⟩ ra rc (HXL.out _ HO6.out.2); simp only [HXN.out] at hrun7; have HRUN7 := Lib.hid hrun7; have HO7 := Lib.hid (And.intro ho7 hb7); clear hrun7 ho7 hb7)
              | (at_builtin; (with_reducible refine Lib.wpList_append_run _ rfl _ _ _ _ rfl _ _ rfl rfl _ _ (HRUN.out _) ?_))
              | (at_builtin; (with_reducible refine Lib.wpList_append_run _ rfl _ _ _ _ rfl _ _ rfl rfl _ _ (HRUN7.out _) ?_)))
            go_roundw
            case rel =>
              refine ⟨a2, c2', ((k + 1) + 1), i + 1, true, ((out ++ [(r, (⟨rk, L⟩ : Rg))]) ++ [(xr, (⟨xk, xL⟩ : Rg))]), by first | rfl | go_num, rfl, by go_num, by omega, by omega, ?_, ((HS.out.2.1.trans HO6.out.2).trans HO7.out.2), HO7.out.1⟩
              have h9 := HST.out
              simpa [HXR.out, HLE.out, List.append_assoc] using h9
            case measure => simp [intOf]; omega
        · have hge : decide (r ≤ xr) = false := by simpa using hle
          have HLE := Lib.hid hle
          clear hle
          by_cases hxr : xr = r
          · have hne : (xr != r) = false := by simp [hxr]
            have HXR := Lib.hid hxr
            clear hxr
            exfalso
            have h1 := HLE.out
            have h2 := HXR.out
            omega
          · have hne : (xr != r) = true := by simpa using hxr
            have HXR := Lib.hid hxr
            clear hxr
            obtain ⟨a2, c2', w7, hrun7, ho7, hb7⟩ := OutS.app HS.out.2.2 HP.out.1 hwl (by omega) xr ⟨xk, xL⟩ ra rc (HXL.out _ (Below.refl _ _))
            simp only [HXN.out] at hrun7
            have HRUN7 := Lib.hid hrun7
            have HO7 := Lib.hid (And.intro ho7 hb7)
            clear hrun7 ho7 hb7
            go_wp2_with (first
              | (at_builtin; (with_reducible refine Lib.wpList_append_run _ rfl _ _ _ _ rfl _ _ rfl rfl _ _ (HRUN7.out _) ?_)))
            go_roundw
            case rel =>
              refine ⟨a2, c2', (k + 1), i + 1, false, (out ++ [(xr, (⟨xk, xL⟩ : Rg))]), by first | rfl | go_num, rfl, by go_num, by omega, by omega, ?_, (HS.out.2.1.trans HO7.out.2), HO7.out.1⟩
              have h9 := HST.out
              simpa [HXR.out, HLE.out, List.append_assoc] using h9
            case measure => simp [intOf]; omega
      · by_cases hxr : xr = r
        · have hne : (xr != r) = false := by simp [hxr]
          have HXR := Lib.hid hxr
          clear hxr
          go_wp2
          all_goals first | go_roundw | skip
          case rel =>
            refine ⟨a, c, k, i + 1, true, out, by first | rfl | go_num, rfl, by go_num, by omega, by omega, ?_, HS.out.2.1, HS.out.2.2⟩
            have h9 := HST.out
            simpa [HXR.out, List.append_assoc] using h9
          case measure => simp [intOf]; omega
        · have hne : (xr != r) = true := by simpa using hxr
          have HXR := Lib.hid hxr
          clear hxr
          obtain ⟨a2, c2', w7, hrun7, ho7, hb7⟩ := OutS.app HS.out.2.2 HP.out.1 hwl (by omega) xr ⟨xk, xL⟩ ra rc (HXL.out _ (Below.refl _ _))
          simp only [HXN.out] at hrun7
          have HRUN7 := Lib.hid hrun7
          have HO7 := Lib.hid (And.intro ho7 hb7)
          clear hrun7 ho7 hb7
          go_wp2_with (first
            | (at_builtin; (with_reducible refine Lib.wpList_append_run _ rfl _ _ _ _ rfl _ _ rfl rfl _ _ (HRUN7.out _) ?_)))
          go_roundw
          case rel =>
            refine ⟨a2, c2', (k + 1), i + 1, true, (out ++ [(xr, (⟨xk, xL⟩ : Rg))]), by first | rfl | go_num, rfl, by go_num, by omega, by omega, ?_, (HS.out.2.1.trans HO7.out.2), HO7.out.1⟩
            have h9 := HST.out
            simpa [HXR.out, List.append_assoc] using h9
          case measure => simp [intOf]; omega
    · -- the end
      obtain rfl : i = n := by omega
      have hend := HS.out.1
      rw [List.drop_eq_nil_of_le (by rw [HB.out.2.2.2]; exact Nat.le_refl _)] at hend
      clear hbw
      cases put
      · have HE : Hid (out ++ [(r, (⟨rk, L⟩ : Rg))] = setR s r ⟨rk, L⟩) := by
          show _ = _
          simpa [setA] using hend
        clear hend
        go_wp2_with (first
          | (go_at_call 14; (with_reducible refine (HT.out _ HBW).mono ?_); rintro e w1 ⟨t1, tc, rfl, HF⟩; obtain ⟨a1, c1', w6, hrun, ho6, hb6⟩ := OutS.put (m := r) (r := ⟨rk, L⟩) HS.out.2.2 HP.out.1 hwl (by omega) HP.out.2 (by rw [HLN.out]; exact HF.out.1) HF.out.2; simp only [HLN.out] at hrun; have HRUN := Lib.hid hrun; have HO6 := Lib.hid (And.intro ho6 hb6); have mg := (hb6.cell (p := ⟨bx, 0, none⟩) (by simp only; omega)).trans g0; have mz : w6.frozen? ⟨bx, 0, none⟩ = false := frozen_row (((HS.out.2.1.trans hb6).block bx (by omega)).trans HROW.out.1) 0; clear hrun ho6 hb6)
          | (at_builtin; (with_reducible refine Lib.wpList_append_run _ rfl _ _ _ _ rfl _ _ rfl rfl _ _ (HRUN.out _) ?_)))
        go_end0
        refine ⟨rfl, ?_⟩
        rw [← HE.out]
        exact OutS.done HO6.out.1 h (by have := HB.out; omega) (HB.out.1.trans ((HS.out.2.1.trans HO6.out.2).mono (by have := HB.out; omega)))
      · have HE : Hid (out = setR s r ⟨rk, L⟩) := by
          show _ = _
          simpa [setA] using hend
        clear hend
        go_wp2
        go_end0
        refine ⟨rfl, ?_⟩
        rw [← HE.out]
        exact OutS.done HS.out.2.2 h (by have := HB.out; omega) (HB.out.1.trans (HS.out.2.1.mono (by have := HB.out; omega)))
end Go.Proofs.Ytleidcegbfnmkaa.U
