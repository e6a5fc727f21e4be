/-
  The document's Set: the loop.
-/
import Derived.Test.YtbgbhlnidabhnaaMRefE
namespace Go.Proofs.Ytbgbhlnidabhnaa.U
open Go.RowKit
set_option linter.unusedVariables false
set_option linter.unusedSimpArgs false
set_option maxRecDepth 100000

/-- in the midst of Set: out is built, i were looked at -/
def SetS (ns : List (Int × Po)) (r : Int) (p : Po) (wb wr : World) (B i : Nat) (put : Bool) (a : Option Addr) (k c : Nat) (out : List (Int × Po)) : Prop :=
  out ++ setA r p put (ns.drop i) = setN ns r p ∧ k = out.length ∧ Below B wb wr ∧ wr.ownsRow B 64 3 (.slice a k c) k (mcells out)
theorem setA_step {ns : List (Int × Po)} {r : Int} {p : Po} {put : Bool} {i : Nat} {x : Int × Po} (hx : ns[i]? = some x) :
    setA r p put (ns.drop i) = (if !put && decide (r ≤ x.1) then [(r, p)] else []) ++ (if x.1 = r then [] else [x]) ++ setA r p (put || decide (r ≤ x.1)) (ns.drop (i + 1)) := by
  have hi := (List.getElem?_eq_some_iff.1 hx).1
  rw [List.drop_eq_getElem_cons hi, (List.getElem?_eq_some_iff.1 hx).2]
  obtain ⟨q, o⟩ := x
  rfl

set_option maxHeartbeats 2000000 in
theorem rset_any {P : Nat → Prop} {bx : Nat} {s : Ms} {B : Int} (r : Int) (p : Po) (w : World) (h : RkS P w bx s) (hok : s.ok B) :
    Calls Try.prog 14 #[.pointer (some ⟨bx, 0, none⟩), .int .i32 r, p.v] w fun e w' => e = .returned (.int .i64 (setM s r p).2) ∧ AfR P w w' bx (setM s r p).1 := by
  obtain ⟨pl, pc⟩ := p
  show Calls _ _ #[.pointer (some ⟨bx, 0, none⟩), .int .i32 r, .agg #[.int .i64 pl, .int .i64 pc]] w _
  obtain ⟨wb, hwb⟩ : ∃ wb, w.alloc (.cells #[.int .i64 pl, .int .i64 pc] 23) = wb := ⟨_, rfl⟩
  have hb1 : Below w.heap.size w wb := by rw [← hwb]; exact (Below.refl _ w).alloc (Nat.le_refl _) _
  have d0 : wb.cell? ⟨w.heap.size, 0, none⟩ = some (.int .i64 pl) := by rw [← hwb, cell_of_row _ _ _ _ _ _ (heap_alloc_new w _)]; rfl
  have d1 : wb.cell? ⟨w.heap.size, 1, none⟩ = some (.int .i64 pc) := by rw [← hwb, cell_of_row _ _ _ _ _ _ (heap_alloc_new w _)]; rfl
  have hsz : wb.heap.size = w.heap.size + 1 := by rw [← hwb]; simp
  obtain ⟨na, nc, ja, jc, h1, h2, h3, h4, h5, p1, p2⟩ := h.below hb1
  have hbx : bx < w.heap.size := h.lt bx p1
  have e0 : wb.cell? ⟨bx, 0, none⟩ = some (.slice na s.ns.length nc) := by rw [cell_row h1]; rfl
  have hlen := names_len (sorted_nodup hok.sorted) (fun x hx => by
    obtain ⟨y, hy, e⟩ := List.mem_map.1 hx
    rw [← e]
    exact hok.names y hy)
  obtain ⟨n, hn⟩ : ∃ n, s.ns.length = n := ⟨_, rfl⟩
  have hn50 : n < 50 := by rw [List.length_map] at hlen; omega
  rw [hn] at e0 h2
  have hna := rname_any r
  have hfi := fits_any ⟨pl, pc⟩
  obtain ⟨pb, hpb⟩ : ∃ pb, w.heap.size = pb := ⟨_, rfl⟩
  rw [hpb] at d0 d1 hsz
  have HB := Lib.hid (And.intro hb1 (And.intro hpb (And.intro hsz hn)))
  have HROW := Lib.hid (And.intro h1 h2)
  have HWB := Lib.hid hwb
  have hbpb : bx < pb := by omega
  have HNA := Lib.hid hna
  have HFI := Lib.hid hfi
  clear h1 h2 h3 h4 h5 hb1 hwb hsz hn p2 hna hfi hlen
  by_cases hq : nameB r = true ∧ fitsP ⟨pl, pc⟩ = true
  · obtain ⟨hnm, hft⟩ := hq
    have hs : setM s r ⟨pl, pc⟩ = (⟨setN s.ns r ⟨pl, pc⟩, s.js, s.ix⟩, 0) := by simp [setM, hnm, hft]
    rw [hs]
    have HNM := Lib.hid (And.intro hnm hft)
    clear hs hnm hft
    go_enter Try.func14, Try.ntmps14
    go_upto_region 1 with fail
    rw [HWB.out]
    clear hpb
    go_wp2_with (first | (go_at_call 32; refine (HNA.out _).mono ?_; rintro ev w2 ⟨rfl, hw2⟩; have hw3 := hw2.symm; subst hw3; rw [HNM.out.1]) | (go_at_call 33; refine (HFI.out _).mono ?_; rintro e w3 ⟨rfl, hb3⟩; rw [HNM.out.2]))
    have HB3 := Lib.hid hb3
    clear hb3
    go_loopw [7, 8, 9] (fun v pv iv wr => ∃ (a : Option Addr) (c k i : Nat) (put : Bool) (out : List (Int × Po)), v = .slice a k c ∧ pv = .bool put ∧ iv = .int .i64 i ∧ i ≤ n ∧ k ≤ 2 * i ∧ Hid (SetS s.ns r ⟨pl, pc⟩ wb wr (pb + 1) i put a k c out)) (fun _ _ iv _ => n - (intOf iv).toNat)
    case atStart => exact ⟨none, 0, 0, 0, false, [], rfl, rfl, rfl, Nat.zero_le _, Nat.zero_le _, rfl, rfl, by have := HB3.out; rw [HB.out.2.2.1] at this; exact this, World.ownsRow_nil _ _ _ _⟩
    case round =>
      obtain ⟨a, c, k, i, put, out, rfl, rfl, rfl, hin, hki, HS⟩ := hrel
      have hbw := HS.out.2.2.1
      have f0 := (hbw.cell (p := ⟨pb, 0, none⟩) (by simp)).trans d0
      have f1 := (hbw.cell (p := ⟨pb, 1, none⟩) (by simp)).trans d1
      have g0 := (hbw.cell (p := ⟨bx, 0, none⟩) (by simp; omega)).trans e0
      have hwl : pb + 1 ≤ wr.heap.size := by have := hbw.size; have := HB.out; omega
      have z0 : wr.frozen? ⟨bx, 0, none⟩ = false := frozen_row ((hbw.block bx (by omega)).trans HROW.out.1) 0
      by_cases hlt : i < n
      · obtain ⟨b, off, rfl, hb, hl, c0, c1, c2⟩ := HROW.out.2.mk (W := wr) (by have := hbw; rw [← HB.out.2.2.1] at this; exact this) hlt
        obtain ⟨x, hx⟩ : ∃ x, s.ns.getD i mk0 = x := ⟨_, rfl⟩
        have hgx : s.ns[i]? = some x := by rw [← hx, List.getD_eq_getElem?_getD, List.getElem?_eq_getElem (by omega)]; rfl
        rw [hx] at c0 c1 c2
        obtain ⟨xr, ⟨xl, xc⟩⟩ := x
        have hstep := HS.out.1
        rw [setA_step hgx] at hstep
        have HST := Lib.hid hstep
        clear hstep hgx hx hl hbw
        cases put
        · by_cases hle : r ≤ xr
          · have hge : decide (r ≤ xr) = true := by simpa using hle
            have HLE := Lib.hid hle
            clear hle
            by_cases hxr : xr = r
            · have hne : (xr != r) = false := by simp [hxr]
              have HXR := Lib.hid hxr
              clear hxr
              obtain ⟨a1, c1', w6, hrun, hown6, hb6⟩ := app_mk wr (pb + 1) (.slice a k c) k out r pl pc HS.out.2.2.2 hwl (by omega)
              have HRUN := Lib.hid hrun
              have m0 := (hb6.cell (p := ⟨b, off + i * 3, none⟩) (by have := HB.out; simp only; omega)).trans c0
              have m1 := (hb6.cell (p := ⟨b, off + i * 3 + 1, none⟩) (by have := HB.out; simp only; omega)).trans c1
              have m2 := (hb6.cell (p := ⟨b, off + i * 3 + 2, none⟩) (by have := HB.out; simp only; omega)).trans c2
              have mg := (hb6.cell (p := ⟨bx, 0, none⟩) (by simp only; omega)).trans g0
              have hl6 : pb + 1 ≤ w6.heap.size := by have := hb6.size; omega
              have HN : Hid (SetS s.ns r ⟨pl, pc⟩ wb w6 (pb + 1) (i + 1) true a1 (k + 1) c1' (out ++ [(r, ⟨pl, pc⟩)])) := by
                refine ⟨?_, by simp [HS.out.2.1], (HS.out.2.2.1.trans hb6), hown6⟩
                have h9 := HST.out
                simpa [HXR.out, HLE.out, List.append_assoc] using h9
              clear hrun hown6 hb6
              go_wp2_with (at_builtin; go_must (with_reducible refine Lib.wpList_append_run _ rfl _ _ _ _ rfl _ _ rfl rfl _ _ (HRUN.out _) ?_))
              go_roundw
              case rel => exact ⟨a1, c1', (k + 1), i + 1, true, (out ++ [(r, ⟨pl, pc⟩)]), by first | rfl | go_num, rfl, by go_num, by omega, by omega, HN⟩
              case measure => simp [intOf]; omega
            · have hne : (xr != r) = true := by simpa using hxr
              have HXR := Lib.hid hxr
              clear hxr
              obtain ⟨a1, c1', w6, hrun, hown6, hb6⟩ := app_mk wr (pb + 1) (.slice a k c) k out r pl pc HS.out.2.2.2 hwl (by omega)
              have HRUN := Lib.hid hrun
              have m0 := (hb6.cell (p := ⟨b, off + i * 3, none⟩) (by have := HB.out; simp only; omega)).trans c0
              have m1 := (hb6.cell (p := ⟨b, off + i * 3 + 1, none⟩) (by have := HB.out; simp only; omega)).trans c1
              have m2 := (hb6.cell (p := ⟨b, off + i * 3 + 2, none⟩) (by have := HB.out; simp only; omega)).trans c2
              have mg := (hb6.cell (p := ⟨bx, 0, none⟩) (by simp only; omega)).trans g0
              have hl6 : pb + 1 ≤ w6.heap.size := by have := hb6.size; omega
              obtain ⟨a2, c2', w7, hrun7, hown7, hb7⟩ := app_mk w6 (pb + 1) (.slice a1 (k + 1) c1') (k + 1) (out ++ [(r, ⟨pl, pc⟩)]) xr xl xc hown6 hl6 (by omega)
              have HRUN7 := Lib.hid hrun7
              have HN : Hid (SetS s.ns r ⟨pl, pc⟩ wb w7 (pb + 1) (i + 1) true a2 ((k + 1) + 1) c2' ((out ++ [(r, ⟨pl, pc⟩)]) ++ [(xr, ⟨xl, xc⟩)])) := by
                refine ⟨?_, by simp [HS.out.2.1], ((HS.out.2.2.1.trans hb6).trans hb7), hown7⟩
                have h9 := HST.out
                simpa [HXR.out, HLE.out, List.append_assoc] using h9
              clear hrun hown6 hb6 hrun7 hown7 hb7
              go_wp2_with (first | (at_builtin; (with_reducible refine Lib.wpList_append_run _ rfl _ _ _ _ rfl _ _ rfl rfl _ _ (HRUN.out _) ?_)) | (at_builtin; (with_reducible refine Lib.wpList_append_run _ rfl _ _ _ _ rfl _ _ rfl rfl _ _ (HRUN7.out _) ?_)))
              go_roundw
              case rel => exact ⟨a2, c2', ((k + 1) + 1), i + 1, true, ((out ++ [(r, ⟨pl, pc⟩)]) ++ [(xr, ⟨xl, xc⟩)]), by first | rfl | go_num, rfl, by go_num, by omega, by omega, HN⟩
              case measure => simp [intOf]; omega
          · have hge : decide (r ≤ xr) = false := by simpa using hle
            have HLE := Lib.hid hle
            clear hle
            by_cases hxr : xr = r
            · have hne : (xr != r) = false := by simp [hxr]
              have HXR := Lib.hid hxr
              clear hxr
              exfalso
              have h1 := HLE.out
              have h2 := HXR.out
              omega
            · have hne : (xr != r) = true := by simpa using hxr
              have HXR := Lib.hid hxr
              clear hxr
              obtain ⟨a2, c2', w7, hrun7, hown7, hb7⟩ := app_mk wr (pb + 1) (.slice a k c) k out xr xl xc HS.out.2.2.2 hwl (by omega)
              have HRUN7 := Lib.hid hrun7
              have HN : Hid (SetS s.ns r ⟨pl, pc⟩ wb w7 (pb + 1) (i + 1) false a2 (k + 1) c2' (out ++ [(xr, ⟨xl, xc⟩)])) := by
                refine ⟨?_, by simp [HS.out.2.1], (HS.out.2.2.1.trans hb7), hown7⟩
                have h9 := HST.out
                simpa [HXR.out, HLE.out, List.append_assoc] using h9
              clear hrun7 hown7 hb7
              go_wp2_with (at_builtin; go_must (with_reducible refine Lib.wpList_append_run _ rfl _ _ _ _ rfl _ _ rfl rfl _ _ (HRUN7.out _) ?_))
              go_roundw
              case rel => exact ⟨a2, c2', (k + 1), i + 1, false, (out ++ [(xr, ⟨xl, xc⟩)]), by first | rfl | go_num, rfl, by go_num, by omega, by omega, HN⟩
              case measure => simp [intOf]; omega
        · by_cases hxr : xr = r
          · have hne : (xr != r) = false := by simp [hxr]
            have HXR := Lib.hid hxr
            clear hxr
            have HN : Hid (SetS s.ns r ⟨pl, pc⟩ wb wr (pb + 1) (i + 1) true a k c out) := by
              refine ⟨?_, by simp [HS.out.2.1], HS.out.2.2.1, HS.out.2.2.2⟩
              have h9 := HST.out
              simpa [HXR.out, List.append_assoc] using h9
            go_wp2
            all_goals first | go_roundw | skip
            case rel => exact ⟨a, c, k, i + 1, true, out, by first | rfl | go_num, rfl, by go_num, by omega, by omega, HN⟩
            case measure => simp [intOf]; omega
          · have hne : (xr != r) = true := by simpa using hxr
            have HXR := Lib.hid hxr
            clear hxr
            obtain ⟨a2, c2', w7, hrun7, hown7, hb7⟩ := app_mk wr (pb + 1) (.slice a k c) k out xr xl xc HS.out.2.2.2 hwl (by omega)
            have HRUN7 := Lib.hid hrun7
            have HN : Hid (SetS s.ns r ⟨pl, pc⟩ wb w7 (pb + 1) (i + 1) true a2 (k + 1) c2' (out ++ [(xr, ⟨xl, xc⟩)])) := by
              refine ⟨?_, by simp [HS.out.2.1], (HS.out.2.2.1.trans hb7), hown7⟩
              have h9 := HST.out
              simpa [HXR.out, List.append_assoc] using h9
            clear hrun7 hown7 hb7
            go_wp2_with (at_builtin; go_must (with_reducible refine Lib.wpList_append_run _ rfl _ _ _ _ rfl _ _ rfl rfl _ _ (HRUN7.out _) ?_))
            go_roundw
            case rel => exact ⟨a2, c2', (k + 1), i + 1, true, (out ++ [(xr, ⟨xl, xc⟩)]), by first | rfl | go_num, rfl, by go_num, by omega, by omega, HN⟩
            case measure => simp [intOf]; omega
      · -- the end
        obtain rfl : i = n := by omega
        have hend := HS.out.1
        rw [List.drop_eq_nil_of_le (by rw [HB.out.2.2.2]; exact Nat.le_refl _)] at hend
        clear hbw
        cases put
        · have HE : Hid (out ++ [(r, (⟨pl, pc⟩ : Po))] = setN s.ns r ⟨pl, pc⟩) := by
            show _ = _
            simpa [setA] using hend
          obtain ⟨a1, c1', w6, hrun, hown6, hb6⟩ := app_mk wr (pb + 1) (.slice a k c) k out r pl pc HS.out.2.2.2 hwl (by omega)
          have HRUN := Lib.hid hrun
          have HO := Lib.hid (And.intro hown6 (HS.out.2.2.1.trans hb6))
          have mg := (hb6.cell (p := ⟨bx, 0, none⟩) (by simp only; omega)).trans g0
          have mz : w6.frozen? ⟨bx, 0, none⟩ = false := frozen_row (((HS.out.2.2.1.trans hb6).block bx (by omega)).trans HROW.out.1) 0
          clear hrun hown6 hb6 hend
          go_wp2_with (at_builtin; go_must (with_reducible refine Lib.wpList_append_run _ rfl _ _ _ _ rfl _ _ rfl rfl _ _ (HRUN.out _) ?_))
          go_ret
          have hbw2 : Below w.heap.size w w6 := HB.out.1.trans (HO.out.2.mono (by have := HB.out; omega))
          have hown : World.ownsRow w6 (pb + 1) 64 3 (.slice a1 (k + 1) c1') (k + 1) (mcells (setN s.ns r ⟨pl, pc⟩)) := by
            rw [← HE.out]
            exact HO.out.1
          exact ⟨rfl, h.setL hbw2 (Rc.own hown) (fun ad _ e => by
            subst e
            obtain ⟨g, rfl⟩ := own_ad hown
            have := (hown.lt g (by simp [Value.ownBlock])).1
            have := HB.out
            simp only
            omega)⟩
        · have HE : Hid (out = setN s.ns r ⟨pl, pc⟩) := by
            show _ = _
            simpa [setA] using hend
          clear hend
          go_wp2
          go_ret
          have hbw2 : Below w.heap.size w wr := HB.out.1.trans (HS.out.2.2.1.mono (by have := HB.out; omega))
          have hown : World.ownsRow wr (pb + 1) 64 3 (.slice a k c) k (mcells (setN s.ns r ⟨pl, pc⟩)) := by
            rw [← HE.out]
            exact HS.out.2.2.2
          exact ⟨rfl, h.setL hbw2 (Rc.own hown) (fun ad _ e => by
            subst e
            obtain ⟨g, rfl⟩ := own_ad hown
            have := (hown.lt g (by simp [Value.ownBlock])).1
            have := HB.out
            simp only
            omega)⟩
  · have hs : setM s r ⟨pl, pc⟩ = (s, 1) := by
      unfold setM
      rw [if_neg (by simpa using hq)]
    rw [hs]
    clear hs
    by_cases hnm : nameB r = true
    · have hft : fitsP ⟨pl, pc⟩ = false := by
        have : ¬ fitsP ⟨pl, pc⟩ = true := fun e => hq ⟨hnm, e⟩
        simpa using this
      have HNM := Lib.hid (And.intro hnm hft)
      clear hnm hft hq
      go_enter Try.func14, Try.ntmps14
      go_upto_region 1 with fail
      rw [HWB.out]
      clear hpb
      go_wp2_with (first | (go_at_call 32; refine (HNA.out _).mono ?_; rintro ev w2 ⟨rfl, hw2⟩; have hw3 := hw2.symm; subst hw3; rw [HNM.out.1]) | (go_at_call 33; refine (HFI.out _).mono ?_; rintro e w3 ⟨rfl, hb3⟩; rw [HNM.out.2]))
      go_ret
      exact ⟨rfl, h.same (HB.out.1.trans (hb3.mono HB.out.1.size))⟩
    · have hnm2 : nameB r = false := by simpa using hnm
      have HNM := Lib.hid hnm2
      clear hnm hnm2 hq
      go_enter Try.func14, Try.ntmps14
      go_upto_region 1 with fail
      rw [HWB.out]
      clear hpb
      go_wp2_with (go_at_call 32; refine (HNA.out _).mono ?_; rintro ev w2 ⟨rfl, hw2⟩; have hw3 := hw2.symm; subst hw3; rw [HNM.out])
      go_ret
      exact ⟨rfl, h.same HB.out.1⟩
end Go.Proofs.Ytbgbhlnidabhnaa.U
