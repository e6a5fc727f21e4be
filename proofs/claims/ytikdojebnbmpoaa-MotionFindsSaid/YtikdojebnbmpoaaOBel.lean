/-
  The bracket that belongs to one: the way there. (MADE by wip/tools/gen_obel.py.)
-/
import Derived.Test.YtikdojebnbmpoaaOBrk
namespace Go.Proofs.Ytikdojebnbmpoaa.U
open Go.RowKit
set_option linter.unusedVariables false
set_option linter.unusedSimpArgs false
set_option maxRecDepth 100000

/-- what lies in the boxes on the way: what it is asked with, the bracket, the place, the result -/
def BeS (w : World) (A : Obj) (o1 o2 sd li ci : Int) (W : World) : Prop := Below w.heap.size w W ∧ W.heap[w.heap.size]? = some A ∧ W.heap[w.heap.size + 1]? = some (.cells #[.int .i32 o1, .int .i32 o2, .int .i64 sd] 63 (0, 0)) ∧ W.heap[w.heap.size + 1 + 1]? = some (.cells #[.int .i64 li, .int .i64 ci] 24 (0, 0)) ∧ W.heap[w.heap.size + 1 + 1 + 1]? = some (.cells #[.int .i64 0, .int .i64 0] 24 (0, 0))
theorem BeS.below {w W W2 : World} {A : Obj} {o1 o2 sd li ci : Int} (h : BeS w A o1 o2 sd li ci W) (hb : Below W.heap.size W W2) : BeS w A o1 o2 sd li ci W2 := by
  obtain ⟨h1, h2, h3, h4, h5⟩ := h
  exact ⟨h1.trans (hb.mono h1.size), (hb.block _ (Array.getElem?_eq_some_iff.1 h2).1).trans h2, (hb.block _ (Array.getElem?_eq_some_iff.1 h3).1).trans h3, (hb.block _ (Array.getElem?_eq_some_iff.1 h4).1).trans h4, (hb.block _ (Array.getElem?_eq_some_iff.1 h5).1).trans h5⟩
theorem BeS.drew {w W : World} {A : Obj} {o1 o2 sd li ci : Int} (h : BeS w A o1 o2 sd li ci W) : BeS w A o1 o2 sd li ci W.drew := h.below ((Below.refl _ W).drew)
theorem BeS.col {w W : World} {A : Obj} {o1 o2 sd li ci : Int} (h : BeS w A o1 o2 sd li ci W) (v : Int) : BeS w A o1 o2 sd li v (W.setCell ⟨w.heap.size + 1 + 1, 1, none⟩ (.int .i64 v)) := by
  obtain ⟨h1, h2, h3, h4, h5⟩ := h
  refine ⟨setCell_below h1 _ _ _ (by omega), ?_, ?_, heap_set h4 1 _, ?_⟩
  · exact (Below.heap_setCell _ _ _ _ (by show ¬ _ = _; first | (simp; done) | (simp; omega) | omega)).trans h2
  · exact (Below.heap_setCell _ _ _ _ (by show ¬ _ = _; first | (simp; done) | (simp; omega) | omega)).trans h3
  · exact (Below.heap_setCell _ _ _ _ (by show ¬ _ = _; first | (simp; done) | (simp; omega) | omega)).trans h5
theorem BeS.pos {w W : World} {A : Obj} {o1 o2 sd li ci : Int} (h : BeS w A o1 o2 sd li ci W) (u v : Int) : BeS w A o1 o2 sd u v ((W.setCell ⟨w.heap.size + 1 + 1, 0, none⟩ (.int .i64 u)).setCell ⟨w.heap.size + 1 + 1, 1, none⟩ (.int .i64 v)) := by
  obtain ⟨h1, h2, h3, h4, h5⟩ := h
  refine BeS.col (ci := ci) ⟨setCell_below h1 _ _ _ (by omega), ?_, ?_, heap_set h4 0 _, ?_⟩ v
  · exact (Below.heap_setCell _ _ _ _ (by show ¬ _ = _; first | (simp; done) | (simp; omega) | omega)).trans h2
  · exact (Below.heap_setCell _ _ _ _ (by show ¬ _ = _; first | (simp; done) | (simp; omega) | omega)).trans h3
  · exact (Below.heap_setCell _ _ _ _ (by show ¬ _ = _; first | (simp; done) | (simp; omega) | omega)).trans h5
theorem BeS.ends {w W : World} {A : Obj} {o1 o2 sd li ci : Int} (h : BeS w A o1 o2 sd li ci W) (x y : Value) : Below w.heap.size w ((W.setCell ⟨w.heap.size + 1 + 1 + 1, 0, none⟩ x).setCell ⟨w.heap.size + 1 + 1 + 1, 1, none⟩ y) :=
  setCell_below (setCell_below h.1 _ _ _ (by omega)) _ _ _ (by omega)
theorem BeS.blw {w W : World} {A : Obj} {o1 o2 sd li ci : Int} (h : BeS w A o1 o2 sd li ci W) : Below w.heap.size w W := h.1
theorem BeS.lines {w W : World} {a : Option Addr} {n c l q : Nat} {k key cnt arg want : Int} {op : Bool} {o1 o2 sd li ci : Int} (h : BeS w (askO a n c l q k key cnt arg want op) o1 o2 sd li ci W) :
    W.cell? ⟨w.heap.size, 0, none⟩ = some (.slice a n c) ∧ W.cell? ⟨w.heap.size, 1, none⟩ = some (.int .i64 (l : Nat)) ∧ W.cell? ⟨w.heap.size, 2, none⟩ = some (.int .i64 (q : Nat)) ∧ W.cell? ⟨w.heap.size, 3, none⟩ = some (.int .i64 k) ∧ W.cell? ⟨w.heap.size, 4, none⟩ = some (.int .i32 key) ∧ W.cell? ⟨w.heap.size, 5, none⟩ = some (.int .i64 cnt) ∧ W.cell? ⟨w.heap.size, 6, none⟩ = some (.int .i32 arg) ∧ W.cell? ⟨w.heap.size, 7, none⟩ = some (.int .i64 want) ∧ W.cell? ⟨w.heap.size, 8, none⟩ = some (.bool op) := row9 h.2.1
theorem BeS.brk {w W : World} {A : Obj} {o1 o2 sd li ci : Int} (h : BeS w A o1 o2 sd li ci W) : W.cell? ⟨w.heap.size + 1, 0, none⟩ = some (.int .i32 o1) ∧ W.cell? ⟨w.heap.size + 1, 1, none⟩ = some (.int .i32 o2) ∧ W.cell? ⟨w.heap.size + 1, 2, none⟩ = some (.int .i64 sd) :=
  ⟨by rw [cell_row h.2.2.1]; rfl, by rw [cell_row h.2.2.1]; rfl, by rw [cell_row h.2.2.1]; rfl⟩
theorem BeS.at_ {w W : World} {A : Obj} {o1 o2 sd li ci : Int} (h : BeS w A o1 o2 sd li ci W) : W.cell? ⟨w.heap.size + 1 + 1, 0, none⟩ = some (.int .i64 li) ∧ W.cell? ⟨w.heap.size + 1 + 1, 1, none⟩ = some (.int .i64 ci) ∧ W.frozen? ⟨w.heap.size + 1 + 1, 0, none⟩ = false ∧ W.frozen? ⟨w.heap.size + 1 + 1, 1, none⟩ = false := row2 h.2.2.2.1
theorem BeS.res {w W : World} {A : Obj} {o1 o2 sd li ci : Int} (h : BeS w A o1 o2 sd li ci W) : W.cell? ⟨w.heap.size + 1 + 1 + 1, 0, none⟩ = some (.int .i64 0) ∧ W.cell? ⟨w.heap.size + 1 + 1 + 1, 1, none⟩ = some (.int .i64 0) ∧ W.frozen? ⟨w.heap.size + 1 + 1 + 1, 0, none⟩ = false ∧ W.frozen? ⟨w.heap.size + 1 + 1 + 1, 1, none⟩ = false := row2 h.2.2.2.2
theorem bel_start (w : World) (A : Obj) (o1 o2 sd li ci : Int) : ∃ w1, (((w.alloc A).alloc (.cells #[.int .i32 o1, .int .i32 o2, .int .i64 sd] 63)).alloc (.cells #[.int .i64 li, .int .i64 ci] 24)).alloc (.cells #[.int .i64 0, .int .i64 0] 24) = w1 ∧ BeS w A o1 o2 sd li ci w1 := by
  obtain ⟨w1, hw1, hsz, g1, g2, hb1⟩ := two2 w A (.cells #[.int .i32 o1, .int .i32 o2, .int .i64 sd] 63)
  obtain ⟨w2, hw2, hsz2, g3, g4, hb2⟩ := two2 w1 (.cells #[.int .i64 li, .int .i64 ci] 24) (.cells #[.int .i64 0, .int .i64 0] 24)
  rw [hsz] at g3 g4
  refine ⟨w2, by rw [hw1, hw2], btr hb1 hb2, ?_, ?_, g3, g4⟩
  · exact (hb2.block _ (Array.getElem?_eq_some_iff.1 g1).1).trans g1
  · exact (hb2.block _ (Array.getElem?_eq_some_iff.1 g2).1).trans g2
/-- how many lines, columns are still to come, as the place's box says -/
def mL (s : Int) (n B : Nat) (W : World) : Nat := if s = 1 then ((n : Int) - intOf ((W.cell? ⟨B, 0, none⟩).getD (.bool false))).toNat else (intOf ((W.cell? ⟨B, 0, none⟩).getD (.bool false)) + 1).toNat
def mC (s : Int) (n B : Nat) (W : World) : Nat := if s = 1 then ((n : Int) - intOf ((W.cell? ⟨B, 1, none⟩).getD (.bool false))).toNat else (intOf ((W.cell? ⟨B, 1, none⟩).getD (.bool false)) + 1).toNat
theorem BeS.mL {w W : World} {A : Obj} {o1 o2 sd li ci : Int} (h : BeS w A o1 o2 sd li ci W) (s : Int) (n : Nat) : mL s n (w.heap.size + 1 + 1) W = if s = 1 then ((n : Int) - li).toNat else (li + 1).toNat := by
  unfold U.mL
  rw [h.at_.1]
  rfl
theorem BeS.mC {w W : World} {A : Obj} {o1 o2 sd li ci : Int} (h : BeS w A o1 o2 sd li ci W) (s : Int) (n : Nat) : mC s n (w.heap.size + 1 + 1) W = if s = 1 then ((n : Int) - ci).toNat else (ci + 1).toNat := by
  unfold U.mC
  rw [h.at_.2.1]
  rfl
set_option maxHeartbeats 4000000 in
theorem belonging_any (F : Nat → Prop) (a : Option Addr) (n c l q : Nat) (t : Nat) (key cnt arg want : Int) (op : Bool) (L : List (List Int)) (o1 o2 sd li0 ci0 : Int) (R0 : List (Pl × Int)) (w : World) (h : RdL F w a n c L) (hoo : o1 ≠ o2) (hst0 : Stand L sd li0 ci0 R0) (hR0 : R0.length ≤ 262144) :
    Calls Try.prog 57 #[askL a n c l q (t : Nat) key cnt arg want op, .agg #[.int .i32 o1, .int .i32 o2, .int .i64 sd], .agg #[.int .i64 li0, .int .i64 ci0]] w fun e w' => e = .returned (.tuple #[plV ((scanB o1 o2 0 R0).getD (0, 0)), .bool (scanB o1 o2 0 R0).isSome]) ∧ Below w.heap.size w w' := by
  have hln : L.length = n := h.len
  have hsm := h.small
  have hss := hst0.side
  obtain ⟨res, hres⟩ : ∃ r, scanB o1 o2 0 R0 = r := ⟨_, rfl⟩
  rw [hres]
  obtain ⟨w1, hw1, ha1⟩ := bel_start w (askO a n c l q (t : Nat) key cnt arg want op) o1 o2 sd li0 ci0
  have HW1 := Lib.hid hw1
  have HA1 := Lib.hid ha1
  have HRES := Lib.hid hres
  have HST0 := Lib.hid hst0
  have HN0 := Lib.hid hR0
  have HLN := Lib.hid hln
  have HSS := Lib.hid hss
  have HOO := Lib.hid hoo
  have HEN := Lib.hid (fun (v : Int) (W : World) (hW : Below w.heap.size w W) (hv : sd < 0 → v < (n : Int)) => entry_any F a n c l q t key cnt arg want op L v sd W (h.below hW) hv)
  have HRD := Lib.hid h
  clear hw1 ha1 hres hst0 hR0 hln hss hoo h
  go_enter Try.func57, Try.ntmps57
  go_upto_region 1 with fail
  rw [HW1.out]
  go_wp2_with fail
  go_loopw [8] (fun v8 wr => ∃ (k li ci : Int) (R : List (Pl × Int)), v8 = .int .i64 k ∧ Hid (BeS w (askO a n c l q (t : Nat) key cnt arg want op) o1 o2 sd li ci wr) ∧ Hid (Stand L sd li ci R) ∧ Hid (scanB o1 o2 k R = res) ∧ Hid (-300000 ≤ k - (R.length : Int) ∧ k + (R.length : Int) ≤ 300000)) (fun _ wr => mL sd n (w.heap.size + 1 + 1) wr)
  case atStart => exact ⟨0, li0, ci0, R0, rfl, HA1.out, HST0.out, HRES.out, by have := HN0.out; show _ ∧ _; omega⟩
  case round =>
    clear HA1 HST0 HRES HN0
    obtain ⟨k, li, ci, R, rfl, HA, HST, HSC, HB⟩ := hrel
    obtain ⟨x0, x1, x2, x3, x4, x5, x6, x7, x8⟩ := HA.out.lines; obtain ⟨b0, b1, b2⟩ := HA.out.brk; obtain ⟨p0, p1, pf0, pf1⟩ := HA.out.at_; obtain ⟨r0, r1, rf0, rf1⟩ := HA.out.res
    have hlow := HST.out.low
    by_cases hin : 0 ≤ li ∧ li < (n : Int)
    · obtain ⟨i, rfl⟩ : ∃ i : Nat, li = (i : Int) := ⟨li.toNat, by omega⟩
      have hin2 : i < n := by omega
      have hx : L[i]? = some (lnL L i) := by unfold lnL; rw [List.getD_eq_getElem?_getD, List.getElem?_eq_getElem (by have := HLN.out; omega)]; rfl
      obtain ⟨b, off, ra, rc, rfl, hbl, -, e0, hrd, -, -⟩ := HRD.out.get (Below.refl _ w) hx
      obtain ⟨x, hxx⟩ : ∃ x, lnL L i = x := ⟨_, rfl⟩
      rw [hxx] at e0 hrd
      obtain ⟨m, hm⟩ : ∃ m, x.length = m := ⟨_, rfl⟩
      have hms := hrd.small
      rw [hm] at e0 hrd hms
      have e1 := (HA.out.1.cell (p := ⟨b, off + i, none⟩) hbl).trans e0
      have d0 : (0 : Int) ≤ (i : Int) := by omega
      have d1 : decide ((0 : Int) ≤ (i : Int)) = true := by simp
      have d2 : (i : Int) < (n : Int) := by omega
      have d3 : decide ((i : Int) < (n : Int)) = true := by simp; omega
      have d4 : decide (i < n) = true := by simp; omega
      have d5 : ¬ (i : Int) < 0 := by omega
      have d6 : decide ((i : Int) < 0) = false := by simp
      have HA0 := HA
      have HX := Lib.hid hxx
      have HM := Lib.hid hm
      have HR2 := Lib.hid hrd
      have HIN := Lib.hid hin2
      clear hin hx hxx hm e0 hrd
      go_wp2_with fail
      obtain ⟨wo, hwo⟩ : ∃ y, y = wr := ⟨_, rfl⟩
      subst hwo
      go_loopw [8] (fun v8 wr => ∃ (k ci : Int) (R : List (Pl × Int)), v8 = .int .i64 k ∧ Hid (BeS w (askO (some ⟨b, off, none⟩) n c l q (t : Nat) key cnt arg want op) o1 o2 sd (i : Nat) ci wr) ∧ Hid (Stand L sd (i : Nat) ci R) ∧ Hid (scanB o1 o2 k R = res) ∧ Hid (-300000 ≤ k - (R.length : Int) ∧ k + (R.length : Int) ≤ 300000)) (fun _ wr => mC sd m (w.heap.size + 1 + 1) wr)
      case atStart => exact ⟨k, ci, R, rfl, HA.out, HST.out, HSC.out, HB.out⟩
      case round =>
        clear HA HST HSC HB x0 x1 x2 x3 x4 x5 x6 x7 x8 b0 b1 b2 p0 p1 pf0 pf1 r0 r1 rf0 rf1 e1 hlow
        obtain ⟨k, ci, R, rfl, HA, HST, HSC, HB⟩ := hrel
        obtain ⟨x0, x1, x2, x3, x4, x5, x6, x7, x8⟩ := HA.out.lines; obtain ⟨b0, b1, b2⟩ := HA.out.brk; obtain ⟨p0, p1, pf0, pf1⟩ := HA.out.at_; obtain ⟨r0, r1, rf0, rf1⟩ := HA.out.res
        have hlow := HST.out.low.2
        by_cases hc : 0 ≤ ci ∧ ci < (m : Int)
        · obtain ⟨j, rfl⟩ : ∃ j : Nat, ci = (j : Int) := ⟨ci.toNat, by omega⟩
          have hj : j < m := by omega
          obtain ⟨R', hR', hS'⟩ := HST.out.inside (i := i) (j := j) (by have := HLN.out; have := HIN.out; omega) (by rw [HX.out, HM.out]; exact hj)
          rw [HX.out] at hR'
          obtain ⟨rb, ro, rfl, hrb, c0⟩ := HR2.out.at_ (i := j) hj
          have c1 : wr.cell? ⟨rb, ro + j, none⟩ = some (.int .i32 (x.getD j 0)) := (HA.out.1.cell (p := ⟨rb, ro + j, none⟩) hrb).trans c0
          obtain ⟨rr, hrr⟩ : ∃ r, x.getD j 0 = r := ⟨_, rfl⟩
          rw [hrr] at c1 hR'
          have hsc := HSC.out
          rw [hR', scanB] at hsc
          have hbd := HB.out
          rw [hR', List.length_cons] at hbd
          have g0 : (0 : Int) ≤ (j : Int) := by omega
          have g1 : decide ((0 : Int) ≤ (j : Int)) = true := by simp
          have g2 : (j : Int) < (m : Int) := by omega
          have g3 : decide ((j : Int) < (m : Int)) = true := by simp; omega
          have g4 : decide (j < m) = true := by simp; omega
          have g5 : ¬ (j : Int) < 0 := by omega
          have g6 : decide ((j : Int) < 0) = false := by simp
          have hss := HSS.out
          have g7 : IntKind.i64.wrap ((j : Int) + sd) = (j : Int) + sd := by rw [IntKind.wrap_i64]; omega
          have HJ := Lib.hid hj
          have HSN := Lib.hid hS'
          clear hc c0 hrr hR' hS' hss hlow
          by_cases hr1 : rr = o1
          · rw [hr1] at c1 hsc
            have hw : wB o1 o2 o1 = 1 := by unfold wB; rw [if_pos rfl, if_neg HOO.out]; rfl
            rw [hw] at hsc
            obtain ⟨k', hk'⟩ : ∃ k', k + 1 = k' := ⟨_, rfl⟩
            rw [hk'] at hsc
            have hkb : -300000 ≤ k' - (R'.length : Int) ∧ k' + (R'.length : Int) ≤ 300000 := by omega
            have w0 : IntKind.i64.wrap k' = k' := by rw [IntKind.wrap_i64]; omega
            have HKB := Lib.hid hkb
            by_cases hz : k' = 0
            · rw [if_pos hz] at hsc
              have HRES : Hid (res = some (i, j)) := hsc.symm
              have z0 : (k' == 0) = true := by simp [hz]
              clear hsc hkb hbd hw
              go_wp2_with fail
              refine bodyPost_ret (v := .tuple #[.agg #[.int .i64 (i : Nat), .int .i64 (j : Nat)], .bool true]) ?_ rfl ⟨by rw [HRES.out]; rfl, ?_⟩
              · rw [results_ct rfl]
                go_simp
              · with_reducible exact HA.out.ends _ _
            · rw [if_neg hz] at hsc
              have HSC2 := Lib.hid hsc
              have z0 : (k' == 0) = false := by simp [hz]
              clear hsc hkb hbd hw
              go_wp2_with fail
              go_roundw
              case rel =>
                refine ⟨k', (j : Int) + sd, R', rfl, Lib.hid ?_, HSN.out, HSC2.out, HKB.out⟩
                with_reducible exact HA.out.col _
              case measure =>
                rw [HA.out.mC, (HA.out.col _).mC]
                have hss := HSS.out
                have := HJ.out
                rcases hss with rfl | rfl
                · rw [if_pos rfl, if_pos rfl]; omega
                · rw [if_neg (by decide), if_neg (by decide)]; omega
          by_cases hr2 : rr = o2
          · rw [hr2] at c1 hsc
            have hw : wB o1 o2 o2 = -1 := by unfold wB; rw [if_neg (fun h => HOO.out h.symm), if_pos rfl]; rfl
            rw [hw] at hsc
            have q1 : (o2 == o1) = false := by simp; exact fun h => HOO.out h.symm
            have q2 : ¬ o2 = o1 := fun h => HOO.out h.symm
            obtain ⟨k', hk'⟩ : ∃ k', k + -1 = k' := ⟨_, rfl⟩
            have hk2 : k - 1 = k' := by omega
            rw [hk'] at hsc
            have hkb : -300000 ≤ k' - (R'.length : Int) ∧ k' + (R'.length : Int) ≤ 300000 := by omega
            have w0 : IntKind.i64.wrap k' = k' := by rw [IntKind.wrap_i64]; omega
            have HKB := Lib.hid hkb
            by_cases hz : k' = 0
            · rw [if_pos hz] at hsc
              have HRES : Hid (res = some (i, j)) := hsc.symm
              have z0 : (k' == 0) = true := by simp [hz]
              clear hsc hkb hbd hw
              go_wp2_with fail
              refine bodyPost_ret (v := .tuple #[.agg #[.int .i64 (i : Nat), .int .i64 (j : Nat)], .bool true]) ?_ rfl ⟨by rw [HRES.out]; rfl, ?_⟩
              · rw [results_ct rfl]
                go_simp
              · with_reducible exact HA.out.ends _ _
            · rw [if_neg hz] at hsc
              have HSC2 := Lib.hid hsc
              have z0 : (k' == 0) = false := by simp [hz]
              clear hsc hkb hbd hw
              go_wp2_with fail
              go_roundw
              case rel =>
                refine ⟨k', (j : Int) + sd, R', rfl, Lib.hid ?_, HSN.out, HSC2.out, HKB.out⟩
                with_reducible exact HA.out.col _
              case measure =>
                rw [HA.out.mC, (HA.out.col _).mC]
                have hss := HSS.out
                have := HJ.out
                rcases hss with rfl | rfl
                · rw [if_pos rfl, if_pos rfl]; omega
                · rw [if_neg (by decide), if_neg (by decide)]; omega
          · have hw : wB o1 o2 rr = 0 := by unfold wB; rw [if_neg hr1, if_neg hr2]; rfl
            rw [hw] at hsc
            have q1 : (rr == o1) = false := by simp [hr1]
            have q2 : (rr == o2) = false := by simp [hr2]
            have hk' : k + 0 = k := by omega
            rw [hk'] at hsc
            have hkb : -300000 ≤ k - (R'.length : Int) ∧ k + (R'.length : Int) ≤ 300000 := by omega
            have w0 : IntKind.i64.wrap k = k := by rw [IntKind.wrap_i64]; omega
            have HKB := Lib.hid hkb
            by_cases hz : k = 0
            · rw [if_pos hz] at hsc
              have HRES : Hid (res = some (i, j)) := hsc.symm
              have z0 : (k == 0) = true := by simp [hz]
              clear hsc hkb hbd hw hk'
              go_wp2_with fail
              refine bodyPost_ret (v := .tuple #[.agg #[.int .i64 (i : Nat), .int .i64 (j : Nat)], .bool true]) ?_ rfl ⟨by rw [HRES.out]; rfl, ?_⟩
              · rw [results_ct rfl]
                go_simp
              · with_reducible exact HA.out.ends _ _
            · rw [if_neg hz] at hsc
              have HSC2 := Lib.hid hsc
              have z0 : (k == 0) = false := by simp [hz]
              clear hsc hkb hbd hw hk'
              go_wp2_with fail
              go_roundw
              case rel =>
                refine ⟨k, (j : Int) + sd, R', rfl, Lib.hid ?_, HSN.out, HSC2.out, HKB.out⟩
                with_reducible exact HA.out.col _
              case measure =>
                rw [HA.out.mC, (HA.out.col _).mC]
                have hss := HSS.out
                have := HJ.out
                rcases hss with rfl | rfl
                · rw [if_pos rfl, if_pos rfl]; omega
                · rw [if_neg (by decide), if_neg (by decide)]; omega
        · have HLV : Hid (Stand L sd ((i : Int) + sd) (entC L sd ((i : Int) + sd)) R) := HST.out.leave (by have := HLN.out; have := HIN.out; omega) (by rw [HX.out, HM.out]; exact hc)
          have hss := HSS.out
          have g7 : IntKind.i64.wrap ((i : Int) + sd) = (i : Int) + sd := by rw [IntKind.wrap_i64]; have := HIN.out; omega
          have HNS : Hid (sd < 0 → (i : Int) + sd < (n : Int)) := by intro hh; have := HIN.out; omega
          clear hss
          by_cases hc0 : 0 ≤ ci
          · have g1 : decide (0 ≤ ci) = true := by simp [hc0]
            have g2 : ¬ ci < (m : Int) := by omega
            have g3 : decide (ci < (m : Int)) = false := by simp; omega
            clear hc
            go_wp2_with (go_at_call 71; refine (HEN.out ((i : Int) + sd) _ HA.out.1 HNS.out).mono ?_; rintro e w2 ⟨rfl, hb2⟩; have HA2 := Lib.hid (HA.out.below hb2); obtain ⟨x0, x1, x2, x3, x4, x5, x6, x7, x8⟩ := HA2.out.lines; obtain ⟨b0, b1, b2⟩ := HA2.out.brk; obtain ⟨p0, p1, pf0, pf1⟩ := HA2.out.at_; obtain ⟨r0, r1, rf0, rf1⟩ := HA2.out.res)
            go_roundw
            case rel =>
              refine ⟨k, (i : Int) + sd, entC L sd ((i : Int) + sd), R, rfl, Lib.hid ?_, HLV.out, HSC.out, HB.out⟩
              with_reducible exact HA2.out.pos _ _
            case measure =>
              rw [HA0.out.mL, (HA2.out.pos _ _).mL]
              have hss := HSS.out
              have := HIN.out
              rcases hss with rfl | rfl
              · rw [if_pos rfl, if_pos rfl]; omega
              · rw [if_neg (by decide), if_neg (by decide)]; omega
          · have g1 : decide (0 ≤ ci) = false := by simp; omega
            clear hc
            go_wp2_with (go_at_call 71; refine (HEN.out ((i : Int) + sd) _ HA.out.1 HNS.out).mono ?_; rintro e w2 ⟨rfl, hb2⟩; have HA2 := Lib.hid (HA.out.below hb2); obtain ⟨x0, x1, x2, x3, x4, x5, x6, x7, x8⟩ := HA2.out.lines; obtain ⟨b0, b1, b2⟩ := HA2.out.brk; obtain ⟨p0, p1, pf0, pf1⟩ := HA2.out.at_; obtain ⟨r0, r1, rf0, rf1⟩ := HA2.out.res)
            go_roundw
            case rel =>
              refine ⟨k, (i : Int) + sd, entC L sd ((i : Int) + sd), R, rfl, Lib.hid ?_, HLV.out, HSC.out, HB.out⟩
              with_reducible exact HA2.out.pos _ _
            case measure =>
              rw [HA0.out.mL, (HA2.out.pos _ _).mL]
              have hss := HSS.out
              have := HIN.out
              rcases hss with rfl | rfl
              · rw [if_pos rfl, if_pos rfl]; omega
              · rw [if_neg (by decide), if_neg (by decide)]; omega
    · have hR := HST.out.out (by rw [HLN.out]; exact hin)
      have HRES : Hid (res = none) := by
        show _ = _
        rw [← HSC.out, hR]; rfl
      clear hR
      by_cases hl0 : 0 ≤ li
      · have g1 : decide (0 ≤ li) = true := by simp [hl0]
        have g2 : ¬ li < (n : Int) := by omega
        have g3 : decide (li < (n : Int)) = false := by simp; omega
        clear hin hlow
        go_wp2_with fail
        refine bodyPost_ret (v := .tuple #[.agg #[.int .i64 0, .int .i64 0], .bool false]) ?_ rfl ⟨by rw [HRES.out]; rfl, ?_⟩
        · rw [results_ct rfl]
          go_simp
        · with_reducible exact HA.out.ends _ _
      · have g1 : decide (0 ≤ li) = false := by simp; omega
        clear hin hlow
        go_wp2_with fail
        refine bodyPost_ret (v := .tuple #[.agg #[.int .i64 0, .int .i64 0], .bool false]) ?_ rfl ⟨by rw [HRES.out]; rfl, ?_⟩
        · rw [results_ct rfl]
          go_simp
        · with_reducible exact HA.out.ends _ _
end Go.Proofs.Ytikdojebnbmpoaa.U
