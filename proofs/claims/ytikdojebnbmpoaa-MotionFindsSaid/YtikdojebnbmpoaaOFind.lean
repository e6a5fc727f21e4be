/-
  Runes that are sought: f, F, t, T. (MADE by wip/tools/gen_ofind.py.)
-/
import Derived.Test.YtikdojebnbmpoaaOLeadB
namespace Go.Proofs.Ytikdojebnbmpoaa.U
open Go.RowKit
set_option linter.unusedVariables false
set_option linter.unusedSimpArgs false
set_option maxRecDepth 100000

theorem cntR_long (x : List Int) (r : Int) {a b : Nat} (hb : x.length ≤ b) : cntR x r a x.length = cntR x r a b := by
  unfold cntR
  rw [List.take_of_length_le (Nat.le_refl _), List.take_of_length_le hb]
theorem nthB_few {x : List Int} {r : Int} {col n : Nat} (hcl : col ≤ x.length) (h : cntR x r 0 col < n) : nthB x r col n = none := by
  cases h2 : nthB x r col n with
  | none => rfl
  | some j =>
    obtain ⟨h1, h2, h3, h4⟩ := nthB_props h2
    have := cntR_split x r (a := 0) (b := j) (c := col) (by omega) (by omega) hcl
    omega
/-- where it is, as it is told -/
def fndP (l : Nat) : Option Nat → Pl
  | none => (0, 0)
  | some i => (l, i)
set_option maxHeartbeats 2000000 in
theorem findF_any (F : Nat → Prop) (a : Option Addr) (n c l q : Nat) (t : Nat) (key cnt arg want : Int) (op : Bool) (L : List (List Int)) (w : World) (h : RdL F w a n c L) (hp : okP L (l, q)) (ht : (t : Int) ≤ 9223372036854775807) (ht1 : 1 ≤ t) :
    Calls Try.prog 54 #[askL a n c l q (t : Nat) key cnt arg want op, Value.int .i64 (1)] w fun e w' => e = .returned (.tuple #[plV (fndP l (nthF (lnL L l) arg q t)), .bool (nthF (lnL L l) arg q t).isSome]) ∧ Below w.heap.size w w' := by
  have hln : L.length = n := h.len
  have hl : l < n := by rw [← hln]; exact hp.1
  have hsm := h.small
  have hq : (q : Int) ≤ 9223372036854775807 := by
    have h2 := hp.2
    simp only at h2
    obtain ⟨b, off, ra, rc, -, -, -, -, -, hrd, -⟩ := h.get (Below.refl _ w) (List.getElem?_eq_getElem (l := L) (i := l) (by omega))
    have := hrd.small
    unfold lnL at h2
    rw [List.getD_eq_getElem?_getD, List.getElem?_eq_getElem (by omega)] at h2
    simp only [Option.getD_some] at h2
    omega
  have hq2 := hp.2
  simp only at hq2
  have hx : L[l]? = some (lnL L l) := by unfold lnL; rw [List.getD_eq_getElem?_getD, List.getElem?_eq_getElem (by omega)]; rfl
  obtain ⟨ra, rc, hrd, hh⟩ := here_any F a n c l q t key cnt arg want op L (lnL L l) w h hx
  obtain ⟨x, hxx⟩ : ∃ x, lnL L l = x := ⟨_, rfl⟩
  rw [hxx] at hrd hh hq2 ⊢
  obtain ⟨m, hm⟩ : ∃ m, x.length = m := ⟨_, rfl⟩
  have hms := hrd.small
  rw [hm] at hh hms hrd hq2
  have HH := Lib.hid hh
  have HRD := Lib.hid hrd
  have HM := Lib.hid hm
  obtain ⟨res, hres⟩ : ∃ r, nthF x arg q t = r := ⟨_, rfl⟩
  rw [hres]
  have HR := Lib.hid hres
  have hq1 : (q : Int) + 1 ≤ 9223372036854775807 := by omega
  have HQ2 : Hid (q ≤ m - 1) := hq2
  clear h hp hx hrd hh hln hm hxx hres hq2
  obtain ⟨w1, hw1, ha1⟩ := lead_start w (askO a n c l q (t : Nat) key cnt arg want op)
  have HW1 := Lib.hid hw1
  have HA1 := Lib.hid ha1
  clear hw1 ha1
  go_enter Try.func54, Try.ntmps54
  go_upto_region 1 with fail
  rw [HW1.out]
  refine wp_region_held (S := AkS w (askO a n c l q (t : Nat) key cnt arg want op)) (by kernel_rfl) ?_
  change wpAnyH _ _ _ _ _ _ _ _ (World.drew _)
  have hHeld : (AkS w (askO a n c l q (t : Nat) key cnt arg want op)) (World.drew w1) := HA1.out.drew
  refine takeH 0 (some 9) (v := ?_) rfl rfl (by kernel_rfl) (by kernel_rfl) (by kernel_rfl) (fun _ _ _ h => h) (Or.inl ⟨by kernel_rfl, ?_⟩) hHeld ?_
  rotate_left
  · intro w' hSw
    obtain ⟨s0, s1, s2, s3, s4, s5, s6, s7, s8⟩ := hSw.cells
    go_simp
    try with_reducible rfl
  (try simp only [Act.put, List.setIfInBounds_toArray, List.set_cons_zero, List.set_cons_succ])
  refine takeH 2 (some 11) (v := ?_) rfl rfl (by kernel_rfl) (by kernel_rfl) (by kernel_rfl) (fun _ _ _ h => h) (Or.inl ⟨by kernel_rfl, ?_⟩) hHeld ?_
  rotate_left
  · intro w' hSw
    obtain ⟨s0, s1, s2, s3, s4, s5, s6, s7, s8⟩ := hSw.cells
    go_simp
    try with_reducible rfl
  (try simp only [Act.put, List.setIfInBounds_toArray, List.set_cons_zero, List.set_cons_succ])
  refine takeH 3 (some 12) (v := ?_) rfl rfl (by kernel_rfl) (by kernel_rfl) (by kernel_rfl) (fun _ _ _ h => h) (Or.inl ⟨by kernel_rfl, ?_⟩) hHeld ?_
  rotate_left
  · intro w' hSw
    obtain ⟨s0, s1, s2, s3, s4, s5, s6, s7, s8⟩ := hSw.cells
    go_simp
    try with_reducible rfl
  (try simp only [Act.put, List.setIfInBounds_toArray, List.set_cons_zero, List.set_cons_succ])
  refine callH 1 (some 10) (f := 42) (args := ?_) rfl rfl (by kernel_rfl) (by kernel_rfl) ?_ ?_
  rotate_left
  · go_simp
    try with_reducible rfl
  refine (HH.out _ hHeld.1).mono ?_
  rintro e w2 ⟨rfl, hb2⟩
  have hHeld1 := hHeld.below hb2
  refine ⟨_, rfl, hHeld1, ?_⟩
  (try simp only [Act.put, List.setIfInBounds_toArray, List.set_cons_zero, List.set_cons_succ])
  refine takeH 4 (some 6) (v := ?_) rfl rfl (by kernel_rfl) (by kernel_rfl) (by kernel_rfl) (fun _ _ _ h => h) (Or.inl ⟨by kernel_rfl, ?_⟩) hHeld1 ?_
  rotate_left
  · intro w' hSw
    obtain ⟨s0, s1, s2, s3, s4, s5, s6, s7, s8⟩ := hSw.cells
    go_simp
    try with_reducible rfl
  (try simp only [Act.put, List.setIfInBounds_toArray, List.set_cons_zero, List.set_cons_succ])
  refine takeH 5 (some 7) (v := ?_) rfl rfl (by kernel_rfl) (by kernel_rfl) (by kernel_rfl) (fun _ _ _ h => h) (Or.inl ⟨by kernel_rfl, ?_⟩) hHeld1 ?_
  rotate_left
  · intro w' hSw
    obtain ⟨s0, s1, s2, s3, s4, s5, s6, s7, s8⟩ := hSw.cells
    go_simp
    try with_reducible rfl
  (try simp only [Act.put, List.setIfInBounds_toArray, List.set_cons_zero, List.set_cons_succ])
  refine wpAnyH_done (by kernel_rfl) ?_ _
  obtain ⟨x0, x1, x2, x3, x4, x5, x6, x7, x8⟩ := hHeld1.cells
  have HS := Lib.hid hHeld1
  clear hHeld hHeld1 hb2
  go_wp2_with fail
  go_loopw [7, 8] (fun v7 v8 wr => ∃ j s d : Nat, v8 = .int .i64 (j : Nat) ∧ v7 = .int .i64 (d : Nat) ∧ Hid (d + s = t) ∧ 1 ≤ d ∧ q + 1 ≤ j ∧ j ≤ m + 1 ∧ Hid (cntR x arg (q + 1) j = s) ∧ Hid (AkS w (askO a n c l q (t : Nat) key cnt arg want op) wr)) (fun _ v8 _ => m + 2 - (intOf v8).toNat)
  case atStart => exact ⟨q + 1, 0, t, by go_num, rfl, by show t + 0 = t; omega, ht1, Nat.le_refl _, by have := HQ2.out; omega, cntR_nil _ _ _, HS.out⟩
  case round =>
    obtain ⟨j, s, d, rfl, rfl, HDS, hd, hqj, hjm, HC, HA⟩ := hrel
    clear x0 x1 x2 x3 x4 x5 x6 x7 x8 HS
    obtain ⟨x0, x1, x2, x3, x4, x5, x6, x7, x8⟩ := HA.out.cells
    have d0 : (0 : Int) ≤ (j : Int) := by omega
    have d1 : decide ((0 : Int) ≤ (j : Int)) = true := by simp
    by_cases hj : j < m
    · have d2 : (j : Int) < (m : Int) := by omega
      have d3 : decide ((j : Int) < (m : Int)) = true := by simp; omega
      have d4 : decide (j < m) = true := by simp; omega
      have HCN := cntR_high (x := x) (r := arg) (a := q + 1) (b := j) hqj (by rw [HM.out]; exact hj)
      have HSM : 1 ≤ d := hd
      obtain ⟨rb, ro, rfl, hrb, c0⟩ := HRD.out.at_ (i := j) hj
      have c1 : wr.cell? ⟨rb, ro + j, none⟩ = some (.int .i32 (x.getD j 0)) := (HA.out.1.cell (p := ⟨rb, ro + j, none⟩) hrb).trans c0
      obtain ⟨rr, hrr⟩ : ∃ r, x.getD j 0 = r := ⟨_, rfl⟩
      rw [hrr] at c1 HCN
      have HRR := Lib.hid hrr
      have HCN := Lib.hid HCN
      have HJ := Lib.hid hj
      clear hrr c0
      by_cases hr : rr = arg
      · have e0 : (rr != arg) = false := by simp [hr]
        have e2 : (rr == arg) = true := by simp [hr]
        by_cases hd1 : d = 1
        · have HRES : Hid (res = some j) := by
            show _ = _
            rw [← HR.out]
            have h1 := HCN.out
            rw [if_pos hr] at h1
            have h2 := HDS.out
            have h3 := HC.out
            exact nthF_some (by rw [HM.out]; exact HJ.out) (by omega) (by rw [HRR.out]; exact hr) (by omega)
          subst hd1
          subst hr
          have HIN := Lib.hid (fun (W : World) => inline_any a n c l q t key cnt rr want op (j : Nat) W)
          go_wp2_with fail
          go_quiet (fail)
          go_wp2_with (go_at_call 41; refine (HIN.out _).mono ?_; rintro e w2 ⟨rfl, hb2⟩; have HA2 := Lib.hid ((HA.out.below (bdrewN (Below.refl _ _) _)).below hb2); obtain ⟨pv0, pv1, pc0, pc1, pz0, pz1⟩ := HA2.out.pos)
          refine bodyPost_ret (v := .tuple #[.agg #[.int .i64 (l : Nat), .int .i64 (j : Nat)], .bool true]) ?_ rfl ⟨by rw [HRES.out]; rfl, ?_⟩
          · rw [results_ct rfl]
            go_simp
          · exact (HA2.out.store _ _).1
        · have e3 : ((d : Int) - 1 == 0) = false := by simp; omega
          obtain ⟨d', hd'⟩ : ∃ d', d - 1 = d' := ⟨_, rfl⟩
          have e4 : (d : Int) - 1 = (d' : Int) := by omega
          have e5 : ((d' : Int) == 0) = false := by simp; omega
          have e6 : ¬ (d' : Int) = 0 := by omega
          have e7 : ¬ d' = 0 := by omega
          have HN : Hid (cntR x arg (q + 1) (j + 1) = s + 1) := by
            have h1 := HCN.out
            rw [if_pos hr] at h1
            have h3 := HC.out
            show _ = _
            omega
          have HDD : Hid (d' + (s + 1) = t) := by have := HDS.out; show _ = _; omega
          have e8 : 1 ≤ d' := by omega
          have e9 : (d : Int) ≤ 9223372036854775807 := by have := HDS.out; omega
          clear hd' hd1 hr
          go_wp2_with fail
          go_quiet (fail)
          go_wp2_with fail
          go_roundw
          case rel => exact ⟨j + 1, s + 1, d', by go_num, rfl, HDD.out, e8, by omega, by have := HJ.out; omega, HN.out, HA.out.below (bdrewN (Below.refl _ _) _)⟩
          case measure => have := HJ.out; simp [intOf]; omega
      · have e0 : (rr != arg) = true := by simp [hr]
        have e2 : (rr == arg) = false := by simp [hr]
        have HN : Hid (cntR x arg (q + 1) (j + 1) = s) := by
          have h1 := HCN.out
          rw [if_neg hr] at h1
          have h3 := HC.out
          show _ = _
          omega
        go_wp2_with fail
        go_quiet (fail)
        go_wp2_with fail
        go_roundw
        case rel => exact ⟨j + 1, s, d, by go_num, rfl, HDS.out, hd, by omega, by have := HJ.out; omega, HN.out, HA.out.below (bdrewN (Below.refl _ _) _)⟩
        case measure => have := HJ.out; simp [intOf]; omega
    · have HRES : Hid (res = none) := by
        show _ = _
        rw [← HR.out]
        have h2 := HDS.out
        have h3 := HC.out
        exact nthF_few (by rw [cntR_long x arg (b := j) (by rw [HM.out]; omega)]; omega)
      have d2 : ¬ (j : Int) < (m : Int) := by omega
      have d3 : decide ((j : Int) < (m : Int)) = false := by simp; omega
      have d4 : decide (j < m) = false := by simp; omega
      obtain ⟨pv0, pv1, pc0, pc1, pz0, pz1⟩ := HA.out.pos
      go_wp2_with fail
      refine bodyPost_ret (v := .tuple #[.agg #[.int .i64 0, .int .i64 0], .bool false]) ?_ rfl ⟨by rw [HRES.out]; rfl, ?_⟩
      · rw [results_ct rfl]
        go_simp
      · exact (HA.out.store _ _).1
set_option maxHeartbeats 2000000 in
theorem findB_any (F : Nat → Prop) (a : Option Addr) (n c l q : Nat) (t : Nat) (key cnt arg want : Int) (op : Bool) (L : List (List Int)) (w : World) (h : RdL F w a n c L) (hp : okP L (l, q)) (ht : (t : Int) ≤ 9223372036854775807) (ht1 : 1 ≤ t) :
    Calls Try.prog 54 #[askL a n c l q (t : Nat) key cnt arg want op, Value.int .i64 (-1)] w fun e w' => e = .returned (.tuple #[plV (fndP l (nthB (lnL L l) arg q t)), .bool (nthB (lnL L l) arg q t).isSome]) ∧ Below w.heap.size w w' := by
  have hln : L.length = n := h.len
  have hl : l < n := by rw [← hln]; exact hp.1
  have hsm := h.small
  have hq : (q : Int) ≤ 9223372036854775807 := by
    have h2 := hp.2
    simp only at h2
    obtain ⟨b, off, ra, rc, -, -, -, -, -, hrd, -⟩ := h.get (Below.refl _ w) (List.getElem?_eq_getElem (l := L) (i := l) (by omega))
    have := hrd.small
    unfold lnL at h2
    rw [List.getD_eq_getElem?_getD, List.getElem?_eq_getElem (by omega)] at h2
    simp only [Option.getD_some] at h2
    omega
  have hq2 := hp.2
  simp only at hq2
  have hx : L[l]? = some (lnL L l) := by unfold lnL; rw [List.getD_eq_getElem?_getD, List.getElem?_eq_getElem (by omega)]; rfl
  obtain ⟨ra, rc, hrd, hh⟩ := here_any F a n c l q t key cnt arg want op L (lnL L l) w h hx
  obtain ⟨x, hxx⟩ : ∃ x, lnL L l = x := ⟨_, rfl⟩
  rw [hxx] at hrd hh hq2 ⊢
  obtain ⟨m, hm⟩ : ∃ m, x.length = m := ⟨_, rfl⟩
  have hms := hrd.small
  rw [hm] at hh hms hrd hq2
  have HH := Lib.hid hh
  have HRD := Lib.hid hrd
  have HM := Lib.hid hm
  obtain ⟨res, hres⟩ : ∃ r, nthB x arg q t = r := ⟨_, rfl⟩
  rw [hres]
  have HR := Lib.hid hres
  have w0 : IntKind.i64.wrap ((q : Int) + -1) = (q : Int) + -1 := by rw [IntKind.wrap_i64]; omega
  have HQ2 : Hid (q ≤ m - 1) := hq2
  clear h hp hx hrd hh hln hm hxx hres hq2
  obtain ⟨w1, hw1, ha1⟩ := lead_start w (askO a n c l q (t : Nat) key cnt arg want op)
  have HW1 := Lib.hid hw1
  have HA1 := Lib.hid ha1
  clear hw1 ha1
  go_enter Try.func54, Try.ntmps54
  go_upto_region 1 with fail
  rw [HW1.out]
  refine wp_region_held (S := AkS w (askO a n c l q (t : Nat) key cnt arg want op)) (by kernel_rfl) ?_
  change wpAnyH _ _ _ _ _ _ _ _ (World.drew _)
  have hHeld : (AkS w (askO a n c l q (t : Nat) key cnt arg want op)) (World.drew w1) := HA1.out.drew
  refine takeH 0 (some 9) (v := ?_) rfl rfl (by kernel_rfl) (by kernel_rfl) (by kernel_rfl) (fun _ _ _ h => h) (Or.inl ⟨by kernel_rfl, ?_⟩) hHeld ?_
  rotate_left
  · intro w' hSw
    obtain ⟨s0, s1, s2, s3, s4, s5, s6, s7, s8⟩ := hSw.cells
    go_simp
    try with_reducible rfl
  (try simp only [Act.put, List.setIfInBounds_toArray, List.set_cons_zero, List.set_cons_succ])
  refine takeH 2 (some 11) (v := ?_) rfl rfl (by kernel_rfl) (by kernel_rfl) (by kernel_rfl) (fun _ _ _ h => h) (Or.inl ⟨by kernel_rfl, ?_⟩) hHeld ?_
  rotate_left
  · intro w' hSw
    obtain ⟨s0, s1, s2, s3, s4, s5, s6, s7, s8⟩ := hSw.cells
    go_simp
    try with_reducible rfl
  (try simp only [Act.put, List.setIfInBounds_toArray, List.set_cons_zero, List.set_cons_succ])
  refine takeH 3 (some 12) (v := ?_) rfl rfl (by kernel_rfl) (by kernel_rfl) (by kernel_rfl) (fun _ _ _ h => h) (Or.inl ⟨by kernel_rfl, ?_⟩) hHeld ?_
  rotate_left
  · intro w' hSw
    obtain ⟨s0, s1, s2, s3, s4, s5, s6, s7, s8⟩ := hSw.cells
    go_simp
    try with_reducible rfl
  (try simp only [Act.put, List.setIfInBounds_toArray, List.set_cons_zero, List.set_cons_succ])
  refine callH 1 (some 10) (f := 42) (args := ?_) rfl rfl (by kernel_rfl) (by kernel_rfl) ?_ ?_
  rotate_left
  · go_simp
    try with_reducible rfl
  refine (HH.out _ hHeld.1).mono ?_
  rintro e w2 ⟨rfl, hb2⟩
  have hHeld1 := hHeld.below hb2
  refine ⟨_, rfl, hHeld1, ?_⟩
  (try simp only [Act.put, List.setIfInBounds_toArray, List.set_cons_zero, List.set_cons_succ])
  refine takeH 4 (some 6) (v := ?_) rfl rfl (by kernel_rfl) (by kernel_rfl) (by kernel_rfl) (fun _ _ _ h => h) (Or.inl ⟨by kernel_rfl, ?_⟩) hHeld1 ?_
  rotate_left
  · intro w' hSw
    obtain ⟨s0, s1, s2, s3, s4, s5, s6, s7, s8⟩ := hSw.cells
    go_simp
    try with_reducible rfl
  (try simp only [Act.put, List.setIfInBounds_toArray, List.set_cons_zero, List.set_cons_succ])
  refine takeH 5 (some 7) (v := ?_) rfl rfl (by kernel_rfl) (by kernel_rfl) (by kernel_rfl) (fun _ _ _ h => h) (Or.inl ⟨by kernel_rfl, ?_⟩) hHeld1 ?_
  rotate_left
  · intro w' hSw
    obtain ⟨s0, s1, s2, s3, s4, s5, s6, s7, s8⟩ := hSw.cells
    go_simp
    try with_reducible rfl
  (try simp only [Act.put, List.setIfInBounds_toArray, List.set_cons_zero, List.set_cons_succ])
  refine wpAnyH_done (by kernel_rfl) ?_ _
  obtain ⟨x0, x1, x2, x3, x4, x5, x6, x7, x8⟩ := hHeld1.cells
  have HS := Lib.hid hHeld1
  clear hHeld hHeld1 hb2
  go_wp2_with fail
  go_loopw [7, 8] (fun v7 v8 wr => ∃ (v : Int) (j s d : Nat), v8 = .int .i64 v ∧ v7 = .int .i64 (d : Nat) ∧ Hid (v = (j : Int) - 1) ∧ Hid (d + s = t) ∧ 1 ≤ d ∧ j ≤ q ∧ Hid (cntR x arg j q = s) ∧ Hid (AkS w (askO a n c l q (t : Nat) key cnt arg want op) wr)) (fun _ v8 _ => match v8 with | .int _ v => (v + 1).toNat | _ => 0)
  case atStart => exact ⟨_, q, 0, t, rfl, rfl, by show _ = _; omega, by show t + 0 = t; omega, ht1, Nat.le_refl _, cntR_nil _ _ _, HS.out⟩
  case round =>
    obtain ⟨v, j0, s, d, rfl, rfl, HV, HDS, hd, hqj, HC, HA⟩ := hrel
    clear x0 x1 x2 x3 x4 x5 x6 x7 x8 HS
    obtain ⟨x0, x1, x2, x3, x4, x5, x6, x7, x8⟩ := HA.out.cells
    by_cases hj0 : 0 < j0
    · obtain ⟨j, rfl⟩ : ∃ j, j0 = j + 1 := ⟨j0 - 1, by omega⟩
      have hv : v = (j : Int) := by have := HV.out; omega
      subst hv
      have hj : j < m := by have := HQ2.out; omega
      have d0 : (0 : Int) ≤ (j : Int) := by omega
      have d1 : decide ((0 : Int) ≤ (j : Int)) = true := by simp
      have d2 : (j : Int) < (m : Int) := by omega
      have d3 : decide ((j : Int) < (m : Int)) = true := by simp; omega
      have d4 : decide (j < m) = true := by simp; omega
      have w1' : IntKind.i64.wrap ((j : Int) + -1) = (j : Int) + -1 := by rw [IntKind.wrap_i64]; omega
      have HCN : cntR x arg j q = (if x.getD j 0 = arg then 1 else 0) + cntR x arg (j + 1) q := by
        rw [cntR_split x arg (a := j) (b := j + 1) (c := q) (by omega) hqj (by rw [HM.out]; have := HQ2.out; omega), cntR_one (by rw [HM.out]; exact hj)]
      have HQJ : Hid (j + 1 ≤ q) := hqj
      obtain ⟨rb, ro, rfl, hrb, c0⟩ := HRD.out.at_ (i := j) hj
      have c1 : wr.cell? ⟨rb, ro + j, none⟩ = some (.int .i32 (x.getD j 0)) := (HA.out.1.cell (p := ⟨rb, ro + j, none⟩) hrb).trans c0
      obtain ⟨rr, hrr⟩ : ∃ r, x.getD j 0 = r := ⟨_, rfl⟩
      rw [hrr] at c1 HCN
      have HRR := Lib.hid hrr
      have HCN := Lib.hid HCN
      have HJ := Lib.hid hj
      clear hrr c0
      by_cases hr : rr = arg
      · have e0 : (rr != arg) = false := by simp [hr]
        have e2 : (rr == arg) = true := by simp [hr]
        by_cases hd1 : d = 1
        · have HRES : Hid (res = some j) := by
            show _ = _
            rw [← HR.out]
            have h1 := HCN.out
            rw [if_pos hr] at h1
            have h2 := HDS.out
            have h3 := HC.out
            exact nthB_some (by rw [HM.out]; have := HQ2.out; omega) (by have := HQJ.out; omega) (by rw [HRR.out]; exact hr) (by omega)
          subst hd1
          subst hr
          have HIN := Lib.hid (fun (W : World) => inline_any a n c l q t key cnt rr want op (j : Nat) W)
          go_wp2_with fail
          go_quiet (fail)
          go_wp2_with (go_at_call 41; refine (HIN.out _).mono ?_; rintro e w2 ⟨rfl, hb2⟩; have HA2 := Lib.hid ((HA.out.below (bdrewN (Below.refl _ _) _)).below hb2); obtain ⟨pv0, pv1, pc0, pc1, pz0, pz1⟩ := HA2.out.pos)
          refine bodyPost_ret (v := .tuple #[.agg #[.int .i64 (l : Nat), .int .i64 (j : Nat)], .bool true]) ?_ rfl ⟨by rw [HRES.out]; rfl, ?_⟩
          · rw [results_ct rfl]
            go_simp
          · exact (HA2.out.store _ _).1
        · have e3 : ((d : Int) - 1 == 0) = false := by simp; omega
          obtain ⟨d', hd'⟩ : ∃ d', d - 1 = d' := ⟨_, rfl⟩
          have e4 : (d : Int) - 1 = (d' : Int) := by omega
          have e5 : ((d' : Int) == 0) = false := by simp; omega
          have e6 : ¬ (d' : Int) = 0 := by omega
          have e7 : ¬ d' = 0 := by omega
          have HN : Hid (cntR x arg j q = s + 1) := by
            have h1 := HCN.out
            rw [if_pos hr] at h1
            have h3 := HC.out
            show _ = _
            omega
          have HDD : Hid (d' + (s + 1) = t) := by have := HDS.out; show _ = _; omega
          have e8 : 1 ≤ d' := by omega
          have e9 : (d : Int) ≤ 9223372036854775807 := by have := HDS.out; omega
          clear hd' hd1 hr
          go_wp2_with fail
          go_quiet (fail)
          go_wp2_with fail
          go_roundw
          case rel => exact ⟨_, j, s + 1, d', rfl, rfl, by show _ = _; omega, HDD.out, e8, by have := HQJ.out; omega, HN.out, HA.out.below (bdrewN (Below.refl _ _) _)⟩
          case measure => show _ < _; simp only; omega
      · have e0 : (rr != arg) = true := by simp [hr]
        have e2 : (rr == arg) = false := by simp [hr]
        have HN : Hid (cntR x arg j q = s) := by
          have h1 := HCN.out
          rw [if_neg hr] at h1
          have h3 := HC.out
          show _ = _
          omega
        go_wp2_with fail
        go_quiet (fail)
        go_wp2_with fail
        go_roundw
        case rel => exact ⟨_, j, s, d, rfl, rfl, by show _ = _; omega, HDS.out, hd, by have := HQJ.out; omega, HN.out, HA.out.below (bdrewN (Below.refl _ _) _)⟩
        case measure => show _ < _; simp only; omega
    · have HRES : Hid (res = none) := by
        show _ = _
        rw [← HR.out]
        have h2 := HDS.out
        have h3 := HC.out
        exact nthB_few (by rw [HM.out]; have := HQ2.out; omega) (by rw [show 0 = j0 by omega]; omega)
      have hv : v = -1 := by have := HV.out; omega
      subst hv
      obtain ⟨pv0, pv1, pc0, pc1, pz0, pz1⟩ := HA.out.pos
      go_wp2_with fail
      refine bodyPost_ret (v := .tuple #[.agg #[.int .i64 0, .int .i64 0], .bool false]) ?_ rfl ⟨by rw [HRES.out]; rfl, ?_⟩
      · rw [results_ct rfl]
        go_simp
      · exact (HA.out.store _ _).1
end Go.Proofs.Ytikdojebnbmpoaa.U
