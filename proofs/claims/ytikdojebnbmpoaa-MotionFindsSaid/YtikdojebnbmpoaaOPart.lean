/-
  The bracket that belongs to the first one of a line: %. (MADE by wip/tools/gen_opart.py.)
-/
import Derived.Test.YtikdojebnbmpoaaOBel
namespace Go.Proofs.Ytikdojebnbmpoaa.U
open Go.RowKit
set_option linter.unusedVariables false
set_option linter.unusedSimpArgs false
set_option maxRecDepth 100000

/-- and a bracket's box -/
def PaS (w : World) (A : Obj) (bx : Nat) (o1 o2 sd : Int) (W : World) : Prop := AkS w A W ∧ W.heap[bx]? = some (.cells #[.int .i32 o1, .int .i32 o2, .int .i64 sd] 63 (0, 0)) ∧ w.heap.size + 1 < bx
theorem PaS.below {w W W2 : World} {A : Obj} {bx : Nat} {o1 o2 sd : Int} (h : PaS w A bx o1 o2 sd W) (hb : Below W.heap.size W W2) : PaS w A bx o1 o2 sd W2 :=
  ⟨h.1.below hb, (hb.block _ (Array.getElem?_eq_some_iff.1 h.2.1).1).trans h.2.1, h.2.2⟩
theorem PaS.drew {w W : World} {A : Obj} {bx : Nat} {o1 o2 sd : Int} (h : PaS w A bx o1 o2 sd W) : PaS w A bx o1 o2 sd W.drew := h.below ((Below.refl _ W).drew)
theorem PaS.store {w W : World} {A : Obj} {bx : Nat} {o1 o2 sd : Int} (h : PaS w A bx o1 o2 sd W) (x y : Value) : PaS w A bx o1 o2 sd ((W.setCell ⟨w.heap.size + 1, 0, none⟩ x).setCell ⟨w.heap.size + 1, 1, none⟩ y) := by
  obtain ⟨h1, h2, h3⟩ := h
  have hn : ¬ bx = w.heap.size + 1 := by omega
  exact ⟨h1.store x y, (Below.heap_setCell _ _ _ _ hn).trans ((Below.heap_setCell _ _ _ _ hn).trans h2), h3⟩
theorem PaS.cells {w W : World} {a : Option Addr} {n c l q : Nat} {k key cnt arg want : Int} {op : Bool} {bx : Nat} {o1 o2 sd : Int} (h : PaS w (askO a n c l q k key cnt arg want op) bx o1 o2 sd W) :
    W.cell? ⟨w.heap.size, 0, none⟩ = some (.slice a n c) ∧ W.cell? ⟨w.heap.size, 1, none⟩ = some (.int .i64 (l : Nat)) ∧ W.cell? ⟨w.heap.size, 2, none⟩ = some (.int .i64 (q : Nat)) ∧ W.cell? ⟨w.heap.size, 3, none⟩ = some (.int .i64 k) ∧ W.cell? ⟨w.heap.size, 4, none⟩ = some (.int .i32 key) ∧ W.cell? ⟨w.heap.size, 5, none⟩ = some (.int .i64 cnt) ∧ W.cell? ⟨w.heap.size, 6, none⟩ = some (.int .i32 arg) ∧ W.cell? ⟨w.heap.size, 7, none⟩ = some (.int .i64 want) ∧ W.cell? ⟨w.heap.size, 8, none⟩ = some (.bool op) := h.1.cells
theorem PaS.pos {w W : World} {A : Obj} {bx : Nat} {o1 o2 sd : Int} (h : PaS w A bx o1 o2 sd W) : ∃ v0 v1, W.cell? ⟨w.heap.size + 1, 0, none⟩ = some v0 ∧ W.cell? ⟨w.heap.size + 1, 1, none⟩ = some v1 ∧ W.frozen? ⟨w.heap.size + 1, 0, none⟩ = false ∧ W.frozen? ⟨w.heap.size + 1, 1, none⟩ = false := h.1.pos
theorem PaS.brk {w W : World} {A : Obj} {bx : Nat} {o1 o2 sd : Int} (h : PaS w A bx o1 o2 sd W) : W.cell? ⟨bx, 0, none⟩ = some (.int .i32 o1) ∧ W.cell? ⟨bx, 1, none⟩ = some (.int .i32 o2) ∧ W.cell? ⟨bx, 2, none⟩ = some (.int .i64 sd) :=
  ⟨by rw [cell_row h.2.1]; rfl, by rw [cell_row h.2.1]; rfl, by rw [cell_row h.2.1]; rfl⟩
theorem brk_way {L : List (List Int)} {l j : Nat} {r o : Int} {b : Bool} (hl : l < L.length) (hj : j < (lnL L l).length) (hr : (lnL L l).getD j 0 = r) (h : pairR r = some (o, b)) :
    ∃ sd R, brkT r = (r, o, sd) ∧ sd ≠ 0 ∧ r ≠ o ∧ Stand L sd (l : Int) (j : Int) R ∧ R.length ≤ sizeN (lens L) ∧ brP L (l, j) = scanB r o 0 R := by
  cases b with
  | true =>
    refine ⟨1, remF L l j, by unfold brkT; rw [h], by decide, (pair_fwd h).2, .inl ⟨rfl, l, j, rfl, rfl, rfl⟩, Nat.le_trans (List.length_filter_le _ _) (runesP_len L), ?_⟩
    unfold brP
    simp only [hr, h]
    rfl
  | false =>
    refine ⟨-1, remB L l (j + 1), by unfold brkT; rw [h], by decide, (pair_bwd h).2, .inr (.inl ⟨rfl, l, j + 1, rfl, by omega, hl, by omega, rfl⟩), ?_, ?_⟩
    · unfold remB
      rw [List.length_reverse]
      exact Nat.le_trans (List.length_filter_le _ _) (runesP_len L)
    · unfold brP
      simp only [hr, h]
      rw [upto_rem]
set_option maxHeartbeats 4000000 in
theorem partner_any (F : Nat → Prop) (a : Option Addr) (n c l q : Nat) (t : Nat) (key cnt arg want : Int) (op : Bool) (L : List (List Int)) (w : World) (h : RdL F w a n c L) (hp : okP L (l, q)) (ht : (t : Int) ≤ 9223372036854775807) (ht1 : 1 ≤ t) (hz : sizeN (lens L) ≤ 262144) :
    Calls Try.prog 36 #[askL a n c l q (t : Nat) key cnt arg want op] w fun e w' => e = .returned (.tuple #[plV (((firstB (lnL L l) q).bind fun i => brP L (l, i)).getD (0, 0)), .bool ((firstB (lnL L l) q).bind fun i => brP L (l, i)).isSome]) ∧ Below w.heap.size w w' := by
  have hln : L.length = n := h.len
  have hl : l < n := by rw [← hln]; exact hp.1
  have hsm := h.small
  have hq : (q : Int) ≤ 9223372036854775807 := by
    have h2 := hp.2
    simp only at h2
    obtain ⟨b, off, ra, rc, -, -, -, -, -, hrd, -⟩ := h.get (Below.refl _ w) (List.getElem?_eq_getElem (l := L) (i := l) (by omega))
    have := hrd.small
    unfold lnL at h2
    rw [List.getD_eq_getElem?_getD, List.getElem?_eq_getElem (by omega)] at h2
    simp only [Option.getD_some] at h2
    omega
  have hq2 := hp.2
  simp only at hq2
  have hx : L[l]? = some (lnL L l) := by unfold lnL; rw [List.getD_eq_getElem?_getD, List.getElem?_eq_getElem (by omega)]; rfl
  obtain ⟨ra, rc, hrd, hh⟩ := here_any F a n c l q t key cnt arg want op L (lnL L l) w h hx
  obtain ⟨x, hxx⟩ : ∃ x, lnL L l = x := ⟨_, rfl⟩
  have HX := Lib.hid hxx
  have HLL : Hid (l < L.length) := by show _ < _; omega
  rw [hxx] at hrd hh hq2 ⊢
  obtain ⟨m, hm⟩ : ∃ m, x.length = m := ⟨_, rfl⟩
  have hms := hrd.small
  rw [hm] at hh hms hrd hq2
  have hqm : q ≤ m := by omega
  have HH := Lib.hid hh
  have HRD := Lib.hid hrd
  have HM := Lib.hid hm
  have HLD := Lib.hid h
  have HZ := Lib.hid hz
  obtain ⟨res, hres⟩ : ∃ r, ((firstB x q).bind fun i => brP L (l, i)) = r := ⟨_, rfl⟩
  rw [hres]
  have HR := Lib.hid hres
  clear h hp hx hrd hh hln hm hxx hres hq2 hz
  obtain ⟨w1, hw1, ha1⟩ := lead_start w (askO a n c l q (t : Nat) key cnt arg want op)
  obtain ⟨x0, x1, x2, x3, x4, x5, x6, x7, x8⟩ := ha1.cells
  obtain ⟨pv0, pv1, pc0, pc1, pz0, pz1⟩ := ha1.pos
  have HW1 := Lib.hid hw1
  have HA1 := Lib.hid ha1
  clear hw1 ha1
  go_enter Try.func36, Try.ntmps36
  go_upto_region 1 with fail
  rw [HW1.out]
  go_wp2_with (go_at_call 42; refine (HH.out _ HA1.out.1).mono ?_; rintro e w2 ⟨rfl, hb2⟩; have HA2 := Lib.hid (HA1.out.below hb2); obtain ⟨x0, x1, x2, x3, x4, x5, x6, x7, x8⟩ := HA2.out.cells; obtain ⟨pv0, pv1, pc0, pc1, pz0, pz1⟩ := HA2.out.pos)
  go_loopw [5] (fun v5 wr => ∃ j : Nat, v5 = .int .i64 (j : Nat) ∧ q ≤ j ∧ j ≤ m ∧ Hid (∀ i, q ≤ i → i < j → pairR (x.getD i 0) = none) ∧ Hid (AkS w (askO a n c l q (t : Nat) key cnt arg want op) wr)) (fun v5 _ => m - (intOf v5).toNat)
  case atStart => exact ⟨q, rfl, Nat.le_refl _, hqm, fun i h1 h2 => absurd h1 (by omega), HA2.out⟩
  case round =>
    obtain ⟨j, rfl, hqj, hjm, HNO, HA⟩ := hrel
    clear x0 x1 x2 x3 x4 x5 x6 x7 x8 pc0 pc1 pz0 pz1
    by_cases hj : j < m
    · obtain ⟨rb, ro, rfl, hrb, c0⟩ := HRD.out.at_ (i := j) hj
      have k1 : wr.cell? ⟨rb, ro + j, none⟩ = some (.int .i32 (x.getD j 0)) := (HA.out.1.cell (p := ⟨rb, ro + j, none⟩) hrb).trans c0
      obtain ⟨rr, hrr⟩ : ∃ r, x.getD j 0 = r := ⟨_, rfl⟩
      rw [hrr] at k1
      have HRR := Lib.hid hrr
      have d0 : ¬ (j : Int) < 0 := by omega
      have d1 : decide ((j : Int) < 0) = false := by simp
      have d2 : (j : Int) < (m : Int) := by omega
      have d3 : decide ((j : Int) < (m : Int)) = true := by simp; omega
      have d4 : decide (j < m) = true := by simp; omega
      have HJ := Lib.hid hj
      clear hrr c0
      cases hpr : pairR rr with
      | none =>
        have hbt : brkT rr = (0, 0, 0) := by unfold brkT; rw [hpr]
        have HBO := Lib.hid (fun (W : World) => bracketOf_any rr W)
        rw [hbt] at HBO
        simp only at HBO
        have HNO2 : Hid (∀ i, q ≤ i → i < j + 1 → pairR (x.getD i 0) = none) := by
          intro i h1 h2
          by_cases e : i < j
          · exact HNO.out i h1 e
          · rw [show i = j by omega, HRR.out]; exact hpr
        clear hbt hpr
        go_wp2_with (go_at_call 56; refine (HBO.out _).mono ?_; rintro e w2 ⟨rfl, hb2⟩; have HA3 := Lib.hid ((HA.out.below hb2).below (bal w2 (.cells #[.int .i32 0, .int .i32 0, .int .i64 0] 63))))
        go_roundw
        case rel => exact ⟨j + 1, by go_num, by omega, by have := HJ.out; omega, HNO2.out, HA3.out⟩
        case measure => have := HJ.out; simp [intOf]; omega
      | some ob =>
        obtain ⟨o, bb⟩ := ob
        obtain ⟨sd, R, hbt, hsd, hro, hst, hRl, hbr⟩ := brk_way (L := L) (l := l) (j := j) (r := rr) (o := o) (b := bb) HLL.out (by rw [HX.out, HM.out]; exact hj) (by rw [HX.out]; exact HRR.out) hpr
        have HBO := Lib.hid (fun (W : World) => bracketOf_any rr W)
        rw [hbt] at HBO
        simp only at HBO
        have HRES : Hid (res = scanB rr o 0 R) := by
          show _ = _
          rw [← HR.out, firstB_some hqj (by rw [HM.out]; exact hj) (by rw [HRR.out, hpr]; rfl) HNO.out, ← hbr]; rfl
        have HBE := Lib.hid (fun (W : World) (hW : Below w.heap.size w W) => belonging_any F a n c l q t key cnt arg want op L rr o sd (l : Int) (j : Int) R W (HLD.out.below hW) hro hst (Nat.le_trans hRl HZ.out))
        rw [← HRES.out] at HBE
        obtain ⟨⟨r1, r2⟩, hr12⟩ : ∃ y, res.getD (0, 0) = y := ⟨_, rfl⟩
        obtain ⟨ok, hok⟩ : ∃ y, res.isSome = y := ⟨_, rfl⟩
        rw [hr12, hok] at HBE
        unfold plV at HBE
        have HR12 := Lib.hid hr12
        have HOK := Lib.hid hok
        have s0 : (sd != 0) = true := by simp [hsd]
        have s1 : ¬ sd = 0 := hsd
        have s2 : (sd == 0) = false := by simp [hsd]
        clear hbt hpr hbr hst hRl hro hr12 hok hsd
        go_wp2_with (go_at_call 56; refine (HBO.out _).mono ?_; rintro e w2 ⟨rfl, hb2⟩; obtain ⟨w3, hw3⟩ : ∃ w3, w2.alloc (.cells #[.int .i32 rr, .int .i32 o, .int .i64 sd] 63) = w3 := ⟨_, rfl⟩; have hn3 : w3.heap[w2.heap.size]? = some (.cells #[.int .i32 rr, .int .i32 o, .int .i64 sd] 63 (0, 0)) := (by rw [← hw3]; exact heap_alloc_new w2 _); have hlt2 : w.heap.size + 1 < w2.heap.size := (by obtain ⟨_, _, _, _, h3⟩ := HA.out.below hb2; exact (Array.getElem?_eq_some_iff.1 h3).1); have HA3 : Hid (PaS w (askO a n c l q (t : Nat) key cnt arg want op) w2.heap.size rr o sd w3) := (⟨(HA.out.below hb2).below (by rw [← hw3]; exact bal _ _ : Below w2.heap.size w2 w3), hn3, hlt2⟩); have k2 : w3.cell? ⟨w2.heap.size, 2, none⟩ = some (.int .i64 sd) := (by rw [cell_row hn3]; rfl); clear hn3)
        refine wp_region_held (S := PaS w (askO a n c l q (t : Nat) key cnt arg want op) w2.heap.size rr o sd) (by kernel_rfl) ?_
        change wpAnyH _ _ _ _ _ _ _ _ (World.drew _)
        have hHeld : (PaS w (askO a n c l q (t : Nat) key cnt arg want op) w2.heap.size rr o sd) (World.drew w3) := HA3.out.drew
        refine takeH 0 (some 26) (v := ?_) rfl rfl (by kernel_rfl) (by kernel_rfl) (by kernel_rfl) (fun _ _ _ h => h) (Or.inl ⟨by kernel_rfl, ?_⟩) hHeld ?_
        rotate_left
        · intro w' hSw
          obtain ⟨s0, s1, s2, s3, s4, s5, s6, s7, s8⟩ := hSw.cells
          obtain ⟨q0, q1, q2⟩ := hSw.brk
          go_simp
          try with_reducible rfl
        (try simp only [Act.put, List.setIfInBounds_toArray, List.set_cons_zero, List.set_cons_succ])
        refine takeH 1 (some 27) (v := ?_) rfl rfl (by kernel_rfl) (by kernel_rfl) (by kernel_rfl) (fun _ _ _ h => h) (Or.inl ⟨by kernel_rfl, ?_⟩) hHeld ?_
        rotate_left
        · intro w' hSw
          obtain ⟨s0, s1, s2, s3, s4, s5, s6, s7, s8⟩ := hSw.cells
          obtain ⟨q0, q1, q2⟩ := hSw.brk
          go_simp
          try with_reducible rfl
        (try simp only [Act.put, List.setIfInBounds_toArray, List.set_cons_zero, List.set_cons_succ])
        refine takeH 2 (some 28) (v := ?_) rfl rfl (by kernel_rfl) (by kernel_rfl) (by kernel_rfl) (fun _ _ _ h => h) (Or.inl ⟨by kernel_rfl, ?_⟩) hHeld ?_
        rotate_left
        · intro w' hSw
          obtain ⟨s0, s1, s2, s3, s4, s5, s6, s7, s8⟩ := hSw.cells
          obtain ⟨q0, q1, q2⟩ := hSw.brk
          go_simp
          try with_reducible rfl
        (try simp only [Act.put, List.setIfInBounds_toArray, List.set_cons_zero, List.set_cons_succ])
        refine takeH 3 (some 29) (v := ?_) rfl rfl (by kernel_rfl) (by kernel_rfl) (by kernel_rfl) (fun _ _ _ h => h) (Or.inl ⟨by kernel_rfl, ?_⟩) hHeld ?_
        rotate_left
        · intro w' hSw
          obtain ⟨s0, s1, s2, s3, s4, s5, s6, s7, s8⟩ := hSw.cells
          obtain ⟨q0, q1, q2⟩ := hSw.brk
          go_simp
          try with_reducible rfl
        (try simp only [Act.put, List.setIfInBounds_toArray, List.set_cons_zero, List.set_cons_succ])
        refine callH 4 (some 30) (f := 41) (args := ?_) rfl rfl (by kernel_rfl) (by kernel_rfl) ?_ ?_
        rotate_left
        · go_simp
          try with_reducible rfl
        refine (inline_any _ _ _ _ _ _ _ _ _ _ _ _ _).mono ?_
        rintro e w4 ⟨rfl, hb4⟩
        have hHeld1 := hHeld.below hb4
        refine ⟨_, rfl, hHeld1, ?_⟩
        (try simp only [Act.put, List.setIfInBounds_toArray, List.set_cons_zero, List.set_cons_succ])
        refine callH 5 (some 31) (f := 57) (args := ?_) rfl rfl (by kernel_rfl) (by kernel_rfl) ?_ ?_
        rotate_left
        · go_simp
          try with_reducible rfl
        refine (HBE.out _ hHeld1.1.1).mono ?_
        rintro e w5 ⟨rfl, hb5⟩
        have hHeld2 := hHeld1.below hb5
        refine ⟨_, rfl, hHeld2, ?_⟩
        (try simp only [Act.put, List.setIfInBounds_toArray, List.set_cons_zero, List.set_cons_succ])
        refine takeH 6 (some 32) (v := ?_) rfl rfl (by kernel_rfl) (by kernel_rfl) (by kernel_rfl) (fun _ _ _ h => h) (Or.inl ⟨by kernel_rfl, ?_⟩) hHeld2 ?_
        rotate_left
        · intro w' hSw
          obtain ⟨s0, s1, s2, s3, s4, s5, s6, s7, s8⟩ := hSw.cells
          obtain ⟨q0, q1, q2⟩ := hSw.brk
          go_simp
          try with_reducible rfl
        (try simp only [Act.put, List.setIfInBounds_toArray, List.set_cons_zero, List.set_cons_succ])
        refine takeH 7 (some 33) (v := ?_) rfl rfl (by kernel_rfl) (by kernel_rfl) (by kernel_rfl) (fun _ _ _ h => h) (Or.inl ⟨by kernel_rfl, ?_⟩) hHeld2 ?_
        rotate_left
        · intro w' hSw
          obtain ⟨s0, s1, s2, s3, s4, s5, s6, s7, s8⟩ := hSw.cells
          obtain ⟨q0, q1, q2⟩ := hSw.brk
          go_simp
          try with_reducible rfl
        (try simp only [Act.put, List.setIfInBounds_toArray, List.set_cons_zero, List.set_cons_succ])
        obtain ⟨pv0, pv1, pc0, pc1, pz0, pz1⟩ := hHeld2.pos
        have hHeld3 : (PaS w (askO a n c l q (t : Nat) key cnt arg want op) w2.heap.size rr o sd) ((w5.setCell ⟨w.heap.size + 1, 0, none⟩ (.int .i64 ((r1 : Nat)))).setCell ⟨w.heap.size + 1, 1, none⟩ (.int .i64 ((r2 : Nat)))) := hHeld2.store _ _
        refine storeH 8 (w' := (w5.setCell ⟨w.heap.size + 1, 0, none⟩ (.int .i64 ((r1 : Nat)))).setCell ⟨w.heap.size + 1, 1, none⟩ (.int .i64 ((r2 : Nat)))) rfl rfl (by kernel_rfl) (by kernel_rfl) ?_ hHeld3 ?_
        · go_simp
          try rfl
        (try simp only [Act.put, List.setIfInBounds_toArray, List.set_cons_zero, List.set_cons_succ])
        refine takeH 9 (some 3) (v := ?_) rfl rfl (by kernel_rfl) (by kernel_rfl) (by kernel_rfl) (fun _ _ _ h => h) (Or.inl ⟨by kernel_rfl, ?_⟩) hHeld3 ?_
        rotate_left
        · intro w' hSw
          obtain ⟨s0, s1, s2, s3, s4, s5, s6, s7, s8⟩ := hSw.cells
          obtain ⟨q0, q1, q2⟩ := hSw.brk
          go_simp
          try with_reducible rfl
        (try simp only [Act.put, List.setIfInBounds_toArray, List.set_cons_zero, List.set_cons_succ])
        refine wpAnyH_done (by kernel_rfl) ?_ _
        go_wp2_with fail
        refine bodyPost_ret (v := .tuple #[.agg #[.int .i64 (r1 : Nat), .int .i64 (r2 : Nat)], .bool ok]) ?_ rfl ⟨by rw [HR12.out, HOK.out]; rfl, ?_⟩
        · rw [results_ct rfl]
          go_simp
        · exact hHeld3.1.1
    · have HRES : Hid (res = none) := by
        show _ = _
        rw [← HR.out, firstB_none (fun i h1 h2 => HNO.out i h1 (by rw [HM.out] at h2; omega))]; rfl
      obtain ⟨pv0, pv1, pc0, pc1, pz0, pz1⟩ := HA.out.pos
      have d2 : ¬ (j : Int) < (m : Int) := by omega
      have d3 : decide ((j : Int) < (m : Int)) = false := by simp; omega
      have d4 : decide (j < m) = false := by simp; omega
      go_wp2_with fail
      refine bodyPost_ret (v := .tuple #[.agg #[.int .i64 0, .int .i64 0], .bool false]) ?_ rfl ⟨by rw [HRES.out]; rfl, ?_⟩
      · rw [results_ct rfl]
        go_simp
      · exact (HA.out.store _ _).1
end Go.Proofs.Ytikdojebnbmpoaa.U
