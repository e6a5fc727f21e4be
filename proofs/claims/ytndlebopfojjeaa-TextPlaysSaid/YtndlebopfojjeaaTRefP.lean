/-
  The document's Place.
-/
import Derived.Test.YtndlebopfojjeaaTRefO
import Derived.Test.YtndlebopfojjeaaTOpen
namespace Go.Proofs.Ytndlebopfojjeaa.U
open Go.RowKit
set_option linter.unusedVariables false
set_option linter.unusedSimpArgs false
set_option maxRecDepth 100000

theorem findP_cons_le {a n : Nat} {r : List Nat} (h : n ≤ a) : findP (a :: r) n = (0, n) := by unfold findP; rw [if_pos h]
theorem findP_cons_gt {a n : Nat} {r : List Nat} (h : ¬ n ≤ a) : findP (a :: r) n = ((findP r (n - (a + 1))).1 + 1, (findP r (n - (a + 1))).2) := by
  conv => lhs; unfold findP
  rw [if_neg h]

set_option maxHeartbeats 4000000 in
theorem rplace_ok (P : Nat → Prop) (bx m : Nat) (L : List (List Int)) (w : World) (h : RX P w bx L) (hs : sizeN (lens L) ≤ 1048576) (hne : L ≠ []) (hm : m ≤ (joinL L).length) :
    Calls Try.prog 20 #[.pointer (some ⟨bx, 0, none⟩), .int .i64 (m : Nat)] w fun e w' => e = .returned (.tuple #[.agg #[.int .i64 ((findP (lens L) m).1 : Nat), .int .i64 ((findP (lens L) m).2 : Nat)], .int .i64 0]) ∧ Below w.heap.size w w' := by
  obtain ⟨la, n, lc, hbx, hr, _⟩ := h
  have hl := hr.len
  have hsm := hr.small
  have hjl := joinL_len hne
  obtain ⟨g, hgs⟩ : ∃ g, w.heap.size = g := ⟨_, rfl⟩
  obtain ⟨wb, hwb⟩ : ∃ wb, w.alloc (.cells #[.int .i64 0, .int .i64 0] 30) = wb := ⟨_, rfl⟩
  have hB : Below g w wb := by rw [← hwb]; exact (Below.refl _ _).alloc (by omega) _
  have hg : wb.heap[g]? = some (.cells #[.int .i64 0, .int .i64 0] 30 (0, 0)) := by rw [← hwb, ← hgs]; exact heap_alloc_new w _
  have hB0 : Below w.heap.size w wb := by rw [hgs]; exact hB
  have hbx2 := (hB0.block bx (heap_lt hbx)).trans hbx
  have a2 := cell_row hbx2 0
  have lb := heap_lt hbx2
  have s0 := cell_row hg 0
  have s1 := cell_row hg 1
  have z0 := frozen_row hg 0
  have z1 := frozen_row hg 1
  have hlg := heap_lt hg
  have HR := Lib.hid (rrunes_any _ la n lc L wb (hr.below hB0) (by omega))
  have HB0 := Lib.hid hB0
  have H := Lib.hid hr
  have HLL := Lib.hid hl
  have HWB := Lib.hid hwb
  have HGS := Lib.hid hgs
  have HJL := Lib.hid hjl
  obtain ⟨R, hR⟩ : ∃ R, (joinL L).length = R := ⟨_, rfl⟩
  rw [hR] at HR hm HJL
  obtain ⟨RL, hRL⟩ : ∃ RL, (findP (lens L) m).1 = RL := ⟨_, rfl⟩
  obtain ⟨RC, hRC⟩ : ∃ RC, (findP (lens L) m).2 = RC := ⟨_, rfl⟩
  have HST : Hid ((findP (lens (L.drop 0)) m).1 + 0 = RL ∧ (findP (lens (L.drop 0)) m).2 = RC ∧ m < sizeN (lens (L.drop 0))) := by
    refine ⟨hRL, hRC, ?_⟩
    have := HJL.out
    simp only [List.drop_zero]
    omega
  rw [hRL, hRC]
  have t1 : decide ((m : Int) < 0) = false := by simp
  have t1' : ¬ ((m : Int) < 0) := by omega
  have t2 : ¬ ((R : Int) < (m : Int)) := by omega
  have hmb : m ≤ 1048576 := by have := HJL.out; omega
  clear hwb hg hB hB0 hbx2 hbx hr hl hRL hRC hR hjl
  go_enter Try.func20, Try.ntmps20
  go_upto_region 1 with fail
  (try rw [HGS.out])
  rw [HWB.out]
  go_wp2_with (go_at_call 31; refine HR.out.mono ?_; rintro e w' ⟨rfl, rfl⟩)
  go_loop [1, 6] (fun v1 v6 => ∃ q i : Nat, v1 = .int .i64 q ∧ v6 = .int .i64 i ∧ q ≤ 1048576 ∧ i ≤ n ∧ Hid ((findP (lens (L.drop i)) q).1 + i = RL ∧ (findP (lens (L.drop i)) q).2 = RC ∧ q < sizeN (lens (L.drop i)))) (fun _ v6 => n - (intOf v6).toNat)
  case atStart => exact ⟨m, 0, rfl, rfl, hmb, Nat.zero_le _, HST⟩
  case round =>
    obtain ⟨q, i, rfl, rfl, hq, hi, hst⟩ := hrel
    clear HST
    obtain ⟨e1, e2, e3⟩ := hst.out
    have hlt : i < n := by
      rcases Nat.lt_or_ge i n with h | h
      · exact h
      · rw [drop_all L i (by have := HLL.out; omega)] at e3
        simp [lens, sizeN_nil] at e3
    obtain ⟨y, hy⟩ : ∃ y, L[i]? = some y := ⟨_, List.getElem?_eq_getElem (by have := HLL.out; omega)⟩
    have hdr : L.drop i = y :: L.drop (i + 1) := by
      obtain ⟨h1, h2⟩ := List.getElem?_eq_some_iff.1 hy
      rw [← h2]
      exact List.drop_eq_getElem_cons h1
    obtain ⟨b, off, ra, rc, rfl, hb, _, hc, _, _⟩ := H.out.get HB0.out hy
    have hbw : b < wb.heap.size := by have := HB0.out.size; omega
    rw [hdr] at e1 e2 e3
    simp only [lens, List.map_cons, sizeN_cons] at e1 e2 e3
    obtain ⟨z, hz⟩ : ∃ z, y.length = z := ⟨_, rfl⟩
    rw [hz] at hc e1 e2 e3
    by_cases hqz : q ≤ z
    · rw [findP_cons_le hqz] at e1 e2
      obtain rfl : i = RL := by simpa using e1
      obtain rfl : q = RC := e2
      have t3 : ¬ ((z : Int) < (q : Int)) := by omega
      clear e1 e3 hy hz hdr hst
      go_wp2_with fail
      (try simp only [Exit.inBlock, Exit.then])
      refine bodyPost_ret (v := .tuple #[.agg #[.int .i64 (i : Nat), .int .i64 (q : Nat)], .int .i64 0]) ?_ rfl ⟨rfl, ?_⟩
      · rw [results_ct rfl]
        go_simp
      · first | (refine Below.setCell (Below.setCell HB0.out ?_ _) ?_ _ <;> (have := HGS.out; simp only; omega)) | (refine Below.setCell (Below.setCell (HGS.out ▸ HB0.out : Below g w wb) ?_ _) ?_ _ <;> (have := HGS.out; simp only; omega))
    · rw [findP_cons_gt hqz] at e1 e2
      have t3 : (z : Int) < (q : Int) := by omega
      have y1 : IntKind.i64.wrap ((z : Int) + 1) = (z : Int) + 1 := by rw [IntKind.wrap_i64]; omega
      have y2 : IntKind.i64.wrap ((q : Int) - ((z : Int) + 1)) = (q : Int) - ((z : Int) + 1) := by rw [IntKind.wrap_i64]; omega
      have HN : Hid ((findP (lens (L.drop (i + 1))) (q - (z + 1))).1 + (i + 1) = RL ∧ (findP (lens (L.drop (i + 1))) (q - (z + 1))).2 = RC ∧ (q - (z + 1)) < sizeN (lens (L.drop (i + 1)))) := by
        unfold lens
        exact ⟨by omega, e2, by omega⟩
      clear e1 e2 e3 hy hz hdr hst
      go_wp2_with fail
      go_round
      case rel => exact ⟨q - (z + 1), i + 1, by first | go_num | (congr 1; omega), by go_num, by omega, by omega, HN⟩
      case measure => simp [intOf]; omega

set_option maxHeartbeats 4000000 in
theorem rplace_err (P : Nat → Prop) (bx : Nat) (m : Int) (L : List (List Int)) (w : World) (h : RX P w bx L) (hs : sizeN (lens L) ≤ 1048576) (hm : m < 0 ∨ ((joinL L).length : Int) < m) (hmb : i64b m) :
    Calls Try.prog 20 #[.pointer (some ⟨bx, 0, none⟩), .int .i64 m] w fun e w' => e = .returned (.tuple #[.agg #[.int .i64 0, .int .i64 0], .int .i64 2]) ∧ Below w.heap.size w w' := by
  obtain ⟨la, n, lc, hbx, hr, _⟩ := h
  have hsm := hr.small
  obtain ⟨g, hgs⟩ : ∃ g, w.heap.size = g := ⟨_, rfl⟩
  obtain ⟨wb, hwb⟩ : ∃ wb, w.alloc (.cells #[.int .i64 0, .int .i64 0] 30) = wb := ⟨_, rfl⟩
  have hB : Below g w wb := by rw [← hwb]; exact (Below.refl _ _).alloc (by omega) _
  have hg : wb.heap[g]? = some (.cells #[.int .i64 0, .int .i64 0] 30 (0, 0)) := by rw [← hwb, ← hgs]; exact heap_alloc_new w _
  have hB0 : Below w.heap.size w wb := by rw [hgs]; exact hB
  have hbx2 := (hB0.block bx (heap_lt hbx)).trans hbx
  have a2 := cell_row hbx2 0
  have lb := heap_lt hbx2
  have s0 := cell_row hg 0
  have s1 := cell_row hg 1
  have z0 := frozen_row hg 0
  have z1 := frozen_row hg 1
  have hlg := heap_lt hg
  have HR := Lib.hid (rrunes_any _ la n lc L wb (hr.below hB0) (by omega))
  have HB0 := Lib.hid hB0
  have HWB := Lib.hid hwb
  have HGS := Lib.hid hgs
  obtain ⟨R, hR⟩ : ∃ R, (joinL L).length = R := ⟨_, rfl⟩
  rw [hR] at HR hm
  unfold i64b at hmb
  clear hwb hg hB hB0 hbx2 hbx hr hR
  rcases hm with hm | hm
  · have t1 : decide (m < 0) = true := by simp; exact hm
    clear HR
    go_enter Try.func20, Try.ntmps20
    go_upto_region 1 with fail
    (try rw [HGS.out])
    rw [HWB.out]
    go_wp2_with fail
    (try simp only [Exit.inBlock, Exit.then])
    refine bodyPost_ret (v := .tuple #[.agg #[.int .i64 0, .int .i64 0], .int .i64 2]) ?_ rfl ⟨rfl, ?_⟩
    · rw [results_ct rfl]
      go_simp
    · first | (refine Below.setCell (Below.setCell HB0.out ?_ _) ?_ _ <;> (have := HGS.out; simp only; omega)) | (refine Below.setCell (Below.setCell (HGS.out ▸ HB0.out : Below g w wb) ?_ _) ?_ _ <;> (have := HGS.out; simp only; omega))
  · have t1 : decide (m < 0) = false := by simp; omega
    have t1' : ¬ (m < 0) := by omega
    go_enter Try.func20, Try.ntmps20
    go_upto_region 1 with fail
    (try rw [HGS.out])
    rw [HWB.out]
    go_wp2_with (go_at_call 31; refine HR.out.mono ?_; rintro e w' ⟨rfl, rfl⟩)
    (try simp only [Exit.inBlock, Exit.then])
    refine bodyPost_ret (v := .tuple #[.agg #[.int .i64 0, .int .i64 0], .int .i64 2]) ?_ rfl ⟨rfl, ?_⟩
    · rw [results_ct rfl]
      go_simp
    · first | (refine Below.setCell (Below.setCell HB0.out ?_ _) ?_ _ <;> (have := HGS.out; simp only; omega)) | (refine Below.setCell (Below.setCell (HGS.out ▸ HB0.out : Below g w wb) ?_ _) ?_ _ <;> (have := HGS.out; simp only; omega))

theorem rplace_any (P : Nat → Prop) (bx : Nat) (m : Int) (L : List (List Int)) (w : World) (h : RX P w bx L) (hs : sizeN (lens L) ≤ 1048576) (hne : L ≠ []) (hmb : i64b m) :
    Calls Try.prog 20 #[.pointer (some ⟨bx, 0, none⟩), .int .i64 m] w fun e w' => e = .returned (.tuple #[.agg #[.int .i64 (placeR L m).1, .int .i64 (placeR L m).2.1], .int .i64 (placeR L m).2.2]) ∧ Below w.heap.size w w' := by
  unfold placeR
  by_cases hh : 0 ≤ m ∧ m ≤ (joinL L).length
  · rw [if_pos hh]
    obtain ⟨k, rfl⟩ : ∃ k : Nat, m = k := ⟨m.toNat, by omega⟩
    rw [Int.toNat_natCast]
    exact rplace_ok P bx k L w h hs hne (by omega)
  · rw [if_neg hh]
    exact rplace_err P bx m L w h hs (by omega) hmb
end Go.Proofs.Ytndlebopfojjeaa.U
