/-
  The document's ends, has: what a region has.
-/
import Derived.Test.YtfldjoiohejilaaJLeaf
namespace Go.Proofs.Ytfldjoiohejilaa.U
open Go.RowKit
set_option linter.unusedVariables false
set_option linter.unusedSimpArgs false
set_option maxRecDepth 100000

theorem results_cell2 {fn : Func} {p q : Tmp} {t u : TypeId} (h : fn.results = #[.cell p t, .cell q u]) (tmps : Array Value) (P : Program) (w : World) :
    (results fn tmps).run P w = ((asAddr (tmps.getD p undef)).run P w).andThen fun a w₁ => ((loadVar t a).run P w₁).andThen fun x w₂ => ((asAddr (tmps.getD q undef)).run P w₂).andThen fun b w₃ => ((loadVar u b).run P w₃).andThen fun y w₄ => .ok (.tuple #[x, y]) w₄ := by
  simp only [results, h]
  simp [Sem.run_bind, Result.andThen]
/-- three blocks laid one behind the other -/
theorem three_new (w : World) (c1 c2 c3 : Array Value) (t1 t2 t3 : TypeId) : ∀ W, Below (w.heap.size + 3) (((w.alloc (.cells c1 t1)).alloc (.cells c2 t2)).alloc (.cells c3 t3)) W →
    W.heap[w.heap.size]? = some (.cells c1 t1 (0, 0)) ∧ W.heap[w.heap.size + 1]? = some (.cells c2 t2 (0, 0)) ∧ W.heap[w.heap.size + 2]? = some (.cells c3 t3 (0, 0)) := by
  intro W hW
  obtain ⟨w2, hw2⟩ : ∃ w2, (w.alloc (.cells c1 t1)).alloc (.cells c2 t2) = w2 := ⟨_, rfl⟩
  have hsz : w2.heap.size = w.heap.size + 2 := by rw [← hw2]; simp
  rw [hw2] at hW
  have q1 : w2.heap[w.heap.size]? = some (.cells c1 t1 (0, 0)) := by
    rw [← hw2, Below.heap_alloc _ _ _ (by simp), heap_alloc_new]
  have q2 : w2.heap[w.heap.size + 1]? = some (.cells c2 t2 (0, 0)) := by
    have := heap_alloc_new (w.alloc (.cells c1 t1)) (.cells c2 t2)
    rw [hw2] at this
    simpa using this
  have q3 := heap_alloc_new w2 (.cells c3 t3)
  rw [hsz] at q3
  exact ⟨(hW.block w.heap.size (by omega)).trans ((Below.heap_alloc _ _ _ (by omega)).trans q1), (hW.block (w.heap.size + 1) (by omega)).trans ((Below.heap_alloc _ _ _ (by omega)).trans q2), (hW.block (w.heap.size + 2) (by omega)).trans q3⟩
theorem two_new (w : World) (c1 c2 : Array Value) (t1 t2 : TypeId) : ∀ W, Below (w.heap.size + 2) ((w.alloc (.cells c1 t1)).alloc (.cells c2 t2)) W →
    W.heap[w.heap.size]? = some (.cells c1 t1 (0, 0)) ∧ W.heap[w.heap.size + 1]? = some (.cells c2 t2 (0, 0)) := by
  intro W hW
  have q1 : ((w.alloc (.cells c1 t1)).alloc (.cells c2 t2)).heap[w.heap.size]? = some (.cells c1 t1 (0, 0)) := by
    rw [Below.heap_alloc _ _ _ (by simp), heap_alloc_new]
  have q2 : ((w.alloc (.cells c1 t1)).alloc (.cells c2 t2)).heap[w.heap.size + 1]? = some (.cells c2 t2 (0, 0)) := by
    have := heap_alloc_new (w.alloc (.cells c1 t1)) (.cells c2 t2)
    simpa using this
  exact ⟨(hW.block w.heap.size (by omega)).trans q1, (hW.block (w.heap.size + 1) (by omega)).trans q2⟩
/-- the boxes of ends -/
structure EnB (b : Nat) (a c u v k : Int) (W : World) : Prop where
  c0 : W.cell? ⟨b, 0, none⟩ = some (.int .i64 a)
  c1 : W.cell? ⟨b, 1, none⟩ = some (.int .i64 c)
  c2 : W.cell? ⟨b, 2, none⟩ = some (.int .i64 u)
  c3 : W.cell? ⟨b, 3, none⟩ = some (.int .i64 v)
  d0 : W.cell? ⟨b + 1, 0, none⟩ = some (.int .i64 0)
  d1 : W.cell? ⟨b + 1, 1, none⟩ = some (.int .i64 0)
  e0 : W.cell? ⟨b + 2, 0, none⟩ = some (.int .i64 0)
  e1 : W.cell? ⟨b + 2, 1, none⟩ = some (.int .i64 0)
  z0 : W.frozen? ⟨b + 1, 0, none⟩ = false
  z1 : W.frozen? ⟨b + 1, 1, none⟩ = false
  z2 : W.frozen? ⟨b + 2, 0, none⟩ = false
  z3 : W.frozen? ⟨b + 2, 1, none⟩ = false
  l0 : b < W.heap.size
  l1 : b + 1 < W.heap.size
  l2 : b + 2 < W.heap.size
theorem enb_new (w : World) (a c u v k : Int) : ∀ W, Below (w.heap.size + 3) (((w.alloc (.cells #[.int .i64 a, .int .i64 c, .int .i64 u, .int .i64 v, .int .i64 k] 26)).alloc (.cells #[.int .i64 0, .int .i64 0] 24)).alloc (.cells #[.int .i64 0, .int .i64 0] 24)) W → EnB w.heap.size a c u v k W := by
  intro W hW
  obtain ⟨h1, h2, h3⟩ := three_new w _ _ _ _ _ _ W hW
  exact ⟨cell_row h1 0, cell_row h1 1, cell_row h1 2, cell_row h1 3, cell_row h2 0, cell_row h2 1, cell_row h3 0, cell_row h3 1, frozen_row h2 0, frozen_row h2 1, frozen_row h3 0, frozen_row h3 1, heap_lt h1, heap_lt h2, heap_lt h3⟩
set_option maxHeartbeats 1000000 in
theorem rends_any (p q : Pl) (k : Int) (w : World) :
    Calls Try.prog 43 #[rgnV p q k] w fun e w' => e = .returned (.tuple #[plV (endsR p q).1, plV (endsR p q).2]) ∧ Below w.heap.size w w' := by
  obtain ⟨a, c⟩ := p
  obtain ⟨u, v⟩ := q
  show Calls Try.prog 43 #[.agg #[.int .i64 (a : Nat), .int .i64 (c : Nat), .int .i64 (u : Nat), .int .i64 (v : Nat), .int .i64 k]] w _
  obtain ⟨wb, hwb⟩ : ∃ wb, ((w.alloc (.cells #[.int .i64 (a : Nat), .int .i64 (c : Nat), .int .i64 (u : Nat), .int .i64 (v : Nat), .int .i64 k] 26)).alloc (.cells #[.int .i64 0, .int .i64 0] 24)).alloc (.cells #[.int .i64 0, .int .i64 0] 24) = wb := ⟨_, rfl⟩
  have hnew := enb_new w (a : Nat) (c : Nat) (u : Nat) (v : Nat) k
  rw [hwb] at hnew
  have hsz : wb.heap.size = w.heap.size + 3 := by rw [← hwb]; simp
  have hB : Below w.heap.size w wb := by rw [← hwb]; exact (((Below.refl _ _).alloc (Nat.le_refl _) _).alloc (by simp) _).alloc (by simp; omega) _
  rw [← hsz] at hnew
  have HA : Hid (∀ W, W = wb → Calls Try.prog 33 #[.agg #[.int .i64 (u : Nat), .int .i64 (v : Nat)], .agg #[.int .i64 (a : Nat), .int .i64 (c : Nat)]] W fun e w' => e = .returned (.bool (aheadP (u, v) (a, c))) ∧ EnB w.heap.size (a : Nat) (c : Nat) (u : Nat) (v : Nat) k w' ∧ Hid (Below w.heap.size w w')) := by
    rintro W rfl
    refine (rahead_any (u, v) (a, c) W).mono ?_
    rintro e w' ⟨rfl, hb⟩
    exact ⟨rfl, hnew w' hb, hB.trans (hb.mono (by omega))⟩
  have hx := hnew wb (Below.refl _ _)
  have HW := Lib.hid hwb
  clear hwb hB hnew hsz
  obtain ⟨b, hbe⟩ : ∃ b, w.heap.size = b := ⟨_, rfl⟩
  have HBE := Lib.hid hbe
  rw [hbe] at hx HA
  rw [hbe]
  clear hbe
  obtain ⟨c0, c1, c2, c3, d0, d1, e0, e1, z0, z1, z2, z3, l0, l1, l2⟩ := hx
  have hen : endsR (a, c) (u, v) = if aheadP (u, v) (a, c) then ((u, v), (a, c)) else ((a, c), (u, v)) := rfl
  obtain ⟨A, hA⟩ : ∃ A, aheadP (u, v) (a, c) = A := ⟨_, rfl⟩
  rw [hA] at HA hen
  rw [hen]
  clear hen hA
  go_enter Try.func43, Try.ntmps43
  go_upto_region 1 with fail
  rw [HBE.out, HW.out]
  cases A
  · go_upto_region 3 with (go_at_call 33; (refine (HA.out _ rfl).mono ?_); rintro e w2 ⟨rfl, ⟨x0, x1, x2, x3, y0, y1, f0, f1, o0, o1, o2, o3, m0, m1, m2⟩, HB2⟩)
    clear c0 c1 c2 c3 d0 d1 e0 e1 z0 z1 z2 z3 l0 l1 l2
    go_region
    all_goals
      go_wp2
      refine bodyPost_ret (v := .tuple #[plV (a, c), plV (u, v)]) ?_ rfl ⟨rfl, ?_⟩
      · rw [results_cell2 rfl]
        go_simp
        first | rfl | exact ⟨rfl, rfl⟩
      · have h2 := HB2.out
        (repeat' (first | exact h2 | omega | refine setCell_below ?_ _ _ _ ?_ | refine Below.drew ?_ | refine bdrewN ?_ _))
  · go_upto_region 2 with (go_at_call 33; (refine (HA.out _ rfl).mono ?_); rintro e w2 ⟨rfl, ⟨x0, x1, x2, x3, y0, y1, f0, f1, o0, o1, o2, o3, m0, m1, m2⟩, HB2⟩)
    clear c0 c1 c2 c3 d0 d1 e0 e1 z0 z1 z2 z3 l0 l1 l2
    go_region
    all_goals
      go_wp2
      refine bodyPost_ret (v := .tuple #[plV (u, v), plV (a, c)]) ?_ rfl ⟨rfl, ?_⟩
      · rw [results_cell2 rfl]
        go_simp
        first | rfl | exact ⟨rfl, rfl⟩
      · have h2 := HB2.out
        (repeat' (first | exact h2 | omega | refine setCell_below ?_ _ _ _ ?_ | refine Below.drew ?_ | refine bdrewN ?_ _))
/-- the boxes of has: a region, a place, its ends -/
structure HaB (b d : Nat) (k : Int) (x A B : Pl) (W : World) : Prop where
  c4 : W.cell? ⟨b, 4, none⟩ = some (.int .i64 k)
  x0 : W.cell? ⟨b + 1, 0, none⟩ = some (.int .i64 (x.1 : Nat))
  x1 : W.cell? ⟨b + 1, 1, none⟩ = some (.int .i64 (x.2 : Nat))
  a0 : W.cell? ⟨d, 0, none⟩ = some (.int .i64 (A.1 : Nat))
  a1 : W.cell? ⟨d, 1, none⟩ = some (.int .i64 (A.2 : Nat))
  b0 : W.cell? ⟨d + 1, 0, none⟩ = some (.int .i64 (B.1 : Nat))
  b1 : W.cell? ⟨d + 1, 1, none⟩ = some (.int .i64 (B.2 : Nat))
  l0 : b < W.heap.size
  l1 : b + 1 < W.heap.size
  l2 : d < W.heap.size
  l3 : d + 1 < W.heap.size
theorem HaB.below {b d : Nat} {k : Int} {x A B : Pl} {w W : World} (h : HaB b d k x A B w) (hb : Below w.heap.size w W) : HaB b d k x A B W := by
  have hs := hb.size
  exact ⟨(hb.cell (p := ⟨b, 4, none⟩) h.l0).trans h.c4, (hb.cell (p := ⟨b + 1, 0, none⟩) h.l1).trans h.x0, (hb.cell (p := ⟨b + 1, 1, none⟩) h.l1).trans h.x1, (hb.cell (p := ⟨d, 0, none⟩) h.l2).trans h.a0, (hb.cell (p := ⟨d, 1, none⟩) h.l2).trans h.a1, (hb.cell (p := ⟨d + 1, 0, none⟩) h.l3).trans h.b0, (hb.cell (p := ⟨d + 1, 1, none⟩) h.l3).trans h.b1, by have := h.l0; omega, by have := h.l1; omega, by have := h.l2; omega, by have := h.l3; omega⟩
/-- where has stands behind its first region -/
theorem hab_new {w w2 : World} {b : Nat} {k : Int} {x A B : Pl} (h4 : w2.cell? ⟨b, 4, none⟩ = some (.int .i64 k)) (h0 : w2.cell? ⟨b + 1, 0, none⟩ = some (.int .i64 (x.1 : Nat))) (h1 : w2.cell? ⟨b + 1, 1, none⟩ = some (.int .i64 (x.2 : Nat))) (hb : b + 1 < w2.heap.size) (hw : Below w.heap.size w w2) (hs : w.heap.size ≤ w2.heap.size) :
    HaB b w2.heap.size k x A B ((w2.alloc (.cells #[.int .i64 (A.1 : Nat), .int .i64 (A.2 : Nat)] 24)).alloc (.cells #[.int .i64 (B.1 : Nat), .int .i64 (B.2 : Nat)] 24)) ∧
    Below w.heap.size w ((w2.alloc (.cells #[.int .i64 (A.1 : Nat), .int .i64 (A.2 : Nat)] 24)).alloc (.cells #[.int .i64 (B.1 : Nat), .int .i64 (B.2 : Nat)] 24)) := by
  obtain ⟨w3, hw3⟩ : ∃ w3, (w2.alloc (.cells #[.int .i64 (A.1 : Nat), .int .i64 (A.2 : Nat)] 24)).alloc (.cells #[.int .i64 (B.1 : Nat), .int .i64 (B.2 : Nat)] 24) = w3 := ⟨_, rfl⟩
  obtain ⟨g1, g2⟩ := two_new w2 _ _ _ _ w3 (by rw [← hw3]; exact Below.refl _ _)
  have hbb : Below w2.heap.size w2 w3 := by rw [← hw3]; exact ((Below.refl _ _).alloc (Nat.le_refl _) _).alloc (by simp) _
  rw [hw3]
  have hsz := hbb.size
  exact ⟨⟨(hbb.cell (p := ⟨b, 4, none⟩) (by show b < _; omega)).trans h4, (hbb.cell (p := ⟨b + 1, 0, none⟩) (by show b + 1 < _; omega)).trans h0, (hbb.cell (p := ⟨b + 1, 1, none⟩) (by show b + 1 < _; omega)).trans h1, cell_row g1 0, cell_row g1 1, cell_row g2 0, cell_row g2 1, by omega, by omega, heap_lt g1, heap_lt g2⟩, hw.trans (hbb.mono hs)⟩
set_option maxHeartbeats 2000000 in
theorem rhasR_any (p q x : Pl) (k : Int) (R : Bool) (w : World) (hR : regHas k p q x = R) :
    Calls Try.prog 64 #[rgnV p q k, plV x] w fun e w' => e = .returned (.bool R) ∧ Below w.heap.size w w' := by
  have hrh : regHas k p q x = if k = 0 then !aheadP x (endsR p q).1 && !aheadP (endsR p q).2 x
    else if k = 1 then decide ((endsR p q).1.1 ≤ x.1) && decide (x.1 ≤ (endsR p q).2.1)
    else decide ((endsR p q).1.1 ≤ x.1) && decide (x.1 ≤ (endsR p q).2.1) && decide (min (endsR p q).1.2 (endsR p q).2.2 ≤ x.2) && decide (x.2 ≤ max (endsR p q).1.2 (endsR p q).2.2) := by
    unfold regHas endsR
    split
    · rfl
    · split
      · rfl
      · split
        · rw [Nat.min_comm, Nat.max_comm]
        · rfl
  rw [hrh] at hR
  clear hrh
  have hend := rends_any p q k
  generalize endsR p q = EN at hend hR
  obtain ⟨⟨A1, A2⟩, ⟨B1, B2⟩⟩ := EN
  obtain ⟨a, c⟩ := p
  obtain ⟨u, v⟩ := q
  obtain ⟨i, j⟩ := x
  show Calls Try.prog 64 #[.agg #[.int .i64 (a : Nat), .int .i64 (c : Nat), .int .i64 (u : Nat), .int .i64 (v : Nat), .int .i64 k], .agg #[.int .i64 (i : Nat), .int .i64 (j : Nat)]] w _
  obtain ⟨wb, hwb⟩ : ∃ wb, (w.alloc (.cells #[.int .i64 (a : Nat), .int .i64 (c : Nat), .int .i64 (u : Nat), .int .i64 (v : Nat), .int .i64 k] 26)).alloc (.cells #[.int .i64 (i : Nat), .int .i64 (j : Nat)] 24) = wb := ⟨_, rfl⟩
  have hnew := two_new w #[.int .i64 (a : Nat), .int .i64 (c : Nat), .int .i64 (u : Nat), .int .i64 (v : Nat), .int .i64 k] #[.int .i64 (i : Nat), .int .i64 (j : Nat)] 26 24
  rw [hwb] at hnew
  have hsz : wb.heap.size = w.heap.size + 2 := by rw [← hwb]; simp
  have hB : Below w.heap.size w wb := by rw [← hwb]; exact ((Below.refl _ _).alloc (Nat.le_refl _) _).alloc (by simp) _
  rw [← hsz] at hnew
  have HE : Hid (∀ W, W = wb → Calls Try.prog 43 #[.agg #[.int .i64 (a : Nat), .int .i64 (c : Nat), .int .i64 (u : Nat), .int .i64 (v : Nat), .int .i64 k]] W fun e w' => e = .returned (.tuple #[.agg #[.int .i64 (A1 : Nat), .int .i64 (A2 : Nat)], .agg #[.int .i64 (B1 : Nat), .int .i64 (B2 : Nat)]]) ∧
      Hid (HaB w.heap.size w'.heap.size k (i, j) (A1, A2) (B1, B2) ((w'.alloc (.cells #[.int .i64 (A1 : Nat), .int .i64 (A2 : Nat)] 24)).alloc (.cells #[.int .i64 (B1 : Nat), .int .i64 (B2 : Nat)] 24)) ∧
        Below w.heap.size w ((w'.alloc (.cells #[.int .i64 (A1 : Nat), .int .i64 (A2 : Nat)] 24)).alloc (.cells #[.int .i64 (B1 : Nat), .int .i64 (B2 : Nat)] 24)))) := by
    rintro W rfl
    refine (hend W).mono ?_
    rintro e w' ⟨rfl, hb⟩
    obtain ⟨g1, g2⟩ := hnew w' hb
    have := hb.size
    exact ⟨rfl, hab_new (cell_row g1 4) (cell_row g2 0) (cell_row g2 1) (by omega) (hB.trans (hb.mono (by omega))) (by omega)⟩
  have hx := hnew wb (Below.refl _ _)
  have f0 := cell_row hx.1 0
  have f1 := cell_row hx.1 1
  have f2 := cell_row hx.1 2
  have f3 := cell_row hx.1 3
  have f4 := cell_row hx.1 4
  have fl := heap_lt hx.1
  have HW := Lib.hid hwb
  clear hwb hB hnew hsz hend hx
  obtain ⟨b, hbe⟩ : ∃ b, w.heap.size = b := ⟨_, rfl⟩
  have HBE := Lib.hid hbe
  rw [hbe] at HE f0 f1 f2 f3 f4 fl
  rw [hbe]
  clear hbe
  go_enter Try.func64, Try.ntmps64
  go_upto_region 1 with fail
  rw [HBE.out, HW.out]
  go_upto_region 2 with (go_at_call 43; (refine (HE.out _ rfl).mono ?_); rintro e w2 ⟨rfl, HST⟩)
  clear f0 f1 f2 f3 f4 fl
  obtain ⟨w3, hw3⟩ : ∃ w3, ((w2.alloc (.cells #[.int .i64 (A1 : Nat), .int .i64 (A2 : Nat)] 24)).alloc (.cells #[.int .i64 (B1 : Nat), .int .i64 (B2 : Nat)] 24)) = w3 := ⟨_, rfl⟩
  obtain ⟨d, hd⟩ : ∃ d, w2.heap.size = d := ⟨_, rfl⟩
  rw [hw3] at HST
  rw [hw3]
  rw [hd] at HST
  rw [hd]
  have hab := HST.out.1
  have HB3 := Lib.hid HST.out.2
  have hs3 := HST.out.2.size
  clear HST hw3 hd HE HW
  have HA : Hid (∀ W, W = w3 → Calls Try.prog 33 #[.agg #[.int .i64 (i : Nat), .int .i64 (j : Nat)], .agg #[.int .i64 (A1 : Nat), .int .i64 (A2 : Nat)]] W fun e w' => e = .returned (.bool (aheadP (i, j) (A1, A2))) ∧ HaB b d k (i, j) (A1, A2) (B1, B2) w' ∧ Hid (Below b w w')) := by
    rintro W rfl
    refine (rahead_any (i, j) (A1, A2) W).mono ?_
    rintro e w' ⟨rfl, hb⟩
    exact ⟨rfl, hab.below hb, HB3.out.trans (hb.mono (by have := HBE.out; omega))⟩
  have HC : Hid (∀ W, Hid (Below b w W) → Calls Try.prog 33 #[.agg #[.int .i64 (B1 : Nat), .int .i64 (B2 : Nat)], .agg #[.int .i64 (i : Nat), .int .i64 (j : Nat)]] W fun e w' => e = .returned (.bool (aheadP (B1, B2) (i, j))) ∧ Hid (Below b w w')) := by
    intro W hW
    refine (rahead_any (B1, B2) (i, j) W).mono ?_
    rintro e w' ⟨rfl, hb⟩
    have := HBE.out
    exact ⟨rfl, hW.out.trans (hb.mono (by have := hW.out.size; omega))⟩
  obtain ⟨c4, x0, x1, a0, a1, b0, b1, l0, l1, l2, l3⟩ := hab
  simp only at x0 x1 a0 a1 b0 b1 hR
  have HRR := Lib.hid hR
  clear hR
  by_cases hk0 : k = 0
  · subst hk0
    have hR := HRR.out
    rw [if_pos rfl] at hR
    obtain ⟨X, hX⟩ : ∃ X, aheadP (i, j) (A1, A2) = X := ⟨_, rfl⟩
    obtain ⟨Y, hY⟩ : ∃ Y, aheadP (B1, B2) (i, j) = Y := ⟨_, rfl⟩
    rw [hX] at HA hR
    rw [hY] at HC hR
    have HRE := Lib.hid hR
    clear hX hY hR
    cases X
    · go_wp2_with (first
        | (go_at_call 33; (refine (HC.out _ HB4).mono ?_); rintro e w5 ⟨rfl, HB5⟩)
        | (go_at_call 33; (refine (HA.out _ rfl).mono ?_); rintro e w4 ⟨rfl, ⟨c4', x0', x1', a0', a1', b0', b1', l0', l1', l2', l3'⟩, HB4⟩; (simp only at x0' x1' a0' a1' b0' b1')))
      go_ret
      exact ⟨ret_boolG (by rw [← HRE.out]; cases Y <;> rfl), HB5.out⟩
    · go_wp2_with (go_at_call 33; (refine (HA.out _ rfl).mono ?_); rintro e w4 ⟨rfl, ⟨c4', x0', x1', a0', a1', b0', b1', l0', l1', l2', l3'⟩, HB4⟩; (simp only at x0' x1' a0' a1' b0' b1'))
      go_ret
      exact ⟨ret_boolG (by rw [← HRE.out]; rfl), HB4.out⟩
  · have hk0' : (k == 0) = false := by simpa using hk0
    by_cases hk1 : k = 1
    · subst hk1
      by_cases h1 : A1 ≤ i <;> by_cases h2 : i ≤ B1 <;>
      (go_wp2; go_ret; exact ⟨ret_boolG (by rw [← HRR.out]; simp [h1, h2]), HB3.out⟩)
    · have hk1' : (k == 1) = false := by simpa using hk1
      obtain ⟨mn, hmn⟩ : ∃ mn, min A2 B2 = mn := ⟨_, rfl⟩
      obtain ⟨mx, hmx⟩ : ∃ mx, max A2 B2 = mx := ⟨_, rfl⟩
      have e1 : min (A2 : Int) (B2 : Int) = (mn : Int) := by omega
      have e2 : max (A2 : Int) (B2 : Int) = (mx : Int) := by omega
      have HMM := Lib.hid (And.intro hmn hmx)
      clear hmn hmx
      by_cases h1 : A1 ≤ i
      · by_cases h2 : i ≤ B1
        · by_cases h3 : mn ≤ j
          · by_cases h4 : j ≤ mx <;>
            (go_wp2; go_ret; exact ⟨ret_boolG (by rw [← HRR.out, if_neg hk0, if_neg hk1, HMM.out.1, HMM.out.2]; simp [h1, h2, h3, h4]), HB3.out⟩)
          · go_wp2; go_ret; exact ⟨ret_boolG (by rw [← HRR.out, if_neg hk0, if_neg hk1, HMM.out.1, HMM.out.2]; simp [h1, h2, h3]), HB3.out⟩
        · go_wp2; go_ret; exact ⟨ret_boolG (by rw [← HRR.out, if_neg hk0, if_neg hk1, HMM.out.1, HMM.out.2]; simp [h1, h2]), HB3.out⟩
      · go_wp2; go_ret; exact ⟨ret_boolG (by rw [← HRR.out, if_neg hk0, if_neg hk1, HMM.out.1, HMM.out.2]; simp [h1]), HB3.out⟩
theorem rhas_any (p q x : Pl) (k : Int) (w : World) :
    Calls Try.prog 64 #[rgnV p q k, plV x] w fun e w' => e = .returned (.bool (regHas k p q x)) ∧ Below w.heap.size w w' := rhasR_any p q x k _ w rfl
end Go.Proofs.Ytfldjoiohejilaa.U
