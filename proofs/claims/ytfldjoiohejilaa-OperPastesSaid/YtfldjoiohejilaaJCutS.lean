/-
  The document's Cut, in the middle of its loop.
-/
import Derived.Test.YtfldjoiohejilaaJOut
namespace Go.Proofs.Ytfldjoiohejilaa.U
open Go.RowKit
set_option linter.unusedVariables false
set_option linter.unusedSimpArgs false
set_option maxRecDepth 100000

structure CuS (w : World) (b d : Nat) (L : List (List Int)) (p q : Pl) (k : Int) (j : Nat) (ra : Option Addr) (m rc : Nat) (oa : Option Addr) (N oc : Nat) (W : World) : Prop where
  rg : W.heap[b]? = some (.cells #[.int .i64 (p.1 : Nat), .int .i64 (p.2 : Nat), .int .i64 (q.1 : Nat), .int .i64 (q.2 : Nat), .int .i64 k] 26 (0, 0))
  z : W.heap[b + 1]? = some (.cells #[.int .i64 0, .int .i64 0] 24 (0, 0))
  eA : W.heap[d]? = some (.cells #[.int .i64 ((endsR p q).1.1 : Nat), .int .i64 ((endsR p q).1.2 : Nat)] 24 (0, 0))
  eB : W.heap[d + 1]? = some (.cells #[.int .i64 ((endsR p q).2.1 : Nat), .int .i64 ((endsR p q).2.2 : Nat)] 24 (0, 0))
  out : MyD (d + 2) (Value.slice oa N oc).ownBlock W ra m rc (L.take (endsR p q).1.1 ++ if k = 2 then outsL L k p q (endsR p q).1.1 j else [])
  one : W.ownsRow (d + 2) 21 1 (.slice oa N oc) N (ints (outsL L k p q (endsR p q).1.1 j).flatten)
  hb : Below b w W
  l : d + 2 ≤ W.heap.size
  bd : b + 1 < d
theorem CuS.below {w : World} {b d : Nat} {L : List (List Int)} {p q : Pl} {k : Int} {j : Nat} {ra : Option Addr} {m rc : Nat} {oa : Option Addr} {N oc : Nat} {W W' : World} (h : CuS w b d L p q k j ra m rc oa N oc W) (hb : Below W.heap.size W W') : CuS w b d L p q k j ra m rc oa N oc W' := by
  have := h.l
  have := h.bd
  have := hb.size
  exact ⟨(hb.block _ (by omega)).trans h.rg, (hb.block _ (by omega)).trans h.z, (hb.block _ (by omega)).trans h.eA, (hb.block _ (by omega)).trans h.eB, h.out.below hb, own_fr h.one (Fr.of_below (fun _ => False) hb) (fun _ _ h => h), h.hb.trans (hb.mono (by omega)), by omega, h.bd⟩
theorem lens_drop (L : List (List Int)) (i : Nat) : lens (L.drop i) = (lens L).drop i := by simp [lens, List.map_drop]
theorem flat_snoc (L : List (List Int)) (x : List Int) : (L ++ [x]).flatten = L.flatten ++ x := by simp
/-- the row grows alone -/
theorem CuS.step0 {w : World} {b d : Nat} {L : List (List Int)} {p q : Pl} {k : Int} {j : Nat} {ra : Option Addr} {m rc : Nat} {oa : Option Addr} {N oc : Nat} {W w5 : World} (h : CuS w b d L p q k j ra m rc oa N oc W) (hk : k ≠ 2) (hb5 : Below W.heap.size W w5) {a2 : Option Addr} {m2 c2 : Nat} {x : List Int} (hx : x = outL L k p q ((endsR p q).1.1 + j)) (hr : Rd .i32 w5 a2 m2 c2 x) (hN : N + m2 ≤ 17592186044416) :
    ∃ a4 c4 w7, (∀ ty, (Builtin.append_ #[35, 35] ty #[.slice oa N oc, .slice a2 m2 c2]).run Try.prog w5 = .ok (.slice a4 (N + m2) c4) w7) ∧ CuS w b d L p q k (j + 1) ra m rc a4 (N + m2) c4 w7 := by
  obtain ⟨t1, t2, t3, t4, t5, t6, t7, t8, t9⟩ := h.below hb5
  obtain ⟨a4, c4, w7, hrun, h1, h2, h3⟩ := myd_more w5 (d + 2) ra m rc _ oa N oc _ t5 t6 a2 m2 c2 x hr t8 hN
  have hs := h3.size
  refine ⟨a4, c4, w7, hrun, (h3.block _ (by omega)).trans t1, (h3.block _ (by omega)).trans t2, (h3.block _ (by omega)).trans t3, (h3.block _ (by omega)).trans t4, ?_, ?_, t7.trans (h3.mono (by omega)), by omega, t9⟩
  · rw [if_neg hk] at h1 ⊢
    exact h1
  · rw [outsL_succ, flat_snoc, ← hx]
    exact h2
/-- the rows grow, and the row -/
theorem CuS.step2 {w : World} {b d : Nat} {L : List (List Int)} {p q : Pl} {k : Int} {j : Nat} {ra : Option Addr} {m rc : Nat} {oa : Option Addr} {N oc : Nat} {W w5 : World} (h : CuS w b d L p q k j ra m rc oa N oc W) (hk : k = 2) (hb5 : Below W.heap.size W w5) {a2 : Option Addr} {m2 c2 : Nat} {x : List Int} (hx : x = outL L k p q ((endsR p q).1.1 + j)) (hm2 : x.length = m2) (ho : w5.ownsRow W.heap.size 21 1 (.slice a2 m2 c2) m2 (ints x)) (hwf : ∀ y ∈ x, (Lit.int .i32 y).wf = true) (hm : m ≤ 1099511627775) (hN : N + m2 ≤ 17592186044416) :
    ∃ a3 c3 w6 a4 c4 w7, (∀ ty, (Builtin.append_ #[22, 22] ty #[.slice ra m rc, .slice (some ⟨w5.heap.size, 0, none⟩) 1 1]).run Try.prog (w5.alloc (.cells #[.slice a2 m2 c2] 35)) = .ok (.slice a3 (m + 1) c3) w6) ∧
      (∀ ty, (Builtin.append_ #[35, 35] ty #[.slice oa N oc, .slice a2 m2 c2]).run Try.prog w6 = .ok (.slice a4 (N + m2) c4) w7) ∧ CuS w b d L p q k (j + 1) a3 (m + 1) c3 a4 (N + m2) c4 w7 := by
  have hone := h.one
  have hlW := h.l
  obtain ⟨t1, t2, t3, t4, t5, t6, t7, t8, t9⟩ := h.below hb5
  subst hm2
  have hsz5 := hb5.size
  have hD : ∀ g, (Value.slice a2 x.length c2).ownBlock = some g → (Value.slice oa N oc).ownBlock ≠ some g := fun g e e' => by
    have := (ho.lt g e).1
    have := (hone.lt g e').2
    omega
  have hal : Below w5.heap.size w5 (w5.alloc (.cells #[.slice a2 x.length c2] 35)) := (Below.refl _ _).alloc (Nat.le_refl _) _
  obtain ⟨a3, c3, w6, hrun, h1, h2, far⟩ := myd_app (w5.alloc (.cells #[.slice a2 x.length c2] 35)) (d + 2) _ ra m rc _ (some ⟨w5.heap.size, 0, none⟩) 1 1 [x] (t5.below hal) (myd_one t8 (own_mono ho hlW) hD) (by have := hal.size; omega) (by omega)
  obtain ⟨a4, c4, w7, hrun2, h3, h4, h5⟩ := myd_more w6 (d + 2) a3 (m + 1) c3 _ oa N oc _ h1 (far (t6.alloc _)) a2 x.length c2 x (own_rd (far (ho.alloc _)) hwf) (by have := h2.size; have := hal.size; omega) hN
  have hb57 : Below (d + 2) w5 w7 := ((hal.mono t8).trans h2).trans h5
  have hs := hb57.size
  refine ⟨a3, c3, w6, a4, c4, w7, hrun, hrun2, (hb57.block _ (by omega)).trans t1, (hb57.block _ (by omega)).trans t2, (hb57.block _ (by omega)).trans t3, (hb57.block _ (by omega)).trans t4, ?_, ?_, t7.trans (hb57.mono (by omega)), by omega, t9⟩
  · rw [if_pos hk] at h3 ⊢
    rw [outsL_succ, ← hx, ← List.append_assoc]
    exact h3
  · rw [outsL_succ, flat_snoc, ← hx]
    exact h4
theorem outL_wf {F : Nat → Prop} {w : World} {a : Option Addr} {n c : Nat} {L : List (List Int)} (h : RdL F w a n c L) (k : Int) (p q : Pl) (i : Nat) : ∀ y ∈ outL L k p q i, (Lit.int .i32 y).wf = true := by
  unfold outL partOut
  refine wf_part ?_ _
  intro y hy
  unfold lnL at hy
  rw [List.getD_eq_getElem?_getD] at hy
  cases e : L[i]? with
  | none => rw [e] at hy; simp at hy
  | some x => rw [e] at hy; exact lines_wf (rdl_wf h) x (List.mem_of_getElem? e) y hy
theorem outs_flat_le (L : List (List Int)) (k : Int) (p q : Pl) (a : Nat) : ∀ m, (outsL L k p q a m).flatten.length ≤ m * sizeN (lens L)
  | 0 => by simp [outsL]
  | m + 1 => by
    rw [outsL_succ, flat_snoc, List.length_append, Nat.add_mul, Nat.one_mul]
    have h1 := outs_flat_le L k p q a m
    have h2 : (outL L k p q (a + m)).length ≤ sizeN (lens L) := by
      unfold outL
      refine Nat.le_trans (partOut_len _ _ _ _ _ _) ?_
      unfold lnL
      rw [List.getD_eq_getElem?_getD]
      cases e : L[a + m]? with
      | none => simp
      | some x => exact sizeN_mem (List.mem_map.2 ⟨_, List.mem_of_getElem? e, rfl⟩)
    omega
theorem results_tct {fn : Func} {p q r : Tmp} {ty : TypeId} (h : fn.results = #[.tmp p, .cell q ty, .tmp r]) (tmps : Array Value) (P : Program) (w : World) :
    (results fn tmps).run P w = ((asAddr (tmps.getD q undef)).run P w).andThen fun a w₁ => ((loadVar ty a).run P w₁).andThen fun v w₂ => .ok (.tuple #[tmps.getD p undef, v, tmps.getD r undef]) w₂ := by
  simp only [results, h]
  simp [Sem.run_bind, Result.andThen]
set_option maxHeartbeats 1000000 in
/-- Cut of a region that is not there -/
theorem rcut_no (F : Nat → Prop) (a : Option Addr) (n c : Nat) (L : List (List Int)) (r : Rgn) (w : World) (h : RdL F w a n c L) (hr : i64r r) (hR : thereR L r ≠ 0) :
    Calls Try.prog 19 #[.slice a n c, r.v] w fun e w' => e = .returned (.tuple #[.slice none 0 0, plV (0, 0), .int .i64 (thereR L r)]) ∧ Below w.heap.size w w' := by
  obtain ⟨⟨f1, f2⟩, ⟨t1, t2⟩, k⟩ := r
  show Calls Try.prog 19 #[.slice a n c, .agg #[.int .i64 f1, .int .i64 f2, .int .i64 t1, .int .i64 t2, .int .i64 k]] w _
  obtain ⟨wb, hwb⟩ : ∃ wb, (w.alloc (.cells #[.int .i64 f1, .int .i64 f2, .int .i64 t1, .int .i64 t2, .int .i64 k] 26)).alloc (.cells #[.int .i64 0, .int .i64 0] 24) = wb := ⟨_, rfl⟩
  have hnew := two_new w #[.int .i64 f1, .int .i64 f2, .int .i64 t1, .int .i64 t2, .int .i64 k] #[.int .i64 0, .int .i64 0] 26 24
  rw [hwb] at hnew
  have hsz : wb.heap.size = w.heap.size + 2 := by rw [← hwb]; simp
  have hB : Below w.heap.size w wb := by rw [← hwb]; exact ((Below.refl _ _).alloc (Nat.le_refl _) _).alloc (by simp) _
  rw [← hsz] at hnew
  obtain ⟨E, hE⟩ : ∃ E, thereR L ⟨⟨f1, f2⟩, ⟨t1, t2⟩, k⟩ = E := ⟨_, rfl⟩
  have HC : Hid (∀ W, W = wb → Calls Try.prog 42 #[.slice a n c, .agg #[.int .i64 f1, .int .i64 f2, .int .i64 t1, .int .i64 t2, .int .i64 k]] W fun e w' => e = .returned (.int .i64 E) ∧ (w'.cell? ⟨w.heap.size + 1, 0, none⟩ = some (.int .i64 0) ∧ w'.cell? ⟨w.heap.size + 1, 1, none⟩ = some (.int .i64 0) ∧ w'.frozen? ⟨w.heap.size + 1, 0, none⟩ = false ∧ w'.frozen? ⟨w.heap.size + 1, 1, none⟩ = false ∧ w.heap.size + 1 < w'.heap.size) ∧ Hid (Below w.heap.size w w')) := by
    rintro W rfl
    refine (rthereR_any F a n c L ⟨⟨f1, f2⟩, ⟨t1, t2⟩, k⟩ E W (h.below hB) hr hE).mono ?_
    rintro e w' ⟨rfl, hb⟩
    obtain ⟨g1, g2⟩ := hnew w' hb
    exact ⟨rfl, ⟨cell_row g2 0, cell_row g2 1, frozen_row g2 0, frozen_row g2 1, heap_lt g2⟩, hB.trans (hb.mono (by omega))⟩
  obtain ⟨g1, g2⟩ := hnew wb (Below.refl _ _)
  have f0' := cell_row g1 0
  have f1' := cell_row g1 1
  have f2' := cell_row g1 2
  have f3' := cell_row g1 3
  have f4' := cell_row g1 4
  have fl := heap_lt g1
  rw [hE] at hR ⊢
  have hE0 : (E != 0) = true := by simpa using hR
  have HW := Lib.hid hwb
  obtain ⟨b, hbe⟩ : ∃ b, w.heap.size = b := ⟨_, rfl⟩
  have HBE := Lib.hid hbe
  rw [hbe] at HC f0' f1' f2' f3' f4' fl
  rw [hbe]
  clear hwb hnew hsz hB h g1 g2 hE hbe hr
  go_enter Try.func19, Try.ntmps19
  go_upto_region 1 with fail
  rw [HBE.out, HW.out]
  go_wp2_with (go_at_call 42; (refine (HC.out _ rfl).mono ?_); rintro e w1 ⟨rfl, ⟨u0, u1, u2, u3, u4⟩, HB1⟩)
  refine bodyPost_ret (v := .tuple #[.slice none 0 0, plV (0, 0), .int .i64 E]) ?_ rfl ⟨rfl, ?_⟩
  · rw [results_tct rfl]
    go_simp
    first | rfl | done
  · (repeat' (first | exact HB1.out | omega | refine setCell_below ?_ _ _ _ ?_))
end Go.Proofs.Ytfldjoiohejilaa.U
