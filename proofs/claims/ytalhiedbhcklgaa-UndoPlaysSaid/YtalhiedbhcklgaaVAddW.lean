/-
  The contract of Add.
-/
import Derived.Test.YtalhiedbhcklgaaVAdd
namespace Go.Proofs.Ytalhiedbhcklgaa.U
open Go.RowKit
set_option linter.unusedVariables false
set_option linter.unusedSimpArgs false
set_option maxRecDepth 100000

theorem add_nil (v : Int) (oa na : Option Addr) (on oc nn nc : Nat) (w : World) : Calls Try.prog 21 #[.pointer none, .agg #[.int .i64 v, .slice oa on oc, .slice na nn nc]] w fun e w' => e = .returned (.tuple #[]) ∧ Below w.heap.size w w' := by
  go_enter_defers Try.func21, Try.ntmps21
  go_wp2_with fail
  exact ⟨_, results_none rfl _ _ _, rfl, (Below.refl _ _).alloc (Nat.le_refl _) _⟩

theorem TreeA.comp {P : Nat → Prop} {w w1 w2 : World} {bt : Nat} {t t2 : Tr} (h1 : TreeA P w bt t w1) (h2 : ∀ (P' F' : Nat → Prop), TreeC P' F' w1 bt t → TreeA P' w1 bt t2 w2) : TreeA P w bt t2 w2 := by
  obtain ⟨P', F', a1, a2, a3⟩ := h1
  obtain ⟨P2, F2, b1, b2, b3⟩ := h2 P' F' a1
  have hs := a2.size
  exact ⟨P2, F2, b1, a2.trans b2 (fun k hk hp => by rcases a3 k hp with q | q; exact q; omega), fun k hk => by rcases b3 k hk with q | q; exact a3 k q; exact .inr (by omega)⟩

/-- the call of copied in Add, with all that the walk wants behind it -/
theorem addC {P F G : Nat → Prop} {wb : World} {bt bx : Nat} {t : Tr} {ga : Option Addr} {gc : Nat} (hb : TreeC P F wb bt t) (oa na : Option Addr) (oc nc : Nat) (c : Ch) (ho : RdL G wb oa c.old.length oc c.old) (hn : RdL G wb na c.now.length nc c.now) (hok : OkC c) (hlim : t.group.length < 1048576)
    (g1 : wb.heap[bx]? = some (.cells #[.int .i64 c.pos, .slice oa c.old.length oc, .slice na c.now.length nc] 24 (0, 0))) (hPb : ¬ P bx) (c3 : wb.cell? ⟨bt, 3, none⟩ = some (.slice ga t.group.length gc)) :
    Calls Try.prog 44 #[.agg #[.int .i64 c.pos, .slice oa c.old.length oc, .slice na c.now.length nc]] wb.drew fun e w1 => ∃ pa pc qa qc, e = .returned (.agg #[.int .i64 c.pos, .slice pa c.old.length pc, .slice qa c.now.length qc]) ∧
      (w1.cell? ⟨bt, 3, none⟩ = some (.slice ga t.group.length gc) ∧ w1.cell? ⟨bx, 0, none⟩ = some (.int .i64 c.pos) ∧ w1.cell? ⟨bx, 1, none⟩ = some (.slice oa c.old.length oc) ∧ w1.cell? ⟨bx, 2, none⟩ = some (.slice na c.now.length nc)) ∧ bt < w1.heap.size ∧ bx < w1.heap.size ∧
      ∃ a' c' w2, Hid (∀ ty, (Builtin.append_ #[41, 41] ty #[.slice ga t.group.length gc, .slice (some ⟨w1.heap.size, 0, none⟩) 1 1]).run Try.prog (w1.alloc (.cells #[.int .i64 c.pos, .slice pa c.old.length pc, .slice qa c.now.length qc] 24)) = .ok (.slice a' (t.group.length + 1) c') w2) ∧
        (w2.cell? ⟨bt, 3, none⟩ = some (.slice ga t.group.length gc) ∧ w2.cell? ⟨bx, 0, none⟩ = some (.int .i64 c.pos) ∧ w2.cell? ⟨bx, 1, none⟩ = some (.slice oa c.old.length oc) ∧ w2.cell? ⟨bx, 2, none⟩ = some (.slice na c.now.length nc)) ∧ w2.frozen? ⟨bt, 3, none⟩ = false ∧ bt < w2.heap.size ∧ Hid (TreeA P wb bt { t with group := t.group ++ [c] } (w2.setCell ⟨bt, 3, none⟩ (.slice a' (t.group.length + 1) c'))) := by
  refine (copied_any G oa na oc nc c wb.drew (ho.below (Below.refl _ _).drew) (hn.below (Below.refl _ _).drew) hok).mono ?_
  intro e w1 hp
  have hbd := hb.below (Below.refl _ wb).drew
  obtain ⟨pa, pc, qa, qc, ga', gc', rfl, d3, d3w, l1, hb1, a', c', w2, hrun, e3, z3, l2, hkeep, hA⟩ := add_mem hbd hok hlim hp
  have d3w' : wb.cell? ⟨bt, 3, none⟩ = some (.slice ga' t.group.length gc') := d3w
  rw [c3] at d3w'
  injection d3w' with q
  injection q with q1 q2 q3
  subst q1 q3
  have l0 := heap_lt g1
  have k1 : w1.heap[bx]? = _ := (hb1.block bx l0).trans g1
  have k2 : w2.heap[bx]? = _ := (hkeep bx l0 hPb).trans g1
  exact ⟨pa, pc, qa, qc, rfl, ⟨d3, cell_row k1 0, cell_row k1 1, cell_row k1 2⟩, l1, heap_lt k1, a', c', w2, hrun, ⟨e3, cell_row k2 0, cell_row k2 1, cell_row k2 2⟩, z3, l2, hA.from_ (Below.refl _ wb).drew⟩

theorem add_case {c : Ch} (hne : ¬ (c.old = [] ∧ c.now = [])) : (c.old.length ≠ 0) ∨ (c.old.length = 0 ∧ c.now.length ≠ 0) := by
  by_cases h1 : c.old.length = 0
  · right
    refine ⟨h1, fun h2 => hne ⟨List.eq_nil_of_length_eq_zero h1, List.eq_nil_of_length_eq_zero h2⟩⟩
  · exact .inl h1

set_option maxHeartbeats 4000000 in
theorem add_open {P F G : Nat → Prop} {w : World} {bt : Nat} {t : Tr} (h : TreeC P F w bt t) (oa na : Option Addr) (oc nc : Nat) (c : Ch) (ho : RdL G w oa c.old.length oc c.old) (hn : RdL G w na c.now.length nc c.now) (hok : OkC c) (hlim : t.group.length < 1048576) (hne : ¬ (c.old = [] ∧ c.now = [])) (hop : t.isOpen = true) :
    Calls Try.prog 21 #[.pointer (some ⟨bt, 0, none⟩), .agg #[.int .i64 c.pos, .slice oa c.old.length oc, .slice na c.now.length nc]] w fun e w' => e = .returned (.tuple #[]) ∧ TreeA P w bt (t.add c) w' := by
  have hadd : t.add c = { t with group := t.group ++ [c] } := by unfold Tr.add; rw [if_neg hne, if_pos hop]
  obtain ⟨wb, hwb⟩ : ∃ wb, w.alloc (.cells #[.int .i64 c.pos, .slice oa c.old.length oc, .slice na c.now.length nc] 24) = wb := ⟨_, rfl⟩
  have hB : Below w.heap.size w wb := by rw [← hwb]; exact (Below.refl _ _).alloc (Nat.le_refl _) _
  have g1 : wb.heap[w.heap.size]? = some (.cells #[.int .i64 c.pos, .slice oa c.old.length oc, .slice na c.now.length nc] 24 (0, 0)) := by rw [← hwb]; exact heap_alloc_new w _
  have hPb : ¬ P w.heap.size := fun hk => by have := h.lt _ hk; omega
  have hb := h.below hB
  obtain ⟨nd, ndc, ga, gc, _, _, c2, c3, _, _, _, z3, hl⟩ := hb.cells
  have l0 := heap_lt g1
  have HC := Lib.hid (addC hb oa na oc nc c (ho.below hB) (hn.below hB) hok hlim g1 hPb c3)
  have HUP : Hid (∀ W, TreeA P wb bt { t with group := t.group ++ [c] } W → TreeA P w bt (t.add c) W) := by
    intro W hW
    rw [hadd]
    exact hW.from_ hB
  have b0 : wb.cell? ⟨w.heap.size, 0, none⟩ = some (.int .i64 c.pos) := cell_row g1 0
  have b1 : wb.cell? ⟨w.heap.size, 1, none⟩ = some (.slice oa c.old.length oc) := cell_row g1 1
  have b2 : wb.cell? ⟨w.heap.size, 2, none⟩ = some (.slice na c.now.length nc) := cell_row g1 2
  have hcase := add_case hne
  have HW := Lib.hid hwb
  obtain ⟨T, hT⟩ : ∃ T, t.add c = T := ⟨_, rfl⟩
  rw [hT] at HUP ⊢
  obtain ⟨n, hnn⟩ : ∃ n, t.group.length = n := ⟨_, rfl⟩
  rw [hnn] at HC c3 hlim
  obtain ⟨x, hx⟩ : ∃ x, c.old.length = x := ⟨_, rfl⟩
  obtain ⟨y, hy⟩ : ∃ y, c.now.length = y := ⟨_, rfl⟩
  obtain ⟨p, hpp⟩ : ∃ p, c.pos = p := ⟨_, rfl⟩
  rw [hx, hy, hpp] at HC HW
  rw [hx, hy] at hcase
  rw [hx] at b1
  rw [hy] at b2
  rw [hpp] at b0
  rw [hx, hy, hpp]
  clear h hb ho hn hok hne hadd hwb hB g1 hPb hT hnn hx hy hpp
  rw [hop] at c2
  go_enter_defers Try.func21, Try.ntmps21
  go_upto_region 1 with fail
  rw [HW.out]
  clear hop
  rcases hcase with h1 | ⟨h1, h2⟩
  · have t1 : ((x : Int) == 0) = false := by simp; omega
    clear h1
    go_wp2_with fail
    refine wp_region_noPanic ?_
    go_region_law (first
      | (refine step_append_run rfl (.tmp 30) (.tmp 33) _ _ rfl _ _ (by simp [Act.eval, Act.put]) (by simp [Act.eval, Act.put]) (HRUN.out _) ?_)
      | (go_simp; go_at_call 44; refine HC.out.mono ?_; rintro e w1 ⟨pa, pc, qa, qc, rfl, ⟨s1, s2, s3, s4⟩, l1, l1', a', c', w2, HRUN, ⟨s5, s6, s7, s8⟩, z2, l2, hA⟩))
    all_goals
      refine NoPanic.normal ?_
      exact ⟨_, results_none rfl _ _ _, rfl, HUP.out _ hA.out⟩
  · have t1 : ((x : Int) == 0) = true := by simp; omega
    have t2 : ((y : Int) == 0) = false := by simp; omega
    clear h1 h2
    go_wp2_with fail
    refine wp_region_noPanic ?_
    go_region_law (first
      | (refine step_append_run rfl (.tmp 30) (.tmp 33) _ _ rfl _ _ (by simp [Act.eval, Act.put]) (by simp [Act.eval, Act.put]) (HRUN.out _) ?_)
      | (go_simp; go_at_call 44; refine HC.out.mono ?_; rintro e w1 ⟨pa, pc, qa, qc, rfl, ⟨s1, s2, s3, s4⟩, l1, l1', a', c', w2, HRUN, ⟨s5, s6, s7, s8⟩, z2, l2, hA⟩))
    all_goals
      refine NoPanic.normal ?_
      exact ⟨_, results_none rfl _ _ _, rfl, HUP.out _ hA.out⟩

set_option maxHeartbeats 4000000 in
theorem add_shut {P F G : Nat → Prop} {w : World} {bt : Nat} {t : Tr} (h : TreeC P F w bt t) (oa na : Option Addr) (oc nc : Nat) (c : Ch) (ho : RdL G w oa c.old.length oc c.old) (hn : RdL G w na c.now.length nc c.now) (hG : ∀ k, G k → ¬ P k) (hok : OkC c) (hlim : t.group.length < 1048576) (hne : ¬ (c.old = [] ∧ c.now = [])) (hop : t.isOpen = false) :
    Calls Try.prog 21 #[.pointer (some ⟨bt, 0, none⟩), .agg #[.int .i64 c.pos, .slice oa c.old.length oc, .slice na c.now.length nc]] w fun e w' => e = .returned (.tuple #[]) ∧ TreeA P w bt (t.add c) w' := by
  have hadd : t.add c = Tr.end_ { t.begin_ with group := t.group ++ [c] } := by unfold Tr.add; rw [if_neg hne, if_neg (by rw [hop]; simp), Tr.end_begin]
  obtain ⟨wb, hwb⟩ : ∃ wb, w.alloc (.cells #[.int .i64 c.pos, .slice oa c.old.length oc, .slice na c.now.length nc] 24) = wb := ⟨_, rfl⟩
  have hB : Below w.heap.size w wb := by rw [← hwb]; exact (Below.refl _ _).alloc (Nat.le_refl _) _
  have g0 : wb.heap[w.heap.size]? = some (.cells #[.int .i64 c.pos, .slice oa c.old.length oc, .slice na c.now.length nc] 24 (0, 0)) := by rw [← hwb]; exact heap_alloc_new w _
  have hPb : ¬ P w.heap.size := fun hk => by have := h.lt _ hk; omega
  have hb0 := h.below hB
  obtain ⟨nd0, ndc0, ga0, gc0, _, _, cc2, _, _, _, _, _, hl0⟩ := hb0.cells
  have cb0 : wb.cell? ⟨w.heap.size, 0, none⟩ = some (.int .i64 c.pos) := cell_row g0 0
  have cb1 : wb.cell? ⟨w.heap.size, 1, none⟩ = some (.slice oa c.old.length oc) := cell_row g0 1
  have cb2 : wb.cell? ⟨w.heap.size, 2, none⟩ = some (.slice na c.now.length nc) := cell_row g0 2
  have lb0 := heap_lt g0
  rw [hop] at cc2
  obtain ⟨wg, hwg⟩ : ∃ wg, wb.setCell ⟨bt, 2, none⟩ (.bool true) = wg := ⟨_, rfl⟩
  have HBEG : Hid (Calls Try.prog 23 #[.pointer (some ⟨bt, 0, none⟩)] wb fun e w' => e = .returned (.tuple #[]) ∧ wg = w') := by
    refine (begin_any hb0).mono ?_
    rintro e w' ⟨rfl, rfl, _⟩
    exact ⟨rfl, hwg.symm⟩
  have hFg : Fr P wb wg := by rw [← hwg]; exact (Fr.refl P wb).setCell ⟨bt, 2, none⟩ _ (fun _ => h.inP)
  have hb : TreeC P F wg bt t.begin_ := by rw [← hwg]; exact hb0.setOpen true
  have g1 : wg.heap[w.heap.size]? = some (.cells #[.int .i64 c.pos, .slice oa c.old.length oc, .slice na c.now.length nc] 24 (0, 0)) := (hFg.block _ lb0 hPb).trans g0
  obtain ⟨nd, ndc, ga, gc, _, _, c2, c3, _, _, _, z3, hl⟩ := hb.cells
  have l0 := heap_lt g1
  have HC := Lib.hid (addC hb oa na oc nc c ((ho.below hB).frF hFg hG) ((hn.below hB).frF hFg hG) hok hlim g1 hPb c3)
  have HUP : Hid (∀ W, TreeA P wg bt { t.begin_ with group := t.group ++ [c] } W → CallsD Try.prog 25 #[.pointer (some ⟨bt, 0, none⟩)] .returning W fun e u' w' => u' = .returning ∧ (e = .returned (.tuple #[]) ∧ TreeA P w bt (t.add c) w')) := by
    intro W hW
    obtain ⟨P', F', q1, q2, q3⟩ := hW
    refine ((end_any q1).2 .returning).mono ?_
    rintro e u' w' ⟨rfl, rfl, hE⟩
    refine ⟨rfl, rfl, ?_⟩
    rw [hadd]
    have h1 : TreeA P wg bt { t.begin_ with group := t.group ++ [c] } W := ⟨P', F', q1, q2, q3⟩
    have h2 : TreeA P wb bt { t.begin_ with group := t.group ++ [c] } W := TreeA.trans hFg h1
    obtain ⟨P2, F2, e1, e2, e3⟩ := hE
    have s2 := q2.size
    refine TreeA.from_ (w0 := wb) ⟨P2, F2, e1, (hFg.trans q2 (fun _ _ h => h)).trans e2 (fun k hk hp => ?_), fun k hk => ?_⟩ hB
    · have := hFg.size
      rcases q3 k hp with q | q
      · exact q
      · omega
    · have := hFg.size
      rcases e3 k hk with q | q
      · rcases q3 k q with q | q
        · exact .inl q
        · exact .inr (by omega)
      · exact .inr (by omega)
  have b0 : wg.cell? ⟨w.heap.size, 0, none⟩ = some (.int .i64 c.pos) := cell_row g1 0
  have b1 : wg.cell? ⟨w.heap.size, 1, none⟩ = some (.slice oa c.old.length oc) := cell_row g1 1
  have b2 : wg.cell? ⟨w.heap.size, 2, none⟩ = some (.slice na c.now.length nc) := cell_row g1 2
  have hcase := add_case hne
  have HW := Lib.hid hwb
  obtain ⟨T, hT⟩ : ∃ T, t.add c = T := ⟨_, rfl⟩
  rw [hT] at HUP ⊢
  obtain ⟨n, hnn⟩ : ∃ n, t.group.length = n := ⟨_, rfl⟩
  have hnb : t.begin_.group.length = n := hnn
  rw [hnb] at HC c3
  rw [hnn] at hlim
  obtain ⟨x, hx⟩ : ∃ x, c.old.length = x := ⟨_, rfl⟩
  obtain ⟨y, hy⟩ : ∃ y, c.now.length = y := ⟨_, rfl⟩
  obtain ⟨p, hpp⟩ : ∃ p, c.pos = p := ⟨_, rfl⟩
  rw [hx, hy, hpp] at HC HW
  rw [hx, hy] at hcase
  rw [hx] at b1 cb1
  rw [hy] at b2 cb2
  rw [hpp] at b0 cb0
  rw [hx, hy, hpp]
  clear hop hb0 g0 hwg hFg hG h hb ho hn hok hne hadd hwb hB g1 hPb hT hnn hnb hx hy hpp
  have c3' : wg.cell? ⟨bt, 3, none⟩ = some (.slice ga n gc) := c3
  clear c3
  go_enter_defers Try.func21, Try.ntmps21
  go_upto_region 1 with fail
  rw [HW.out]
  rcases hcase with h1 | ⟨h1, h2⟩
  · have t1 : ((x : Int) == 0) = false := by simp; omega
    clear h1
    go_wp2_with (go_at_call 23; refine HBEG.out.mono ?_; rintro e w' ⟨rfl, rfl⟩)
    refine wp_region_noPanic ?_
    go_region_law (first
      | (refine step_append_run rfl (.tmp 30) (.tmp 33) _ _ rfl _ _ (by simp [Act.eval, Act.put]) (by simp [Act.eval, Act.put]) (HRUN.out _) ?_)
      | (go_simp; go_at_call 44; refine HC.out.mono ?_; rintro e w1 ⟨pa, pc, qa, qc, rfl, ⟨s1, s2, s3, s4⟩, l1, l1', a', c', w2, HRUN, ⟨s5, s6, s7, s8⟩, z2, l2, hA⟩))
    all_goals
      refine NoPanic.normal ?_
      refine leaves_cons (f := 25) (args := #[.pointer (some ⟨bt, 0, none⟩)]) (by simp) (by simp [go_sem]) ?_
      refine (HUP.out _ hA.out).mono ?_
      rintro e u' w'' ⟨rfl, rfl, hfin⟩
      exact ⟨_, results_none rfl _ _ _, rfl, hfin⟩
  · have t1 : ((x : Int) == 0) = true := by simp; omega
    have t2 : ((y : Int) == 0) = false := by simp; omega
    clear h1 h2
    go_wp2_with (go_at_call 23; refine HBEG.out.mono ?_; rintro e w' ⟨rfl, rfl⟩)
    refine wp_region_noPanic ?_
    go_region_law (first
      | (refine step_append_run rfl (.tmp 30) (.tmp 33) _ _ rfl _ _ (by simp [Act.eval, Act.put]) (by simp [Act.eval, Act.put]) (HRUN.out _) ?_)
      | (go_simp; go_at_call 44; refine HC.out.mono ?_; rintro e w1 ⟨pa, pc, qa, qc, rfl, ⟨s1, s2, s3, s4⟩, l1, l1', a', c', w2, HRUN, ⟨s5, s6, s7, s8⟩, z2, l2, hA⟩))
    all_goals
      refine NoPanic.normal ?_
      refine leaves_cons (f := 25) (args := #[.pointer (some ⟨bt, 0, none⟩)]) (by simp) (by simp [go_sem]) ?_
      refine (HUP.out _ hA.out).mono ?_
      rintro e u' w'' ⟨rfl, rfl, hfin⟩
      exact ⟨_, results_none rfl _ _ _, rfl, hfin⟩

theorem add_any {P F G : Nat → Prop} {w : World} {bt : Nat} {t : Tr} (h : TreeC P F w bt t) (oa na : Option Addr) (oc nc : Nat) (c : Ch) (ho : RdL G w oa c.old.length oc c.old) (hn : RdL G w na c.now.length nc c.now) (hG : ∀ k, G k → ¬ P k) (hok : OkC c) (hlim : t.group.length < 1048576) :
    Calls Try.prog 21 #[.pointer (some ⟨bt, 0, none⟩), .agg #[.int .i64 c.pos, .slice oa c.old.length oc, .slice na c.now.length nc]] w fun e w' => e = .returned (.tuple #[]) ∧ TreeA P w bt (t.add c) w' := by
  by_cases hne : c.old = [] ∧ c.now = []
  · have hadd : t.add c = t := by unfold Tr.add; rw [if_pos hne]
    have HA : Hid (TreeA P w bt (t.add c) (w.alloc (.cells #[.int .i64 c.pos, .slice oa c.old.length oc, .slice na c.now.length nc] 24))) := by
      rw [hadd]
      have hB : Below w.heap.size w (w.alloc (.cells #[.int .i64 c.pos, .slice oa c.old.length oc, .slice na c.now.length nc] 24)) := (Below.refl _ _).alloc (Nat.le_refl _) _
      exact (TreeA.self (h.below hB)).from_ hB
    obtain ⟨T, hT⟩ : ∃ T, t.add c = T := ⟨_, rfl⟩
    rw [hT] at HA ⊢
    have e1 : c.old.length = 0 := by rw [hne.1]; rfl
    have e2 : c.now.length = 0 := by rw [hne.2]; rfl
    rw [e1, e2] at HA ⊢
    clear h ho hn hG hok hlim hne hadd hT e1 e2
    go_enter_defers Try.func21, Try.ntmps21
    go_wp2_with fail
    exact ⟨_, results_none rfl _ _ _, rfl, HA.out⟩
  · cases hop : t.isOpen with
    | true => exact add_open h oa na oc nc c ho hn hok hlim hne hop
    | false => exact add_shut h oa na oc nc c ho hn hG hok hlim hne hop
end Go.Proofs.Ytalhiedbhcklgaa.U
