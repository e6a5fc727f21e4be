/-
  The document's Add.
-/
import Derived.Test.YtalhiedbhcklgaaVREnd
namespace Go.Proofs.Ytalhiedbhcklgaa.U
open Go.RowKit
set_option linter.unusedVariables false
set_option linter.unusedSimpArgs false
set_option maxRecDepth 100000

theorem raddC {P F G : Nat → Prop} {wb : World} {bt bx : Nat} {t : Tr} {ga : Option Addr} {gc : Nat} (hb : TreeR P F wb bt t) (oa na : Option Addr) (oc nc : Nat) (c : Ch) (ho : RdL G wb oa c.old.length oc c.old) (hn : RdL G wb na c.now.length nc c.now) (hok : OkC c) (hlim : t.group.length < 1048576)
    (g1 : wb.heap[bx]? = some (.cells #[.int .i64 c.pos, .slice oa c.old.length oc, .slice na c.now.length nc] 24 (0, 0))) (hPb : ¬ P bx) (c3 : wb.cell? ⟨bt, 3, none⟩ = some (.slice ga t.group.length gc)) :
    Calls Try.prog 12 #[.agg #[.int .i64 c.pos, .slice oa c.old.length oc, .slice na c.now.length nc]] wb.drew fun e w1 => ∃ pa pc qa qc, e = .returned (.agg #[.int .i64 c.pos, .slice pa c.old.length pc, .slice qa c.now.length qc]) ∧
      (w1.cell? ⟨bt, 3, none⟩ = some (.slice ga t.group.length gc) ∧ w1.cell? ⟨bx, 0, none⟩ = some (.int .i64 c.pos) ∧ w1.cell? ⟨bx, 1, none⟩ = some (.slice oa c.old.length oc) ∧ w1.cell? ⟨bx, 2, none⟩ = some (.slice na c.now.length nc)) ∧ bt < w1.heap.size ∧ bx < w1.heap.size ∧
      ∃ a' c' w2, Hid (∀ ty, (Builtin.append_ #[41, 41] ty #[.slice ga t.group.length gc, .slice (some ⟨w1.heap.size, 0, none⟩) 1 1]).run Try.prog (w1.alloc (.cells #[.int .i64 c.pos, .slice pa c.old.length pc, .slice qa c.now.length qc] 24)) = .ok (.slice a' (t.group.length + 1) c') w2) ∧
        (w2.cell? ⟨bt, 3, none⟩ = some (.slice ga t.group.length gc) ∧ w2.cell? ⟨bx, 0, none⟩ = some (.int .i64 c.pos) ∧ w2.cell? ⟨bx, 1, none⟩ = some (.slice oa c.old.length oc) ∧ w2.cell? ⟨bx, 2, none⟩ = some (.slice na c.now.length nc)) ∧ w2.frozen? ⟨bt, 3, none⟩ = false ∧ bt < w2.heap.size ∧ Hid (RTreeA P wb bt { t with group := t.group ++ [c] } (w2.setCell ⟨bt, 3, none⟩ (.slice a' (t.group.length + 1) c'))) := by
  refine (rtwinC_any G oa na oc nc c wb.drew (ho.below (Below.refl _ _).drew) (hn.below (Below.refl _ _).drew) hok).mono ?_
  intro e w1 hp
  have hbd := hb.below (Below.refl _ wb).drew
  obtain ⟨pa, pc, qa, qc, ga', gc', rfl, d3, d3w, l1, hb1, a', c', w2, hrun, e3, z3, l2, hkeep, hA⟩ := radd_mem hbd hok hlim hp
  have d3w' : wb.cell? ⟨bt, 3, none⟩ = some (.slice ga' t.group.length gc') := d3w
  rw [c3] at d3w'
  injection d3w' with q
  injection q with q1 q2 q3
  subst q1 q3
  have l0 := heap_lt g1
  have k1 : w1.heap[bx]? = _ := (hb1.block bx l0).trans g1
  have k2 : w2.heap[bx]? = _ := (hkeep bx l0 hPb).trans g1
  exact ⟨pa, pc, qa, qc, rfl, ⟨d3, cell_row k1 0, cell_row k1 1, cell_row k1 2⟩, l1, heap_lt k1, a', c', w2, hrun, ⟨e3, cell_row k2 0, cell_row k2 1, cell_row k2 2⟩, z3, l2, hA.from_ (Below.refl _ wb).drew⟩

set_option maxHeartbeats 8000000 in
theorem radd_any {P F G : Nat → Prop} {w : World} {bt : Nat} {t : Tr} (h : TreeR P F w bt t) (oa na : Option Addr) (oc nc : Nat) (c : Ch) (ho : RdL G w oa c.old.length oc c.old) (hn : RdL G w na c.now.length nc c.now) (hok : OkC c) (hlim : t.group.length < 1048576) (hle : t.nodes.length ≤ 4096) :
    Calls Try.prog 22 #[.pointer (some ⟨bt, 0, none⟩), .agg #[.int .i64 c.pos, .slice oa c.old.length oc, .slice na c.now.length nc]] w fun e w' => e = .returned (.tuple #[]) ∧ RTreeA P w bt (t.add c) w' := by
  obtain ⟨wb, hwb⟩ : ∃ wb, w.alloc (.cells #[.int .i64 c.pos, .slice oa c.old.length oc, .slice na c.now.length nc] 24) = wb := ⟨_, rfl⟩
  have hB : Below w.heap.size w wb := by rw [← hwb]; exact (Below.refl _ _).alloc (Nat.le_refl _) _
  have g1 : wb.heap[w.heap.size]? = some (.cells #[.int .i64 c.pos, .slice oa c.old.length oc, .slice na c.now.length nc] 24 (0, 0)) := by rw [← hwb]; exact heap_alloc_new w _
  by_cases hne : c.old = [] ∧ c.now = []
  · have hadd : t.add c = t := by unfold Tr.add; rw [if_pos hne]
    have HA : Hid (RTreeA P w bt (t.add c) wb) := by
      rw [hadd]
      exact (RTreeA.self (h.below hB)).from_ hB
    obtain ⟨T, hT⟩ : ∃ T, t.add c = T := ⟨_, rfl⟩
    rw [hT] at HA ⊢
    have e1 : c.old.length = 0 := by rw [hne.1]; rfl
    have e2 : c.now.length = 0 := by rw [hne.2]; rfl
    rw [e1, e2] at hwb ⊢
    have HW := Lib.hid hwb
    clear h ho hn hok hlim hne hadd hT e1 e2 hwb hB g1
    go_enter Try.func22, Try.ntmps22
    go_wp2_with fail
    rw [HW.out]
    exact bodyPost_ret (results_none rfl _ _ _) rfl ⟨rfl, HA.out⟩
  · have hPb : ¬ P w.heap.size := fun hk => by have := h.lt _ hk; omega
    have hb := h.below hB
    obtain ⟨nd, ndc, ga, gc, -, -, c2, c3, -, -, -, z3, hl⟩ := hb.cells
    have l0 := heap_lt g1
    have HC := Lib.hid (raddC hb oa na oc nc c (ho.below hB) (hn.below hB) hok hlim g1 hPb c3)
    have HUP : Hid (∀ W, RTreeA P wb bt { t with group := t.group ++ [c] } W → RTreeA P w bt { t with group := t.group ++ [c] } W) := fun W hW => hW.from_ hB
    have HEND : Hid (∀ W, RTreeA P w bt { t with group := t.group ++ [c] } W → (t.isOpen = true → RTreeA P w bt (t.add c) W) ∧ (∃ u, W.cell? ⟨bt, 2, none⟩ = some u ∧ u = .bool t.isOpen) ∧ bt < W.heap.size ∧ (t.isOpen = false → Calls Try.prog 26 #[.pointer (some ⟨bt, 0, none⟩)] W fun e w' => e = .returned (.tuple #[]) ∧ RTreeA P w bt (t.add c) w')) := by
      intro W hW
      obtain ⟨P', F', q1, q2, q3⟩ := hW
      obtain ⟨_, _, _, _, _, _, k2, _, _, _, _, _, kl⟩ := q1.cells
      refine ⟨fun ho => ?_, ⟨_, k2, rfl⟩, kl, fun ho => ?_⟩
      · have : t.add c = { t with group := t.group ++ [c] } := by unfold Tr.add; rw [if_neg hne, if_pos ho]
        rw [this]
        exact ⟨P', F', q1, q2, q3⟩
      · have : t.add c = Tr.end_ { t with group := t.group ++ [c] } := by unfold Tr.add; rw [if_neg hne, ho, if_neg (by simp)]
        rw [this]
        refine (rend_any q1 (by exact hle) (by simp only [List.length_append, List.length_cons, List.length_nil]; omega)).mono ?_
        rintro e w' ⟨rfl, hA⟩
        refine ⟨rfl, ?_⟩
        obtain ⟨P2, F2, r1, r2, r3⟩ := hA
        have hs := q2.size
        refine ⟨P2, F2, r1, q2.trans r2 (fun k hk hp => ?_), fun k hk => ?_⟩
        · rcases q3 k hp with h | h
          · exact h
          · omega
        · rcases r3 k hk with h | h
          · exact q3 k h
          · exact .inr (by omega)
    have b0 : wb.cell? ⟨w.heap.size, 0, none⟩ = some (.int .i64 c.pos) := cell_row g1 0
    have b1 : wb.cell? ⟨w.heap.size, 1, none⟩ = some (.slice oa c.old.length oc) := cell_row g1 1
    have b2 : wb.cell? ⟨w.heap.size, 2, none⟩ = some (.slice na c.now.length nc) := cell_row g1 2
    have hcase := add_case hne
    have HW := Lib.hid hwb
    obtain ⟨T, hT⟩ : ∃ T, t.add c = T := ⟨_, rfl⟩
    rw [hT] at HEND ⊢
    obtain ⟨U, hU⟩ : ∃ U : Tr, ({ t with group := t.group ++ [c] } : Tr) = U := ⟨_, rfl⟩
    rw [hU] at HC HUP HEND
    obtain ⟨n, hnn⟩ : ∃ n, t.group.length = n := ⟨_, rfl⟩
    rw [hnn] at HC c3 hlim
    obtain ⟨x, hx⟩ : ∃ x, c.old.length = x := ⟨_, rfl⟩
    obtain ⟨y, hy⟩ : ∃ y, c.now.length = y := ⟨_, rfl⟩
    obtain ⟨p, hpp⟩ : ∃ p, c.pos = p := ⟨_, rfl⟩
    obtain ⟨op, hop⟩ : ∃ op, t.isOpen = op := ⟨_, rfl⟩
    rw [hx, hy, hpp] at HC HW
    rw [hx, hy] at hcase
    rw [hx] at b1
    rw [hy] at b2
    rw [hpp] at b0
    rw [hop] at HEND c2
    rw [hx, hy, hpp]
    clear h hb ho hn hok hne hwb hB g1 hPb hT hU hnn hx hy hpp hop hle
    go_enter Try.func22, Try.ntmps22
    go_upto_region 1 with fail
    rw [HW.out]
    rcases hcase with h1 | ⟨h1, h2⟩
    case' inl =>
      have t1 : ((x : Int) == 0) = false := by simp; omega
      clear h1
    case' inr =>
      have t1 : ((x : Int) == 0) = true := by simp; omega
      have t2 : ((y : Int) == 0) = false := by simp; omega
      clear h1 h2
    all_goals
      go_upto_region 2 with fail
      go_cut [22] (fun v22 wx => Hid (RTreeA P w bt U wx))
      case first =>
        go_region_law (first
          | (refine step_append_run rfl (.tmp 18) (.tmp 21) _ _ rfl _ _ (by simp [Act.eval, Act.put]) (by simp [Act.eval, Act.put]) (HRUN.out _) ?_)
          | (go_simp; go_at_call 12; refine HC.out.mono ?_; rintro e w1 ⟨pa, pc, qa, qc, rfl, ⟨s1, s2, s3, s4⟩, l1, l1', a', c', w2, HRUN, ⟨s5, s6, s7, s8⟩, z2, l2, hA⟩))
        all_goals
          go_wp2_with fail
          go_meet
          exact HUP.out _ hA.out
      case rest =>
        obtain ⟨k1, ⟨u, k2, rfl⟩, kl, k3⟩ := HEND.out _ hcut.out
        have K1 := Lib.hid k1
        clear k1 b0 b1 b2 c2 c3 z3 l0 hl
        cases op with
        | true =>
          clear k3
          go_wp2_with fail
          go_end0
          exact ⟨rfl, K1.out (by simp)⟩
        | false =>
          have K3 := Lib.hid (k3 (by simp))
          clear k3
          go_wp2_with fail
          refine K3.out.mono ?_
          rintro e w' ⟨rfl, hA⟩
          have HA := Lib.hid hA
          clear hA
          go_wp2_with fail
          go_end0
          exact ⟨rfl, HA.out⟩
end Go.Proofs.Ytalhiedbhcklgaa.U
