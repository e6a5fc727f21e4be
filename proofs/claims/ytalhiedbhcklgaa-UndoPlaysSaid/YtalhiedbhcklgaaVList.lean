/-
  The document's Same and List of changes, Back; a copy behind a row; the program's Turned; is a change small?
-/
import Derived.Test.YtalhiedbhcklgaaVCh
import Derived.StillTailTactics
namespace Go.Proofs.Ytalhiedbhcklgaa.U
open Go.RowKit
set_option linter.unusedVariables false
set_option linter.unusedSimpArgs false
set_option maxRecDepth 100000

/-- what a copy's append leaves, of a row of the caller's own -/
theorem my_cop {s k rc : Nat} {wr w1 : World} {ra : Option Addr} {D : List Ch} {c : Ch} {e : Ending} (h : MyCs s wr ra k rc D) (hs : s ≤ wr.heap.size) (hok : OkC c) (hk : k ≤ 1099511627776) (hp : CopP wr c e w1) :
    ∃ oa oc na nc, e = .returned (.agg #[.int .i64 c.pos, .slice oa c.old.length oc, .slice na c.now.length nc]) ∧ ∃ a' c' w', (∀ ty, (Builtin.append_ #[41, 41] ty #[.slice ra k rc, .slice (some ⟨w1.heap.size, 0, none⟩) 1 1]).run Try.prog (w1.alloc (.cells #[.int .i64 c.pos, .slice oa c.old.length oc, .slice na c.now.length nc] 24)) = .ok (.slice a' (k + 1) c') w') ∧
      MyCs s w' a' (k + 1) c' (D ++ [c]) ∧ Below s wr w' := by
  obtain ⟨oa, oc, na, nc, rfl, f1, f2, hb⟩ := hp
  have hu : ChAt (fun k => wr.heap.size ≤ k ∧ k < w1.heap.size) w1 (.int .i64 c.pos, .slice oa c.old.length oc, .slice na c.now.length nc) c := ⟨oa, oc, na, nc, rfl, f1.freshL.rdl2 hok.2.1, f2.freshL.rdl2 hok.2.2.1⟩
  obtain ⟨a', c', w', h1, h2, h3⟩ := my_ch h hs hb hu hk
  exact ⟨oa, oc, na, nc, rfl, a', c', w', h1, h2, h3⟩
theorem fresh_cop {s k rc : Nat} {wr w1 : World} {ra : Option Addr} {D : List Ch} {c : Ch} {e : Ending} (h : FreshCs s wr ra k rc D) (hs : s ≤ wr.heap.size) (hk : k ≤ 1099511627776) (hp : CopP wr c e w1) :
    ∃ oa oc na nc, e = .returned (.agg #[.int .i64 c.pos, .slice oa c.old.length oc, .slice na c.now.length nc]) ∧ ∃ a' c' w', (∀ ty, (Builtin.append_ #[41, 41] ty #[.slice ra k rc, .slice (some ⟨w1.heap.size, 0, none⟩) 1 1]).run Try.prog (w1.alloc (.cells #[.int .i64 c.pos, .slice oa c.old.length oc, .slice na c.now.length nc] 24)) = .ok (.slice a' (k + 1) c') w') ∧
      FreshCs s w' a' (k + 1) c' (D ++ [c]) ∧ Fr (fun j => some j = (Value.slice ra k rc).ownBlock) wr w' := by
  obtain ⟨oa, oc, na, nc, rfl, f1, f2, hb⟩ := hp
  obtain ⟨a', c', w', h1, h2, h3⟩ := fresh_ch (u := (.int .i64 c.pos, .slice oa c.old.length oc, .slice na c.now.length nc)) (x := c) h hs hb ⟨oa, oc, na, nc, rfl, f1, f2⟩ hk
  exact ⟨oa, oc, na, nc, rfl, a', c', w', h1, h2, h3⟩
/-- a copy's lines, read -/
theorem cop_rd {w w' : World} {c : Ch} {oa : Option Addr} {e : Ending} (hok : OkC c) (hp : CopP w c e w') : ∃ oa oc na nc, e = .returned (.agg #[.int .i64 c.pos, .slice oa c.old.length oc, .slice na c.now.length nc]) ∧ RdL (fun k => w.heap.size ≤ k ∧ k < w'.heap.size) w' oa c.old.length oc c.old ∧ RdL (fun k => w.heap.size ≤ k ∧ k < w'.heap.size) w' na c.now.length nc c.now ∧ Below w.heap.size w w' := by
  obtain ⟨oa, oc, na, nc, rfl, f1, f2, hb⟩ := hp
  exact ⟨oa, oc, na, nc, rfl, f1.freshL.rdl2 hok.2.1, f2.freshL.rdl2 hok.2.2.1, hb⟩

theorem ch_eq {c d : Ch} : c = d ↔ c.pos = d.pos ∧ c.old = d.old ∧ c.now = d.now := by
  cases c; cases d; simp

set_option maxHeartbeats 4000000 in
theorem rsameC_any (F G : Nat → Prop) (oa na pa qa : Option Addr) (oc nc pc qc : Nat) (c d : Ch) (w : World) (ho : RdL F w oa c.old.length oc c.old) (hn : RdL F w na c.now.length nc c.now) (hp : RdL G w pa d.old.length pc d.old) (hq : RdL G w qa d.now.length qc d.now) :
    Calls Try.prog 16 #[.agg #[.int .i64 c.pos, .slice oa c.old.length oc, .slice na c.now.length nc], .agg #[.int .i64 d.pos, .slice pa d.old.length pc, .slice qa d.now.length qc]] w fun e w' => e = .returned (.bool (decide (c = d))) ∧ Below w.heap.size w w' := by
  obtain ⟨wb, hwb⟩ : ∃ wb, (w.alloc (.cells #[.int .i64 c.pos, .slice oa c.old.length oc, .slice na c.now.length nc] 24)).alloc (.cells #[.int .i64 d.pos, .slice pa d.old.length pc, .slice qa d.now.length qc] 24) = wb := ⟨_, rfl⟩
  have hB : Below w.heap.size w wb := by rw [← hwb]; exact ((Below.refl _ _).alloc (Nat.le_refl _) _).alloc (by simp) _
  have hsz : wb.heap.size = w.heap.size + 2 := by rw [← hwb]; simp
  have g1 : wb.heap[w.heap.size]? = some (.cells #[.int .i64 c.pos, .slice oa c.old.length oc, .slice na c.now.length nc] 24 (0, 0)) := by
    rw [← hwb, Below.heap_alloc _ _ _ (by simp), heap_alloc_new]
  have g2 : wb.heap[w.heap.size + 1]? = some (.cells #[.int .i64 d.pos, .slice pa d.old.length pc, .slice qa d.now.length qc] 24 (0, 0)) := by
    have := heap_alloc_new (w.alloc (.cells #[.int .i64 c.pos, .slice oa c.old.length oc, .slice na c.now.length nc] 24)) (.cells #[.int .i64 d.pos, .slice pa d.old.length pc, .slice qa d.now.length qc] 24)
    rw [← hwb]
    simpa using this
  have hO := rsame_any F G oa pa c.old.length d.old.length oc pc c.old d.old wb (ho.below hB) (hp.below hB)
  have HNW : Hid (∀ W, Below wb.heap.size wb W → Calls Try.prog 15 #[.slice na c.now.length nc, .slice qa d.now.length qc] W fun e w' => e = .returned (.bool (decide (c.now = d.now))) ∧ Below W.heap.size W w') :=
    fun W hW => rsame_any F G na qa c.now.length d.now.length nc qc c.now d.now W (hn.below (hB.trans (hW.mono (by omega)))) (hq.below (hB.trans (hW.mono (by omega))))
  have HC : Hid (∀ W, Below wb.heap.size wb W → W.cell? ⟨w.heap.size, 0, none⟩ = some (.int .i64 c.pos) ∧ W.cell? ⟨w.heap.size, 1, none⟩ = some (.slice oa c.old.length oc) ∧ W.cell? ⟨w.heap.size, 2, none⟩ = some (.slice na c.now.length nc) ∧
      W.cell? ⟨w.heap.size + 1, 0, none⟩ = some (.int .i64 d.pos) ∧ W.cell? ⟨w.heap.size + 1, 1, none⟩ = some (.slice pa d.old.length pc) ∧ W.cell? ⟨w.heap.size + 1, 2, none⟩ = some (.slice qa d.now.length qc) ∧ w.heap.size < W.heap.size ∧ w.heap.size + 1 < W.heap.size) := by
    intro W hW
    have h1 := (hW.block w.heap.size (by omega)).trans g1
    have h2 := (hW.block (w.heap.size + 1) (by omega)).trans g2
    exact ⟨cell_row h1 0, cell_row h1 1, cell_row h1 2, cell_row h2 0, cell_row h2 1, cell_row h2 2, heap_lt h1, heap_lt h2⟩
  have HE : Hid (decide (c = d) = (decide (c.pos = d.pos) && (decide (c.old = d.old) && decide (c.now = d.now)))) := by
    unfold Hid
    rw [Bool.eq_iff_iff]
    simp [ch_eq]
  have HWB := Lib.hid hwb
  have HB := Lib.hid hB
  rw [HE.out]
  clear ho hn hp hq g1 g2 hwb hB hsz HE
  obtain ⟨x1, e1⟩ : ∃ x, c.old.length = x := ⟨_, rfl⟩
  obtain ⟨x2, e2⟩ : ∃ x, c.now.length = x := ⟨_, rfl⟩
  obtain ⟨x3, e3⟩ : ∃ x, d.old.length = x := ⟨_, rfl⟩
  obtain ⟨x4, e4⟩ : ∃ x, d.now.length = x := ⟨_, rfl⟩
  obtain ⟨p1, e5⟩ : ∃ x, c.pos = x := ⟨_, rfl⟩
  obtain ⟨p2, e6⟩ : ∃ x, d.pos = x := ⟨_, rfl⟩
  rw [e1, e2, e3, e4, e5, e6] at HC HWB
  rw [e1, e3] at hO
  rw [e2, e4] at HNW
  rw [e1, e2, e3, e4, e5, e6]
  clear e1 e2 e3 e4 e5 e6
  obtain ⟨c0, c1, c2, d0, d1, d2, l0, l1⟩ := HC.out wb (Below.refl _ _)
  have HO := Lib.hid hO
  clear hO
  by_cases hpp : p1 = p2
  · subst hpp
    have t1 : (p1 == p1) = true := by simp
    have t2 : decide (p1 = p1) = true := by simp
    rw [t2, Bool.true_and]
    clear t2
    cases hoo : decide (c.old = d.old) with
    | false =>
      rw [hoo] at HO
      rw [Bool.false_and]
      clear hoo
      go_enter Try.func16, Try.ntmps16
      go_upto_region 1 with fail
      rw [HWB.out]
      go_wp2_with (go_at_call 15; refine HO.out.mono ?_; rintro e w1 ⟨rfl, hb1⟩)
      go_ret
      exact ⟨rfl, HB.out.trans (hb1.mono (by have := HB.out.size; omega))⟩
    | true =>
      rw [hoo] at HO
      rw [Bool.true_and]
      clear hoo
      go_enter Try.func16, Try.ntmps16
      go_upto_region 1 with fail
      rw [HWB.out]
      go_wp2_with fail
      refine HO.out.mono ?_
      rintro e w1 ⟨rfl, hb1⟩
      clear c0 c1 c2 d0 d1 d2 l0 l1 HO
      obtain ⟨c0, c1, c2, d0, d1, d2, l0, l1⟩ := HC.out w1 hb1
      have HN2 := Lib.hid (HNW.out w1 hb1)
      have HB1 := Lib.hid (HB.out.trans (hb1.mono (by have := HB.out.size; omega)))
      clear hb1
      go_wp2_with fail
      refine HN2.out.mono ?_
      rintro e w2 ⟨rfl, hb2⟩
      have HB2 := Lib.hid (HB1.out.trans (hb2.mono HB1.out.size))
      clear hb2
      go_wp2_with fail
      go_ret
      exact ⟨rfl, HB2.out⟩
  · have t1 : (p1 == p2) = false := by simpa using hpp
    have t2 : decide (p1 = p2) = false := by simpa using hpp
    rw [t2, Bool.false_and]
    clear t2 hpp
    go_enter Try.func16, Try.ntmps16
    go_upto_region 1 with fail
    rw [HWB.out]
    go_wp2_with fail
    go_ret
    exact ⟨rfl, HB.out⟩
end Go.Proofs.Ytalhiedbhcklgaa.U
