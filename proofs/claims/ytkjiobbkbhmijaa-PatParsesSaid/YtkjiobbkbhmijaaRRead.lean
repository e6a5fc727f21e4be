/-
  The program's read: a pattern's parts and how many groups it has, or its error.
-/
import Derived.Test.YtkjiobbkbhmijaaRWhole
import Derived.Test.YtkjiobbkbhmijaaRCatch
namespace Go.Proofs.Ytkjiobbkbhmijaa.U
open Go.RowKit
set_option linter.unusedVariables false
set_option linter.unusedSimpArgs false
set_option maxRecDepth 100000

/-- what read leaves -/
def RdAns (w : World) (r : Rs (Re × Nat)) (e : Ending) (w' : World) : Prop :=
  match r with
  | .error c => e = .returned (.tuple #[.agg #[.int .i64 0, .int .i32 0, .slice none 0 0, .bool false, .int .i64 0, .int .i64 0, .slice none 0 0], .int .i64 0, .int .i64 c]) ∧ Below w.heap.size w w'
  | .ok (y, n) => ∃ k4 r4 sa4 sn4 sc4 nt4 l4 h4 pa4 pn4 pc4, e = .returned (.tuple #[.agg #[.int .i64 k4, .int .i32 r4, .slice sa4 sn4 sc4, .bool nt4, .int .i64 l4, .int .i64 h4, .slice pa4 pn4 pc4], .int .i64 (n : Nat), .int .i64 0]) ∧ ReAt (New w w') w' [.int .i64 k4, .int .i32 r4, .slice sa4 sn4 sc4, .bool nt4, .int .i64 l4, .int .i64 h4, .slice pa4 pn4 pc4] y ∧ Below w.heap.size w w'
theorem parse_ok_sz {p : List Int} {y : Re} {n : Nat} (h : parse p = .ok (y, n)) : y.sz ≤ 400 := by
  rw [parse_eq] at h
  unfold parseF at h
  split at h
  · cases h
  split at h
  · cases h
  split at h
  · cases h
  · simp only [Except.ok.injEq, Prod.mk.injEq] at h
    rw [← h.1]; omega
theorem results_ccc {fn : Func} {p q r : Tmp} {ty tq tr : TypeId} (h : fn.results = #[.cell p ty, .cell q tq, .cell r tr]) (tmps : Array Value) (P : Program) (w : World) :
    (results fn tmps).run P w = ((asAddr (tmps.getD p undef)).run P w).andThen fun a w₁ => ((loadVar ty a).run P w₁).andThen fun v w₂ => ((asAddr (tmps.getD q undef)).run P w₂).andThen fun b w₃ => ((loadVar tq b).run P w₃).andThen fun u w₄ =>
      ((asAddr (tmps.getD r undef)).run P w₄).andThen fun c w₅ => ((loadVar tr c).run P w₅).andThen fun x w₆ => .ok (.tuple #[v, u, x]) w₆ := by
  simp only [results, h]
  simp [Sem.run_bind, Result.andThen]
set_option maxHeartbeats 1000000 in
theorem read_any (a : Option Addr) (len cap : Nat) (p : List Int) (w : World) (hr : Rd .i32 w a len cap p) (hl : len ≤ 1000000) :
    Calls Try.prog 19 #[.slice a len cap] w (RdAns w (parse p)) := by
  have hmf : ∀ (fn : Fn) (first cap : Array Value) (w : World), (Instr.makeFunc fn first cap).run Try.prog w = .ok (.func fn first cap) w := fun _ _ _ _ => rfl
  have hlen := hr.1
  subst hlen
  obtain ⟨w1, hw1⟩ : ∃ w1, ((w.alloc (.cells #[.int .i64 0, .int .i32 0, .slice none 0 0, .bool false, .int .i64 0, .int .i64 0, .slice none 0 0] 26)).alloc (.cells #[.int .i64 0] 3)).alloc (.cells #[.int .i64 0] 27) = w1 := ⟨_, rfl⟩
  have hb1 : Below w.heap.size w w1 := by rw [← hw1]; exact (((Below.refl _ w).alloc (Nat.le_refl _) _).alloc (by simp) _).alloc (by simp; omega) _
  have hz1 : w1.heap.size = w.heap.size + 3 := by rw [← hw1]; simp
  have g0 : w1.heap[w.heap.size]? = some (.cells #[.int .i64 0, .int .i32 0, .slice none 0 0, .bool false, .int .i64 0, .int .i64 0, .slice none 0 0] 26 (0, 0)) := by
    rw [← hw1, ((bal _ _).block _ (by simp; omega)), ((bal _ _).block _ (by simp))]
    exact heap_alloc_new w _
  have g1 : w1.heap[w.heap.size + 1]? = some (.cells #[.int .i64 0] 3 (0, 0)) := by
    rw [← hw1, ((bal _ _).block _ (by simp))]
    have := heap_alloc_new (w.alloc (.cells #[.int .i64 0, .int .i32 0, .slice none 0 0, .bool false, .int .i64 0, .int .i64 0, .slice none 0 0] 26)) (.cells #[.int .i64 0] 3)
    rw [show (w.alloc (.cells #[.int .i64 0, .int .i32 0, .slice none 0 0, .bool false, .int .i64 0, .int .i64 0, .slice none 0 0] 26)).heap.size = w.heap.size + 1 by simp] at this
    exact this
  have g2 : w1.heap[w.heap.size + 2]? = some (.cells #[.int .i64 0] 27 (0, 0)) := by
    rw [← hw1]
    have := heap_alloc_new ((w.alloc (.cells #[.int .i64 0, .int .i32 0, .slice none 0 0, .bool false, .int .i64 0, .int .i64 0, .slice none 0 0] 26)).alloc (.cells #[.int .i64 0] 3)) (.cells #[.int .i64 0] 27)
    rw [show ((w.alloc (.cells #[.int .i64 0, .int .i32 0, .slice none 0 0, .bool false, .int .i64 0, .int .i64 0, .slice none 0 0] 26)).alloc (.cells #[.int .i64 0] 3)).heap.size = w.heap.size + 2 by simp] at this
    exact this
  obtain ⟨w2, hw2⟩ : ∃ w2, w1.alloc (.cells #[.slice a p.length cap, .int .i64 0, .int .i64 0, .int .i64 0] 53) = w2 := ⟨_, rfl⟩
  have hb2 : Below w1.heap.size w1 w2 := by rw [← hw2]; exact bal _ _
  have g3 : w2.heap[w1.heap.size]? = some (.cells #[.slice a p.length cap, .int .i64 0, .int .i64 0, .int .i64 0] 53 (0, 0)) := by rw [← hw2]; exact heap_alloc_new w1 _
  have hin := hr.inHeap
  have hrd : RdS w2 w1.heap.size p p 0 0 := ⟨a, cap, 0, g3, (hr.below hb1).below hb2, hin.mono (fun k hk => by omega), rfl, by omega, by omega, hl, by omega⟩
  have HWH : Hid (Calls Try.prog 24 #[.pointer (some ⟨w1.heap.size, 0, none⟩)] w2 (WhAns w2 w1.heap.size p (parse p))) := whole_any w1.heap.size p w2 hrd
  have HG0 := Lib.hid ((hb2.block _ (by omega)).trans g0)
  have HG1 := Lib.hid ((hb2.block _ (by omega)).trans g1)
  have HG2 := Lib.hid ((hb2.block _ (by omega)).trans g2)
  have HW1 := Lib.hid hw1
  have HW2 := Lib.hid hw2
  have HZ1 := Lib.hid hz1
  have HZ2 := Lib.hid (heap_lt g3)
  have HB : Hid (Below w.heap.size w w2) := hb1.trans (hb2.mono (by omega))
  clear hw1 hw2 hb1 hb2 g0 g1 g2 g3 hrd hin hr hl hz1
  cases hp : parse p with
  | error c =>
    rw [hp] at HWH
    clear hp
    have HCT : Hid (∀ w3 : World, Fr (· = w1.heap.size) w2 w3 → CallsD Try.prog 23 #[.pointer (some ⟨w.heap.size, 0, none⟩), .pointer (some ⟨w.heap.size + 1, 0, none⟩), .pointer (some ⟨w.heap.size + 2, 0, none⟩)] (.panicking ({ v := .iface 27 (.int .i64 c), recovered := false } :: [])) w3 fun e u' w' =>
        e = .returned (.tuple #[]) ∧ u' = .panicking ({ v := .iface 27 (.int .i64 c), recovered := true } :: []) ∧ w'.heap[w.heap.size]? = some (.cells #[.int .i64 0, .int .i32 0, .slice none 0 0, .bool false, .int .i64 0, .int .i64 0, .slice none 0 0] 26 (0, 0)) ∧ w'.heap[w.heap.size + 1]? = some (.cells #[.int .i64 0] 3 (0, 0)) ∧ w'.heap[w.heap.size + 2]? = some (.cells #[.int .i64 c] 27 (0, 0)) ∧ Below w.heap.size w w') := by
      intro w3 h3
      have hz := HZ1.out
      have hz2 := HZ2.out
      refine (catch_err w.heap.size c [] _ _ _ _ _ _ _ _ _ w3 ((h3.block _ (by omega) (by omega)).trans HG0.out) ((h3.block _ (by omega) (by omega)).trans HG1.out) ((h3.block _ (by omega) (by omega)).trans HG2.out)).mono ?_
      rintro e u' w' ⟨h1, h2, h4, h5, h6, h7⟩
      refine ⟨h1, h2, h4, h5, h6, ?_⟩
      have h8 := ((Fr.of_below (fun k => w.heap.size ≤ k) HB.out).trans h3 (fun k _ e => by omega)).trans h7 (fun _ _ h => h)
      exact h8.below (Nat.le_refl _) (fun k hk => hk)
    go_enter_defers Try.func19, Try.ntmps19
    go_upto_region 1 with fail
    rw [HW1.out]
    go_upto_region 3 with fail
    rw [HW2.out]
    go_wp2_with (go_at_call 24; refine HWH.out.mono ?_; intro e w3 h3; obtain ⟨he, hf3⟩ := h3; rw [errV] at he; subst he; have HF3 := Lib.hid hf3; clear hf3)
    refine leaves_cons (f := 23) (args := #[.pointer (some ⟨w.heap.size, 0, none⟩), .pointer (some ⟨w.heap.size + 1, 0, none⟩), .pointer (some ⟨w.heap.size + 2, 0, none⟩)]) (by simp) (by simp [go_sem]) ?_
    refine (HCT.out w3 HF3.out).mono ?_
    rintro e u' w' ⟨rfl, rfl, h4, h5, h6, hbw⟩
    obtain ⟨p0, p1, p2, p3, p4, p5, p6, -⟩ := row7 h4
    have q0 : w'.cell? ⟨w.heap.size + 1, 0, none⟩ = some (.int .i64 0) := by rw [cell_row h5]; rfl
    have y0 : w'.cell? ⟨w.heap.size + 2, 0, none⟩ = some (.int .i64 c) := by rw [cell_row h6]; rfl
    have HBW := Lib.hid hbw
    clear h4 h5 h6 hbw
    show Leaves _ _ _ _ [] (settle _) w'
    refine ⟨.tuple #[.agg #[.int .i64 0, .int .i32 0, .slice none 0 0, .bool false, .int .i64 0, .int .i64 0, .slice none 0 0], .int .i64 0, .int .i64 c], ?_, rfl, HBW.out⟩
    rw [results_ccc rfl]
    go_simp
  | ok q =>
    obtain ⟨y, n⟩ := q
    rw [hp] at HWH
    have HSZ := Lib.hid (parse_ok_sz hp)
    clear hp
    have HOPEN : Hid (∀ e w3, WhAns w2 w1.heap.size p (.ok (y, n)) e w3 → ∃ k4 r4 sa4 sn4 sc4 nt4 l4 h4 pa4 pn4 pc4 w4, e = .returned (.agg #[.int .i64 k4, .int .i32 r4, .slice sa4 sn4 sc4, .bool nt4, .int .i64 l4, .int .i64 h4, .slice pa4 pn4 pc4, .int .i64 ((min y.sz 401 : Nat) : Int)]) ∧ w3.alloc (.cells #[.int .i64 k4, .int .i32 r4, .slice sa4 sn4 sc4, .bool nt4, .int .i64 l4, .int .i64 h4, .slice pa4 pn4 pc4, .int .i64 ((min y.sz 401 : Nat) : Int)] 55) = w4 ∧
        w4.heap[w3.heap.size]? = some (.cells #[.int .i64 k4, .int .i32 r4, .slice sa4 sn4 sc4, .bool nt4, .int .i64 l4, .int .i64 h4, .slice pa4 pn4 pc4, .int .i64 ((min y.sz 401 : Nat) : Int)] 55 (0, 0)) ∧ w4.cell? ⟨w1.heap.size, 2, none⟩ = some (.int .i64 (n : Nat)) ∧ w4.heap[w.heap.size]? = some (.cells #[.int .i64 0, .int .i32 0, .slice none 0 0, .bool false, .int .i64 0, .int .i64 0, .slice none 0 0] 26 (0, 0)) ∧ w4.heap[w.heap.size + 1]? = some (.cells #[.int .i64 0] 3 (0, 0)) ∧ w4.heap[w.heap.size + 2]? = some (.cells #[.int .i64 0] 27 (0, 0)) ∧ w1.heap.size < w3.heap.size ∧
        Hid (∀ W, Fr (fun k => w.heap.size ≤ k ∧ k < w1.heap.size) w4 W → RdAns w (.ok (y, n)) (.returned (.tuple #[.agg #[.int .i64 k4, .int .i32 r4, .slice sa4 sn4 sc4, .bool nt4, .int .i64 l4, .int .i64 h4, .slice pa4 pn4 pc4], .int .i64 (n : Nat), .int .i64 0])) W)) := by
      rintro e w3 ⟨v, rfl, h1, h2, h3⟩
      obtain ⟨k4, r4, sa4, sn4, sc4, nt4, l4, h4, pa4, pn4, pc4, rfl⟩ := h1.rev7
      have hb := bal w3 (.cells #[.int .i64 k4, .int .i32 r4, .slice sa4 sn4 sc4, .bool nt4, .int .i64 l4, .int .i64 h4, .slice pa4 pn4 pc4, .int .i64 ((min y.sz 401 : Nat) : Int)] 55)
      have hz := HZ1.out
      have hz2 := HZ2.out
      have hz3 := h3.size
      obtain ⟨_, _, _, _, _, c2, _⟩ := (h2.below hb).cells
      refine ⟨k4, r4, sa4, sn4, sc4, nt4, l4, h4, pa4, pn4, pc4, _, rfl, rfl, heap_alloc_new w3 _, c2, ?_, ?_, ?_, by omega, ?_⟩
      · rw [hb.block _ (by omega), h3.block _ (by omega) (by omega)]; exact HG0.out
      · rw [hb.block _ (by omega), h3.block _ (by omega) (by omega)]; exact HG1.out
      · rw [hb.block _ (by omega), h3.block _ (by omega) (by omega)]; exact HG2.out
      · intro W hW
        have hs := hb.size
        have hs2 := hW.size
        have hre := ReAt.frF hW (fun k hk e => by have := hk.1; omega) y (ReAt.frF (Fr.of_below (fun _ => False) hb) (fun _ _ h => h) y (h1.1 HSZ.out))
        have h8 := (((Fr.of_below (fun k => w.heap.size ≤ k) HB.out).trans h3 (fun k _ e => by omega)).trans (Fr.of_below (fun _ => False) hb) (fun _ _ h => h.elim)).trans hW (fun _ _ h => h.1)
        exact ⟨k4, r4, sa4, sn4, sc4, nt4, l4, h4, pa4, pn4, pc4, rfl, ReAt.mono (fun k hk => ⟨by have := hk.1; omega, by have := hk.2; omega⟩) y hre, h8.below (Nat.le_refl _) (fun k hk => hk)⟩
    go_enter_defers Try.func19, Try.ntmps19
    go_upto_region 1 with fail
    rw [HW1.out]
    go_upto_region 3 with fail
    rw [HW2.out]
    go_upto_region 4 with (go_at_call 24; refine HWH.out.mono ?_; intro e w3 h3; obtain ⟨k4, r4, sa4, sn4, sc4, nt4, l4, h4, pa4, pn4, pc4, w4, he, hw4, hX, c2, hA, hB', hC, hlt3, HFIN⟩ := HOPEN.out e w3 h3; subst he; clear h3)
    obtain ⟨p0, p1, p2, p3, p4, p5, p6, -⟩ := row8 hX
    obtain ⟨a0, a1, a2, a3, a4, a5, a6, z0, z1, z2, z3, z4, z5, z6⟩ := row7 hA
    have q0 : w4.cell? ⟨w.heap.size + 1, 0, none⟩ = some (.int .i64 0) := by rw [cell_row hB']; rfl
    have y0 : w4.cell? ⟨w.heap.size + 2, 0, none⟩ = some (.int .i64 0) := by rw [cell_row hC]; rfl
    have zq := frozen_row hB' 0
    have zy := frozen_row hC 0
    have n1 : ¬ w3.heap.size = w.heap.size := by have := HZ1.out; omega
    have n2 : ¬ w3.heap.size = w.heap.size + 1 := by have := HZ1.out; omega
    have n3 : ¬ w3.heap.size = w.heap.size + 2 := by have := HZ1.out; omega
    have n4 : ¬ w1.heap.size = w.heap.size := by have := HZ1.out; omega
    have n5 : ¬ w1.heap.size = w.heap.size + 1 := by have := HZ1.out; omega
    have n6 : ¬ w1.heap.size = w.heap.size + 2 := by have := HZ1.out; omega
    clear hX hA hB' hC
    go_region
    all_goals go_wp2
    all_goals
      refine leaves_cons (f := 23) (args := #[.pointer (some ⟨w.heap.size, 0, none⟩), .pointer (some ⟨w.heap.size + 1, 0, none⟩), .pointer (some ⟨w.heap.size + 2, 0, none⟩)]) (by simp) (by simp [go_sem]) ?_
      refine (catch_idle _ _ _ _).mono ?_
      rintro e u' w' ⟨rfl, rfl, rfl⟩
      refine ⟨.tuple #[.agg #[.int .i64 k4, .int .i32 r4, .slice sa4 sn4 sc4, .bool nt4, .int .i64 l4, .int .i64 h4, .slice pa4 pn4 pc4], .int .i64 (n : Nat), .int .i64 0], ?_, HFIN.out _ ?_⟩
      · rw [results_ccc rfl]
        go_simp
      · have hz := HZ1.out
        (repeat' (first | (with_reducible refine Fr.setCell ?_ _ _ ?_) | (with_reducible refine Fr.drew ?_))) <;> first | (with_reducible exact Fr.refl _ _) | (intro _; constructor <;> simp <;> omega)
end Go.Proofs.Ytkjiobbkbhmijaa.U
