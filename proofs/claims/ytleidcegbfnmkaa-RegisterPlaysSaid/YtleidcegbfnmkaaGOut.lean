/-
  A list of named registers under way (out): a row of one's own whose lines lie in what was or in new blocks.
-/
import Derived.Test.YtleidcegbfnmkaaGHold
namespace Go.Proofs.Ytleidcegbfnmkaa.U
open Go.RowKit
set_option linter.unusedVariables false
set_option linter.unusedSimpArgs false
set_option maxRecDepth 100000

theorem RdL.boundG {F : Nat → Prop} {w : World} {a : Option Addr} {n c : Nat} {L : List (List Int)} (h : RdL F w a n c L) : RdL (fun k => F k ∧ k < w.heap.size) w a n c L := by
  obtain ⟨vs, h1, h2, h3⟩ := h
  refine ⟨vs, h1, fun hp ad e => ⟨h2 hp ad e, ?_⟩, h3.1, fun i x hx => ?_⟩
  · obtain ⟨b, off, e2, hb, _⟩ := h1.at_ hp
    rw [e] at e2
    cases e2
    exact hb
  · obtain ⟨ra, rc, e1, e2, e3⟩ := h3.2 i x hx
    exact ⟨ra, rc, e1, e2, fun hp ad e => ⟨e3 hp ad e, e2.inHeap hp ad e⟩⟩
theorem lines_wfG {F : Nat → Prop} {w : World} {a : Option Addr} {n c : Nat} {L : List (List Int)} (h : RdL F w a n c L) : ∀ x ∈ L, ∀ y ∈ x, (Lit.int .i32 y).wf = true := lines_wf (rdl_wf h)
/-- where lines of a list under way lie -/
def FS (P : Nat → Prop) (bx B : Nat) (w : World) (v : Value) (k : Nat) : Prop := (P k ∧ k ≠ bx) ∨ (B ≤ k ∧ k < w.heap.size ∧ v.ownBlock ≠ some k)
def OutS (P : Nat → Prop) (bx B : Nat) (w : World) (v : Value) (n : Nat) (out : List Nm) : Prop := ∃ vs, w.ownsRow B 47 3 v n vs ∧ NmAt (FS P bx B w v) w out vs
section
variable {P : Nat → Prop} {bx B n : Nat} {w w' : World} {v : Value} {out : List Nm}
theorem OutS.nil : OutS P bx B w (.slice none 0 0) 0 [] := ⟨[], World.ownsRow_nil _ _ _ _, rfl⟩
theorem FS.grow (hs : w.heap.size ≤ w'.heap.size) : ∀ k, FS P bx B w v k → FS P bx B w' v k := by
  rintro k (h | ⟨h1, h2, h3⟩)
  · exact .inl h
  · exact .inr ⟨h1, by omega, h3⟩
theorem OutS.below (h : OutS P bx B w v n out) (hb : Below w.heap.size w w') : OutS P bx B w' v n out := by
  obtain ⟨vs, h1, h2⟩ := h
  exact ⟨vs, own_fr h1 (Fr.of_below (fun _ => False) hb) (fun _ _ h => h), NmAt.mono (FS.grow hb.size) (h2.below hb)⟩
theorem OutS.app (h : OutS P bx B w v n out) (hP : ∀ k, P k → k < B) (hB : B ≤ w.heap.size) (hn : n ≤ 1000) (m : Int) (r : Rg) (ra : Option Addr) (rc : Nat) (hr : RdL (FS P bx B w v) w ra r.L.length rc r.L) :
    ∃ a' c' w', (∀ ty, (Builtin.append_ #[26, 26] ty #[v, .slice (some ⟨w.heap.size, 0, none⟩) 1 1]).run Try.prog (w.alloc (.cells #[.int .i32 m, .int .i64 r.k, .slice ra r.L.length rc] 47)) = .ok (.slice a' (n + 1) c') w') ∧ OutS P bx B w' (.slice a' (n + 1) c') (n + 1) (out ++ [(m, r)]) ∧ Below B w w' := by
  obtain ⟨vs, h1, h2⟩ := h
  have hF : ∀ k, FS P bx B w v k → v.ownBlock ≠ some k := by
    rintro k (hk | hk) e
    · have := (h1.lt k e).1
      have := hP k hk.1
      omega
    · exact hk.2.2 e
  obtain ⟨a', c', w', us, hrun, ho, hnm, hb, hfr, hown⟩ := app_nm w B v n out vs m r ra rc _ h1 h2 hF hr hB hn
  refine ⟨a', c', w', hrun, ⟨us, ho, NmAt.mono ?_ hnm⟩, hb⟩
  rintro k (hk | ⟨hk1, hk2, hk3⟩)
  · exact .inl hk
  · refine .inr ⟨hk1, Nat.lt_of_lt_of_le hk2 hb.size, fun e => ?_⟩
    rcases hown k e with h | h
    · exact hk3 h
    · omega
theorem OutS.fresh {a : Option Addr} {m c : Nat} {L : List (List Int)} (h : OutS P bx B w v n out) (hB : B ≤ w.heap.size) (hf : FreshL w.heap.size w' a m c L) (hw : ∀ x ∈ L, ∀ y ∈ x, (Lit.int .i32 y).wf = true) : RdL (FS P bx B w' v) w' a m c L := by
  obtain ⟨vs, h1, h2⟩ := h
  refine (hf.rdl hw).boundG.mono (fun k hk => .inr ⟨by omega, hk.2, fun e => ?_⟩)
  have := (h1.lt k e).2
  omega
/-- a copy of lines goes into the list -/
theorem OutS.put {a : Option Addr} {c : Nat} {r : Rg} {m : Int} (h : OutS P bx B w v n out) (hP : ∀ k, P k → k < B) (hB : B ≤ w.heap.size) (hn : n ≤ 1000) (hw : ∀ x ∈ r.L, ∀ y ∈ x, (Lit.int .i32 y).wf = true) (hf : FreshL w.heap.size w' a r.L.length c r.L) (hb : Below w.heap.size w w') :
    ∃ a' c' w2, (∀ ty, (Builtin.append_ #[26, 26] ty #[v, .slice (some ⟨w'.heap.size, 0, none⟩) 1 1]).run Try.prog (w'.alloc (.cells #[.int .i32 m, .int .i64 r.k, .slice a r.L.length c] 47)) = .ok (.slice a' (n + 1) c') w2) ∧ OutS P bx B w2 (.slice a' (n + 1) c') (n + 1) (out ++ [(m, r)]) ∧ Below B w w2 := by
  obtain ⟨a', c', w2, h1, h2, h3⟩ := (h.below hb).app hP (Nat.le_trans hB hb.size) hn m r a c (h.fresh hB hf hw)
  exact ⟨a', c', w2, h1, h2, (hb.mono hB).trans h3⟩
/-- the list becomes what the box holds -/
theorem OutS.done {w0 : World} {a : Option Addr} {c : Nat} {s : List Nm} (h : OutS P bx B w (.slice a n c) n out) (h0 : RSt P w0 bx s) (hB : w0.heap.size ≤ B) (hb : Below w0.heap.size w0 w) : AfS P w0 (w.setCell ⟨bx, 0, none⟩ (.slice a n c)) bx out := by
  obtain ⟨vs, h1, h2⟩ := h
  have hn : n = out.length := by
    have e1 := h1.1
    have e2 := h2.len
    omega
  subst hn
  obtain ⟨a0, c0, q1, q2, p1, p2⟩ := h0.below hb
  have hbx := h0.lt bx p1
  have hfS : Fr (fun k => k = bx) w (w.setCell ⟨bx, 0, none⟩ (.slice a out.length c)) := (Fr.refl (fun k => k = bx) w).setCell ⟨bx, 0, none⟩ _ (fun _ => rfl)
  have hset := heap_set q1 0 (.slice a out.length c)
  refine ⟨fun k => P k ∨ (B ≤ k ∧ k < w.heap.size), ⟨a, c, ?_, ⟨vs, (Rc.own h1).frF (F := fun k => k ≠ bx) (InF.own h1 (fun k e => by have := (h1.lt k e).1; omega)) hfS (fun k h e => h e), InF.own h1 (fun k e => ⟨.inr (h1.lt k e), by have := (h1.lt k e).1; omega⟩), NmAt.frF (F := fun k => (P k ∨ (B ≤ k ∧ k < w.heap.size)) ∧ k ≠ bx) hfS (fun k h e => h.2 e) (NmAt.mono ?_ h2)⟩, .inl p1, ?_⟩, (Fr.of_below _ hb).trans hfS (fun _ _ h => h), ?_⟩
  · rw [hset]
    rfl
  · rintro k (hk | hk)
    · exact ⟨.inl hk.1, hk.2⟩
    · exact ⟨.inr ⟨hk.1, hk.2.1⟩, by omega⟩
  · rintro k (hk | hk)
    · exact Nat.lt_of_lt_of_le (p2 k hk) hfS.size
    · exact Nat.lt_of_lt_of_le hk.2 hfS.size
  · rintro k (hk | hk)
    · exact .inl hk
    · exact .inr (by omega)
end
end Go.Proofs.Ytleidcegbfnmkaa.U
