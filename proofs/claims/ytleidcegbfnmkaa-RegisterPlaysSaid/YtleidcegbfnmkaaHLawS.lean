/-
  The walk of RegisterShifts.
-/
import Derived.Test.YtleidcegbfnmkaaHLawG
import Derived.Deep.RegionHeld3
namespace Go.Proofs.Ytleidcegbfnmkaa.U
open Go.RowKit
set_option linter.unusedVariables false
set_option linter.unusedSimpArgs false
set_option maxRecDepth 100000

/-- cells that are what registers hold -/
def RgAt (F : Nat → Prop) (w : World) : List Rg → List Value → Prop
  | [], vs => vs = []
  | x :: s, vs => ∃ ra rc us, vs = .int .i64 x.k :: .slice ra x.L.length rc :: us ∧ RdL F w ra x.L.length rc x.L ∧ RgAt F w s us
section
variable {F G : Nat → Prop} {w w' : World}
theorem RgAt.frF (hf : Fr G w w') (hd : ∀ k, F k → ¬ G k) : ∀ {s : List Rg} {vs : List Value}, RgAt F w s vs → RgAt F w' s vs
  | [], _, h => h
  | x :: s, _, ⟨ra, rc, us, h1, h2, h3⟩ => ⟨ra, rc, us, h1, h2.frF hf hd, RgAt.frF hf hd h3⟩
theorem RgAt.mono (hg : ∀ k, F k → G k) : ∀ {s : List Rg} {vs : List Value}, RgAt F w s vs → RgAt G w s vs
  | [], _, h => h
  | x :: s, _, ⟨ra, rc, us, h1, h2, h3⟩ => ⟨ra, rc, us, h1, h2.mono hg, RgAt.mono hg h3⟩
theorem RgAt.len : ∀ {s : List Rg} {vs : List Value}, RgAt F w s vs → vs.length = s.length * 2
  | [], _, h => by rw [h]; rfl
  | x :: s, _, ⟨ra, rc, us, h1, h2, h3⟩ => by rw [h1]; simp only [List.length_cons, RgAt.len h3]; omega
theorem RgAt.one1 : ∀ {s : List Rg} {vs : List Value}, RgAt F w s vs → ∀ u ∈ vs, u.oneCell' = true
  | [], _, h, u, hu => by rw [h] at hu; cases hu
  | x :: s, _, ⟨ra, rc, us, h1, h2, h3⟩, u, hu => by
    rw [h1] at hu
    simp only [List.mem_cons] at hu
    rcases hu with rfl | rfl | hu
    · rfl
    · rfl
    · exact RgAt.one1 h3 u hu
theorem RgAt.get : ∀ {s : List Rg} {vs : List Value} {i : Nat} {x : Rg}, RgAt F w s vs → s[i]? = some x →
    ∃ ra rc, vs[i * 2]? = some (.int .i64 x.k) ∧ vs[i * 2 + 1]? = some (.slice ra x.L.length rc) ∧ RdL F w ra x.L.length rc x.L
  | [], _, _, _, _, hx => by simp at hx
  | y :: s, _, 0, x, ⟨ra, rc, us, h1, h2, h3⟩, hx => by
    simp only [List.getElem?_cons_zero, Option.some.injEq] at hx
    subst hx
    exact ⟨ra, rc, by rw [h1]; rfl, by rw [h1]; rfl, h2⟩
  | y :: s, _, i + 1, x, ⟨ra, rc, us, h1, h2, h3⟩, hx => by
    simp only [List.getElem?_cons_succ] at hx
    obtain ⟨ra, rc, e0, e1, e3⟩ := RgAt.get h3 hx
    refine ⟨ra, rc, ?_, ?_, e3⟩
    · rw [h1, show (i + 1) * 2 = i * 2 + 2 by omega]; simpa using e0
    · rw [h1, show (i + 1) * 2 + 1 = i * 2 + 1 + 2 by omega]; simpa using e1
end
/-- a row of what registers hold, that can be read -/
def RdRg (F : Nat → Prop) (w : World) (a : Option Addr) (n c : Nat) (s : List Rg) : Prop := ∃ vs, Rc w a n c 2 vs ∧ InF F a n ∧ RgAt F w s vs
section
variable {F G : Nat → Prop} {w w' W : World} {a : Option Addr} {n c : Nat} {s : List Rg}
theorem RdRg.len (h : RdRg F w a n c s) : s.length = n := by
  obtain ⟨vs, h1, _, h3⟩ := h
  have := h1.1
  have := h3.len
  omega
theorem RdRg.frF (h : RdRg F w a n c s) (hf : Fr G w w') (hd : ∀ k, F k → ¬ G k) : RdRg F w' a n c s := by
  obtain ⟨vs, h1, h2, h3⟩ := h
  exact ⟨vs, h1.frF h2 hf hd, h2, RgAt.frF hf hd h3⟩
theorem RdRg.below (h : RdRg F w a n c s) (hb : Below w.heap.size w w') : RdRg F w' a n c s := h.frF (Fr.of_below (fun _ => False) hb) (fun _ _ h => h)
theorem RdRg.mono (h : RdRg F w a n c s) (hg : ∀ k, F k → G k) : RdRg G w a n c s := by
  obtain ⟨vs, h1, h2, h3⟩ := h
  exact ⟨vs, h1, h2.mono hg, RgAt.mono hg h3⟩
theorem RdRg.get {i : Nat} {x : Rg} (h : RdRg F w a n c s) (hb : Below w.heap.size w W) (hx : s[i]? = some x) :
    ∃ b off ra rc, a = some ⟨b, off, none⟩ ∧ b < w.heap.size ∧ W.cell? ⟨b, off + i * 2, none⟩ = some (.int .i64 x.k) ∧ W.cell? ⟨b, off + i * 2 + 1, none⟩ = some (.slice ra x.L.length rc) ∧ RdL F W ra x.L.length rc x.L := by
  have hl := h.len
  have hi := (List.getElem?_eq_some_iff.1 hx).1
  obtain ⟨vs, h1, h2, h3⟩ := h
  obtain ⟨ra, rc, e0, e1, e3⟩ := h3.get hx
  obtain ⟨b, off, rfl, hbl, hc⟩ := h1.at_ (by omega)
  have c0 := hc _ _ e0
  have c1 := hc _ _ e1
  rw [← Nat.add_assoc] at c1
  exact ⟨b, off, ra, rc, rfl, hbl, (hb.cell (p := ⟨b, off + i * 2, none⟩) hbl).trans c0, (hb.cell (p := ⟨b, off + i * 2 + 1, none⟩) hbl).trans c1, e3.below hb⟩
theorem RdRg.none0 : RdRg F w none 0 0 [] := ⟨[], Rc.none0 w 2, InF.zero _ _, rfl⟩
end
theorem infoRg : (Try.prog.info? 31).map (fun i => (i.zero, i.size, i.bytes)) = some (some (.agg #[.int .i64 0, .slice none 0 0]), 2, 32) := by kernel_rfl
/-- one ahead of others -/
theorem rg_front (w : World) (F : Nat → Prop) (a : Option Addr) (n c : Nat) (s : List Rg) (r : Rg) (ra : Option Addr) (rc : Nat) (h : RdRg F w a n c s) (hr : RdL F w ra r.L.length rc r.L) (hn : n ≤ 1000) :
    ∃ a' c' w1, (∀ ty, (Builtin.append_ #[50, 50] ty #[.slice (some ⟨w.heap.size, 0, none⟩) 1 1, .slice a n c]).run Try.prog (w.alloc (.cells #[.int .i64 r.k, .slice ra r.L.length rc] 31)) = .ok (.slice a' (1 + n) c') w1) ∧ RdRg (fun k => F k ∨ w.heap.size ≤ k) w1 a' (1 + n) c' (r :: s) ∧ Below w.heap.size w w1 := by
  have hb0 : Below w.heap.size w (w.alloc (.cells #[.int .i64 r.k, .slice ra r.L.length rc] 31)) := (Below.refl _ w).alloc (Nat.le_refl _) _
  have hg := heap_alloc_new w (.cells #[.int .i64 r.k, .slice ra r.L.length rc] 31)
  have ho : (w.alloc (.cells #[.int .i64 r.k, .slice ra r.L.length rc] 31)).ownsRow w.heap.size 31 2 (.slice (some ⟨w.heap.size, 0, none⟩) 1 1) 1 [.int .i64 r.k, .slice ra r.L.length rc] := own_of hg (Nat.le_refl _) (Nat.le_refl _) (by unfold maxLen; omega) rfl
  obtain ⟨vs, k1, k2, k3⟩ := h
  have h1 := k1.below hb0
  have h3 : RgAt F _ s vs := RgAt.frF (Fr.of_below (fun _ => False) hb0) (fun _ _ h => h) k3
  obtain ⟨i0, hi0, hz0, hz1, hz2⟩ := info_parts infoRg
  obtain ⟨v', w1, hrun, hown1, hfr, hnear⟩ := run_append_own_k (P := Try.prog) (w.alloc (.cells #[.int .i64 r.k, .slice ra r.L.length rc] 31)) w.heap.size 50 31 i0 _ 2 32 Try.underlying50 hi0 hz0 hz1 hz2 rfl (by decide) (.slice (some ⟨w.heap.size, 0, none⟩) 1 1) 1 _ ho a n c vs h1.1
    (fun hp => h1.src hp) h3.one1 (by unfold maxLen; omega) (by omega) (by simp)
  obtain ⟨a', c', rfl⟩ := own_slice hown1
  have hfB : Below w.heap.size (w.alloc (.cells #[.int .i64 r.k, .slice ra r.L.length rc] 31)) w1 := hfr.below (by simp) (fun k e => (ho.lt k e.symm).1)
  have hb1 : Below w.heap.size w w1 := hb0.trans hfB
  have hr1 : RdL (fun k => F k ∨ w.heap.size ≤ k) w1 ra r.L.length rc r.L := (hr.below hb1).mono (fun k hk => .inl hk)
  have g3 : RgAt F w1 s vs := RgAt.frF (Fr.of_below (fun _ => False) hb1) (fun _ _ h => h) k3
  exact ⟨a', c', w1, hrun, ⟨_, Rc.own hown1, InF.own hown1 (fun k e => .inr (hown1.lt k e).1), ra, rc, vs, rfl, hr1, g3.mono (fun k hk => .inl hk)⟩, hb1⟩
end Go.Proofs.Ytleidcegbfnmkaa.U
