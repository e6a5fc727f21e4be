/-
  Registers in memory: a row of named ones, the document's box; Twin of what a register holds.
-/
import Derived.Test.YtleidcegbfnmkaaGPure
namespace Go.Proofs.Ytleidcegbfnmkaa.U
open Go.RowKit
set_option linter.unusedVariables false
set_option linter.unusedSimpArgs false
set_option maxRecDepth 100000

theorem results_cell1 {fn : Func} {p : Tmp} {ty : TypeId} (h : fn.results = #[.cell p ty]) (tmps : Array Value) (P : Program) (w : World) :
    (results fn tmps).run P w = ((asAddr (tmps.getD p undef)).run P w).andThen fun a w₁ => (loadVar ty a).run P w₁ := by
  simp only [results, h]
  simp [Sem.run_bind, Result.andThen]
theorem src_of {w : World} {g : Nat} {cur : List Value} {t : TypeId} (h : w.heap[g]? = some (.cells cur.toArray t (0, 0))) (off m : Nat) : ∀ j v, ((cur.drop off).take m)[j]? = some v → w.cell? ((⟨g, off, none⟩ : Addr).add j) = some v := by
  intro j v hv
  rw [List.getElem?_take] at hv
  split at hv
  · rw [List.getElem?_drop] at hv
    rw [add_lit, cell_row h]
    simpa using hv
  · cases hv
/-- cells that are named registers -/
def NmAt (F : Nat → Prop) (w : World) : List Nm → List Value → Prop
  | [], vs => vs = []
  | x :: s, vs => ∃ ra rc us, vs = .int .i32 x.1 :: .int .i64 x.2.k :: .slice ra x.2.L.length rc :: us ∧ RdL F w ra x.2.L.length rc x.2.L ∧ NmAt F w s us
theorem NmAt.frF {F G : Nat → Prop} {w w' : World} (hf : Fr G w w') (hd : ∀ k, F k → ¬ G k) : ∀ {s : List Nm} {vs : List Value}, NmAt F w s vs → NmAt F w' s vs
  | [], _, h => h
  | x :: s, _, ⟨ra, rc, us, h1, h2, h3⟩ => ⟨ra, rc, us, h1, h2.frF hf hd, NmAt.frF hf hd h3⟩
theorem NmAt.below {F : Nat → Prop} {w w' : World} {s : List Nm} {vs : List Value} (h : NmAt F w s vs) (hb : Below w.heap.size w w') : NmAt F w' s vs := NmAt.frF (Fr.of_below (fun _ => False) hb) (fun _ _ h => h) h
theorem NmAt.mono {F G : Nat → Prop} {w : World} (hg : ∀ k, F k → G k) : ∀ {s : List Nm} {vs : List Value}, NmAt F w s vs → NmAt G w s vs
  | [], _, h => h
  | x :: s, _, ⟨ra, rc, us, h1, h2, h3⟩ => ⟨ra, rc, us, h1, h2.mono hg, NmAt.mono hg h3⟩
theorem NmAt.len {F : Nat → Prop} {w : World} : ∀ {s : List Nm} {vs : List Value}, NmAt F w s vs → vs.length = s.length * 3
  | [], _, h => by rw [h]; rfl
  | x :: s, _, ⟨ra, rc, us, h1, h2, h3⟩ => by rw [h1]; simp only [List.length_cons, NmAt.len h3]; omega
theorem NmAt.one1 {F : Nat → Prop} {w : World} : ∀ {s : List Nm} {vs : List Value}, NmAt F w s vs → ∀ u ∈ vs, u.oneCell' = true
  | [], _, h, u, hu => by rw [h] at hu; cases hu
  | x :: s, _, ⟨ra, rc, us, h1, h2, h3⟩, u, hu => by
    rw [h1] at hu
    simp only [List.mem_cons] at hu
    rcases hu with rfl | rfl | rfl | hu
    · rfl
    · rfl
    · rfl
    · exact NmAt.one1 h3 u hu
theorem NmAt.append {F : Nat → Prop} {w : World} : ∀ {s t : List Nm} {vs us : List Value}, NmAt F w s vs → NmAt F w t us → NmAt F w (s ++ t) (vs ++ us)
  | [], _, _, _, h, k => by rw [h]; exact k
  | x :: s, _, _, _, ⟨ra, rc, us, h1, h2, h3⟩, k => ⟨ra, rc, _, by rw [h1]; rfl, h2, NmAt.append h3 k⟩
theorem NmAt.one {F : Nat → Prop} {w : World} {m : Int} {r : Rg} {ra : Option Addr} {rc : Nat} (h : RdL F w ra r.L.length rc r.L) : NmAt F w [(m, r)] [.int .i32 m, .int .i64 r.k, .slice ra r.L.length rc] := ⟨ra, rc, [], rfl, h, rfl⟩
theorem NmAt.get {F : Nat → Prop} {w : World} : ∀ {s : List Nm} {vs : List Value} {i : Nat} {x : Nm}, NmAt F w s vs → s[i]? = some x →
    ∃ ra rc, vs[i * 3]? = some (.int .i32 x.1) ∧ vs[i * 3 + 1]? = some (.int .i64 x.2.k) ∧ vs[i * 3 + 2]? = some (.slice ra x.2.L.length rc) ∧ RdL F w ra x.2.L.length rc x.2.L
  | [], _, _, _, _, hx => by simp at hx
  | y :: s, _, 0, x, ⟨ra, rc, us, h1, h2, h3⟩, hx => by
    simp only [List.getElem?_cons_zero, Option.some.injEq] at hx
    subst hx
    exact ⟨ra, rc, by rw [h1]; rfl, by rw [h1]; rfl, by rw [h1]; rfl, h2⟩
  | y :: s, _, i + 1, x, ⟨ra, rc, us, h1, h2, h3⟩, hx => by
    simp only [List.getElem?_cons_succ] at hx
    obtain ⟨ra, rc, e0, e1, e2, e3⟩ := NmAt.get h3 hx
    refine ⟨ra, rc, ?_, ?_, ?_, e3⟩
    · rw [h1, show (i + 1) * 3 = i * 3 + 3 by omega]; simpa using e0
    · rw [h1, show (i + 1) * 3 + 1 = i * 3 + 1 + 3 by omega]; simpa using e1
    · rw [h1, show (i + 1) * 3 + 2 = i * 3 + 2 + 3 by omega]; simpa using e2
/-- a row of named registers that can be read -/
def RdN (F : Nat → Prop) (w : World) (a : Option Addr) (n c : Nat) (s : List Nm) : Prop := ∃ vs, Rc w a n c 3 vs ∧ InF F a n ∧ NmAt F w s vs
theorem RdN.len {F : Nat → Prop} {w : World} {a : Option Addr} {n c : Nat} {s : List Nm} (h : RdN F w a n c s) : s.length = n := by
  obtain ⟨vs, h1, _, h3⟩ := h
  have := h1.1
  have := h3.len
  omega
theorem RdN.small {F : Nat → Prop} {w : World} {a : Option Addr} {n c : Nat} {s : List Nm} (h : RdN F w a n c s) : n ≤ 9223372036854775807 := by obtain ⟨vs, h1, _⟩ := h; exact h1.small
theorem RdN.none0 (F : Nat → Prop) (w : World) : RdN F w none 0 0 [] := ⟨[], Rc.none0 w 3, InF.zero _ _, rfl⟩
theorem RdN.frF {F G : Nat → Prop} {w w' : World} {a : Option Addr} {n c : Nat} {s : List Nm} (h : RdN F w a n c s) (hf : Fr G w w') (hd : ∀ k, F k → ¬ G k) : RdN F w' a n c s := by
  obtain ⟨vs, h1, h2, h3⟩ := h
  exact ⟨vs, h1.frF h2 hf hd, h2, NmAt.frF hf hd h3⟩
theorem RdN.below {F : Nat → Prop} {w w' : World} {a : Option Addr} {n c : Nat} {s : List Nm} (h : RdN F w a n c s) (hb : Below w.heap.size w w') : RdN F w' a n c s := h.frF (Fr.of_below (fun _ => False) hb) (fun _ _ h => h)
theorem RdN.mono {F G : Nat → Prop} {w : World} {a : Option Addr} {n c : Nat} {s : List Nm} (h : RdN F w a n c s) (hg : ∀ k, F k → G k) : RdN G w a n c s := by
  obtain ⟨vs, h1, h2, h3⟩ := h
  exact ⟨vs, h1, h2.mono hg, NmAt.mono hg h3⟩
theorem RdN.get {F : Nat → Prop} {w W : World} {a : Option Addr} {n c i : Nat} {s : List Nm} {x : Nm} (h : RdN F w a n c s) (hb : Below w.heap.size w W) (hx : s[i]? = some x) :
    ∃ b off ra rc, a = some ⟨b, off, none⟩ ∧ b < w.heap.size ∧ F b ∧ W.cell? ⟨b, off + i * 3, none⟩ = some (.int .i32 x.1) ∧ W.cell? ⟨b, off + i * 3 + 1, none⟩ = some (.int .i64 x.2.k) ∧ W.cell? ⟨b, off + i * 3 + 2, none⟩ = some (.slice ra x.2.L.length rc) ∧ RdL F W ra x.2.L.length rc x.2.L := by
  have hl := h.len
  have hi := (List.getElem?_eq_some_iff.1 hx).1
  obtain ⟨vs, h1, h2, h3⟩ := h
  obtain ⟨ra, rc, e0, e1, e2, e3⟩ := h3.get hx
  obtain ⟨b, off, rfl, hbl, hc⟩ := h1.at_ (by omega)
  have c0 := hc _ _ e0
  have c1 := hc _ _ e1
  have c2 := hc _ _ e2
  rw [← Nat.add_assoc] at c1 c2
  exact ⟨b, off, ra, rc, rfl, hbl, h2.at_ (by omega) rfl, (hb.cell (p := ⟨b, off + i * 3, none⟩) hbl).trans c0, (hb.cell (p := ⟨b, off + i * 3 + 1, none⟩) hbl).trans c1, (hb.cell (p := ⟨b, off + i * 3 + 2, none⟩) hbl).trans c2, e3.below hb⟩
theorem infoNm : (Try.prog.info? 47).map (fun i => (i.zero, i.size, i.bytes)) = some (some (.agg #[.int .i32 0, .int .i64 0, .slice none 0 0]), 3, 40) := by kernel_rfl
/-- append a named register that has just been laid -/
theorem app_nm (w : World) (B : Nat) (v : Value) (n : Nat) (s : List Nm) (vs : List Value) (m : Int) (r : Rg) (ra : Option Addr) (rc : Nat) (F : Nat → Prop) (hown : w.ownsRow B 47 3 v n vs) (hs : NmAt F w s vs) (hF : ∀ k, F k → v.ownBlock ≠ some k) (hr : RdL F w ra r.L.length rc r.L) (hB : B ≤ w.heap.size) (hn : n ≤ 1000) :
    ∃ a' c' w' us, (∀ ty, (Builtin.append_ #[26, 26] ty #[v, .slice (some ⟨w.heap.size, 0, none⟩) 1 1]).run Try.prog (w.alloc (.cells #[.int .i32 m, .int .i64 r.k, .slice ra r.L.length rc] 47)) = .ok (.slice a' (n + 1) c') w') ∧ w'.ownsRow B 47 3 (.slice a' (n + 1) c') (n + 1) us ∧ NmAt F w' (s ++ [(m, r)]) us ∧ Below B w w' ∧ Fr (fun k => v.ownBlock = some k) w w' ∧ (∀ k, (Value.slice a' (n + 1) c').ownBlock = some k → v.ownBlock = some k ∨ w.heap.size ≤ k) := by
  obtain ⟨i0, hi0, hz0, hz1, hz2⟩ := info_parts infoNm
  have hb0 : Below w.heap.size w (w.alloc (.cells #[.int .i32 m, .int .i64 r.k, .slice ra r.L.length rc] 47)) := (Below.refl _ w).alloc (Nat.le_refl _) _
  obtain ⟨v', w1, hrun, hown1, hfr, hnear⟩ := run_append_own_k (P := Try.prog) (w.alloc (.cells #[.int .i32 m, .int .i64 r.k, .slice ra r.L.length rc] 47)) B 26 47 i0 _ 3 40 Try.underlying26 hi0 hz0 hz1 hz2 rfl (by decide) v n _ (hown.alloc _) (some ⟨w.heap.size, 0, none⟩) 1 1 [.int .i32 m, .int .i64 r.k, .slice ra r.L.length rc] rfl
    (fun _ => ⟨_, rfl, src_of (off := 0) (m := 3) (cur := [.int .i32 m, .int .i64 r.k, .slice ra r.L.length rc]) (heap_alloc_new w _)⟩) (fun u hu => (NmAt.one (m := m) hr).one1 u hu) (by unfold maxLen; omega) (by omega) (by simp; omega)
  obtain ⟨a', c', rfl⟩ := own_slice hown1
  have hfr2 : Fr (fun k => v.ownBlock = some k) w w1 := (Fr.of_below _ hb0).trans (hfr.mono (fun y _ e => e.symm)) (fun _ _ h => h)
  refine ⟨a', c', w1, _, hrun, hown1, NmAt.append (NmAt.frF hfr2 hF hs) (NmAt.one (hr.frF hfr2 hF)), (hb0.mono hB).trans (hfr.below (by simp; omega) (fun k e => (hown.lt k e.symm).1)), hfr2, fun k e => ?_⟩
  rcases hnear with h | h
  · exact .inl (h ▸ e)
  · rw [h] at e
    simp only [Option.some.injEq, World.alloc] at e
    right
    subst e
    simp
end Go.Proofs.Ytleidcegbfnmkaa.U
