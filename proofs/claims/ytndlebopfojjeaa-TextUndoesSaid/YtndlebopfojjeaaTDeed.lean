/-
  Arguments of the laws of layer 4, opened: lines, a deed by value, a row of deeds; and how much they are.
-/
import Derived.Test.YtndlebopfojjeaaRows
import Derived.Test.YtndlebopfojjeaaTMem
import Derived.ChangeSlices
import Derived.ChangeSame
import Derived.Deep.Slices
import Derived.Deep.Fields
import Derived.Lib.SmallJoins
namespace Go.Proofs.Ytndlebopfojjeaa.U
open Go.RowKit Go.ChangeShapes Go.WideShapes Go.Deep
set_option linter.unusedVariables false
set_option linter.unusedSimpArgs false
set_option maxRecDepth 100000

/-- A slice as the frame opens it can be read. -/
theorem Rd_of_row {k : IntKind} {w : World} {a : Option Addr} {len cap : Nat} {zs : List Int}
    (h : (a = none ∧ len = 0 ∧ cap = 0 ∧ zs = []) ∨ ∃ x, a = some x ∧ len ≤ cap ∧ cap ≤ maxLen ∧ zs.length = cap ∧ (∀ i, i < zs.length → w.cell? (x.add i) = some (.int k (zs.getD i 0))) ∧ ∀ n ∈ zs, (Lit.int k n).wf = true) :
    Rd k w a len cap (zs.take len) := by
  rcases h with ⟨rfl, rfl, rfl, rfl⟩ | ⟨x, rfl, hl, hm, hz, hc, hw⟩
  · exact Rd.none0 _ _
  · refine ⟨by rw [List.length_take]; omega, hl, hm, fun y hy => hw y (List.mem_of_mem_take hy), (fun h => by cases h), fun hp => ?_⟩
    obtain ⟨b, off, spot⟩ := x
    have h0 := hc 0 (by omega)
    have hspot : spot = none := by simpa [Addr.add] using World.cell?_spot h0
    subst hspot
    refine ⟨b, off, rfl, fun i hi => ?_⟩
    have h1 := hc i (by omega)
    have he : (⟨b, off, none⟩ : Addr).add i = ⟨b, off + i, none⟩ := by
      by_cases h0 : i = 0
      · subst h0; rfl
      · simp [Addr.add]; intro hj; exact absurd hj h0
    rw [he] at h1
    rw [h1]
    simp [List.getD_eq_getElem?_getD, List.getElem?_take, hi]
/-- what is read lies in the heap -/
theorem Rd.inHeap {k : IntKind} {w : World} {a : Option Addr} {len cap : Nat} {xs : List Int} (h : Rd k w a len cap xs) : InF (fun k => k < w.heap.size) a len := by
  intro hp ad e
  obtain ⟨b, off, e2, hc⟩ := h.2.2.2.2.2 hp
  rw [e] at e2
  cases e2
  exact block_lt_of_cell (hc 0 hp)

section
variable {H : Type} {enc : TypeId × Value → H} {w : World} {base : Nat} {held : Bool}
theorem bulk_all (l : List (DataW H)) : l.length ≤ Rows.uptoBulkAll l := by
  induction l with
  | nil => simp [Rows.uptoBulkAll]
  | cons x r ih =>
    have h1 : 1 ≤ Rows.uptoBulk x := by
      cases x with
      | lit l => cases l <;> simp [Rows.uptoBulk]
      | nil => simp [Rows.uptoBulk]
      | ptr d => simp [Rows.uptoBulk]
      | slice elems spare => simp [Rows.uptoBulk]
      | agg parts => simp [Rows.uptoBulk]
      | iface t d => simp [Rows.uptoBulk]
      | map entries => simp [Rows.uptoBulk]
      | held h => simp [Rows.uptoBulk]
    simp only [Rows.uptoBulkAll, List.length_cons]; omega
theorem bulk_mem {l : List (DataW H)} {d : DataW H} (h : d ∈ l) : Rows.uptoBulk d ≤ Rows.uptoBulkAll l := by
  induction l with
  | nil => cases h
  | cons x r ih =>
    simp only [Rows.uptoBulkAll]
    rcases List.mem_cons.1 h with rfl | h
    · omega
    · have := ih h; omega
/-- a row of runes in a cell -/
theorem open_L {m : Nat} {v : Value} {y : DataW H × List MemPlace} (h : DataW.trod enc Try.prog w base (fun _ => true) held m 31 [v] = some y) :
    ∃ a len cap zs, v = .slice a len cap ∧ Rd .i32 w a len cap zs ∧ len + 1 ≤ Rows.uptoBulk y.1 := by
  rcases open_ints Try.underlying31 Try.underlying21 (by kernel_rfl) h with ⟨hcs, hx⟩ | ⟨x, l, c, zs, hcs, _, hl, hm, hz, hx, hcell, hwz⟩
  · simp at hcs
    exact ⟨none, 0, 0, [], hcs, Rd.none0 _ _, by rw [hx]; simp [Rows.uptoBulk]⟩
  · simp at hcs
    refine ⟨some x, l, c, zs.take l, hcs, Rd_of_row (.inr ⟨_, rfl, hl, hm, by simpa using hz, hcell, hwz⟩), ?_⟩
    rw [hx]
    have h1 := bulk_all (H := H) (lits .i32 (zs.take l))
    have hz' : zs.length = c := by simpa using hz
    simp only [lits, List.length_map, List.length_take] at h1
    simp only [Rows.uptoBulk, lits]
    omega
theorem bulk_lines {X : Nat → List Int} {D : Nat → DataW H} : ∀ (l : List Nat), (∀ i ∈ l, (X i).length + 1 ≤ Rows.uptoBulk (D i)) → sizeN (lens (l.map X)) ≤ Rows.uptoBulkAll (l.map D)
  | [], _ => by simp [lens, sizeN_nil]
  | i :: r, h => by
    have h1 := h i (by simp)
    have h2 := bulk_lines r (fun j hj => h j (by simp [hj]))
    simp only [lens, List.map_cons, sizeN_cons, Rows.uptoBulkAll] at h2 ⊢
    omega
/-- lines in a cell -/
theorem open_lines {m : Nat} {v : Value} {y : DataW H × List MemPlace} (h : DataW.trod enc Try.prog w base (fun _ => true) held m 22 [v] = some y) :
    ∃ a len cap L, v = .slice a len cap ∧ RdL (fun k => k < w.heap.size) w a len cap L ∧ sizeN (lens L) + 1 ≤ Rows.uptoBulk y.1 := by
  rcases open_slice1 Try.underlying22 (by kernel_rfl) h with ⟨hcs, hx⟩ | ⟨ad, len, cap, mm, n, V, D, Pl, hcs, _, hl, hm, hmm, hx, hi⟩
  · simp at hcs
    exact ⟨none, 0, 0, [], hcs, RdL.none0 _ _, by rw [hx]; simp [Rows.uptoBulk, lens, sizeN_nil]⟩
  · simp at hcs
    simp at hmm
    have one : ∀ i, i < len → ∃ x : List Int, (∃ ra rc, V i = .slice ra x.length rc ∧ Rd .i32 w ra x.length rc x) ∧ x.length + 1 ≤ Rows.uptoBulk (D i) := by
      intro i hlt
      obtain ⟨ra, n', rc, zs, e1, e2, e3⟩ := open_L (hi i (by omega)).2
      have e4 := e2.1
      subst e4
      exact ⟨zs, ⟨ra, rc, e1, e2⟩, e3⟩
    obtain ⟨X, hX⟩ : ∃ X : Nat → List Int, ∀ i, i < len → (∃ ra rc, V i = .slice ra (X i).length rc ∧ Rd .i32 w ra (X i).length rc (X i)) ∧ (X i).length + 1 ≤ Rows.uptoBulk (D i) := by
      refine ⟨fun i => if h : i < len then Classical.choose (one i h) else [], fun i h => ?_⟩
      simp only [h, ↓reduceDIte]
      exact Classical.choose_spec (one i h)
    refine ⟨some ad, len, cap, (List.range len).map X, hcs, ⟨(List.range len).map V, ⟨by simp, hl, hm, (fun e => by cases e), fun hp => ?_⟩, ?_, by simp, fun i x hx => ?_⟩, ?_⟩
    · obtain ⟨b, off, spot⟩ := ad
      have h0 := (hi 0 (by omega)).1
      have hspot : spot = none := by simpa [Addr.add] using World.cell?_spot h0
      subst hspot
      have he : ∀ j, (⟨b, off, none⟩ : Addr).add j = ⟨b, off + j, none⟩ := by
        intro j
        by_cases h0 : j = 0
        · subst h0; rfl
        · simp [Addr.add]; intro hj; exact absurd hj h0
      rw [he] at h0
      refine ⟨b, off, rfl, block_lt_of_cell h0, fun j u hu => ?_⟩
      have hj := (List.getElem?_eq_some_iff.1 hu).1
      simp only [List.length_map, List.length_range] at hj
      have h1 := (hi j (by omega)).1
      rw [he] at h1
      rw [h1]
      simpa [List.getElem?_map, List.getElem?_range hj] using hu
    · intro hp a0 e
      cases e
      have h0 := (hi 0 (by omega)).1
      obtain ⟨b, off, spot⟩ := ad
      have hspot : spot = none := by simpa [Addr.add] using World.cell?_spot h0
      subst hspot
      have he : (⟨b, off, none⟩ : Addr).add 0 = ⟨b, off, none⟩ := rfl
      rw [he] at h0
      exact block_lt_of_cell h0
    · have hl2 := (List.getElem?_eq_some_iff.1 hx).1
      simp only [List.length_map, List.length_range] at hl2
      have hxe : X i = x := by simpa [List.getElem?_map, List.getElem?_range hl2] using hx
      obtain ⟨⟨ra, rc, e1, e2⟩, _⟩ := hX i hl2
      rw [hxe] at e1 e2
      exact ⟨ra, rc, by simp [List.getElem?_map, List.getElem?_range hl2, e1], e2, e2.inHeap⟩
    · rw [hx]
      have := bulk_lines (X := X) (D := D) (List.range len) (fun i hi => (hX i (by simpa using hi)).2)
      simp only [Rows.uptoBulk]
      omega

/-- a deed, as a value of 8 cells -/
def IsDeed (w : World) (Bk : Nat) (cs : List Value) : Prop :=
  ∃ (kd n p q r s : Int) (a : Option Addr) (len cap : Nat) (L : List Int) (b : Option Addr) (m c : Nat) (M : List (List Int)), cs = [.int .i64 kd, .int .i64 n, .int .i64 p, .int .i64 q, .int .i64 r, .int .i64 s, .slice a len cap, .slice b m c] ∧
    (i64b kd ∧ i64b n ∧ i64b p ∧ i64b q ∧ i64b r ∧ i64b s) ∧ Rd .i32 w a len cap L ∧ RdL (fun k => k < w.heap.size) w b m c M ∧ sizeN (lens M) ≤ Bk
theorem eight {l : List Value} (h : l.length = 8) : ∃ a b c d e f g i, l = [a, b, c, d, e, f, g, i] := by
  match l, h with
  | [a, b, c, d, e, f, g, i], _ => exact ⟨a, b, c, d, e, f, g, i, rfl⟩
theorem six {α : Type} {l : List α} (h : l.length = 6) : ∃ a b c d e f, l = [a, b, c, d, e, f] := by
  match l, h with
  | [a, b, c, d, e, f], _ => exact ⟨a, b, c, d, e, f, rfl⟩
theorem two {α : Type} {l : List α} (h : l.length = 2) : ∃ a b, l = [a, b] := by
  match l, h with
  | [a, b], _ => exact ⟨a, b, rfl⟩
theorem pos_of {m : Nat} {v0 v1 : Value} {y : DataW H × List MemPlace} (h : DataW.trod enc Try.prog w base (fun _ => true) held m 30 [v0, v1] = some y) : ∃ p q, v0 = .int .i64 p ∧ v1 = .int .i64 q ∧ i64b p ∧ i64b q := by
  obtain ⟨ys, n', _, _, _, hyl, hf⟩ := DataW.trod_struct Try.underlying30 h
  obtain ⟨y0, y1, rfl⟩ := two (l := ys) hyl
  have g0 : DataW.trod enc Try.prog w base (fun _ => true) held n' 3 [v0] = some y0 := hf 0 _ rfl
  have g1 : DataW.trod enc Try.prog w base (fun _ => true) held n' 3 [v1] = some y1 := hf 1 _ rfl
  obtain ⟨p, e0, _, w0⟩ := DataW.trod_int Try.underlying3 g0
  obtain ⟨q, e1, _, w1⟩ := DataW.trod_int Try.underlying3 g1
  simp at e0 e1
  exact ⟨p, q, e0, e1, wf_i64b w0, wf_i64b w1⟩
theorem deed_of {m : Nat} {cs : List Value} {y : DataW H × List MemPlace} (h : DataW.trod enc Try.prog w base (fun _ => true) held m 33 cs = some y) : IsDeed w (Rows.uptoBulk y.1) cs := by
  have hC : Try.prog.cellsOf 33 = 8 := by kernel_rfl
  obtain ⟨ys, n', _, hy, hcl, hyl, hf⟩ := DataW.trod_struct Try.underlying33 h
  rw [hC] at hcl
  obtain ⟨v0, v1, v2, v3, v4, v5, v6, v7, rfl⟩ := eight hcl
  obtain ⟨y0, y1, y2, y3, y4, y5, rfl⟩ := six (l := ys) hyl
  have g0 : DataW.trod enc Try.prog w base (fun _ => true) held n' 3 [v0] = some y0 := hf 0 _ rfl
  have g1 : DataW.trod enc Try.prog w base (fun _ => true) held n' 3 [v1] = some y1 := hf 1 _ rfl
  have g2 : DataW.trod enc Try.prog w base (fun _ => true) held n' 30 [v2, v3] = some y2 := hf 2 _ rfl
  have g3 : DataW.trod enc Try.prog w base (fun _ => true) held n' 30 [v4, v5] = some y3 := hf 3 _ rfl
  have g4 : DataW.trod enc Try.prog w base (fun _ => true) held n' 31 [v6] = some y4 := hf 4 _ rfl
  have g5 : DataW.trod enc Try.prog w base (fun _ => true) held n' 22 [v7] = some y5 := hf 5 _ rfl
  obtain ⟨kd, e0, _, w0⟩ := DataW.trod_int Try.underlying3 g0
  obtain ⟨n, e1, _, w1⟩ := DataW.trod_int Try.underlying3 g1
  obtain ⟨p, q, rfl, rfl, i2, i3⟩ := pos_of g2
  obtain ⟨r, s, rfl, rfl, i4, i5⟩ := pos_of g3
  obtain ⟨a, len, cap, L, rfl, hL, _⟩ := open_L g4
  obtain ⟨b, mm, c, M, rfl, hM, hs⟩ := open_lines g5
  simp at e0 e1
  subst e0 e1
  refine ⟨kd, n, p, q, r, s, a, len, cap, L, b, mm, c, M, rfl, ⟨wf_i64b w0, wf_i64b w1, i2, i3, i4, i5⟩, hL, hM, ?_⟩
  rw [hy]
  have := bulk_mem (l := [y0.1, y1.1, y2.1, y3.1, y4.1, y5.1]) (d := y5.1) (by simp)
  simp only [Rows.uptoBulk, List.map_cons, List.map_nil]
  omega
/-- .. as arguments -/
theorem open_deed {r : Reach} {b0 : Nat} {v : Value} {d : DataW H} {p : List MemPlace} (hv : Value.okWide Try.prog w r b0 33 v) (h : DataW.Trod enc Try.prog w base (fun _ => true) held 33 v d p) :
    ∃ cs : List Value, v = .agg cs.toArray ∧ IsDeed w (Rows.uptoBulk d) cs := by
  obtain ⟨cs, rfl, hsz⟩ := okWide_struct Try.underlying33 hv
  obtain ⟨fuel, hf⟩ := h
  exact ⟨cs.toList, by simp, deed_of (y := (d, p)) (by simpa [Value.cells] using hf)⟩
theorem open_lines_arg {r : Reach} {b0 : Nat} {v : Value} {d : DataW H} {p : List MemPlace} (hv : Value.okWide Try.prog w r b0 22 v) (h : DataW.Trod enc Try.prog w base (fun _ => true) held 22 v d p) :
    ∃ a len cap L, v = .slice a len cap ∧ RdL (fun k => k < w.heap.size) w a len cap L ∧ sizeN (lens L) + 1 ≤ Rows.uptoBulk d := by
  obtain ⟨a, len, cap, rfl⟩ := okWide_slice Try.underlying22 hv
  obtain ⟨fuel, hf⟩ := h
  exact open_lines (y := (d, p)) (by simpa [Value.cells] using hf)
end

theorem IsDeed.below {w w' : World} {Bk : Nat} {cs : List Value} (h : IsDeed w Bk cs) (hb : Below w.heap.size w w') : IsDeed w' Bk cs := by
  obtain ⟨kd, n, p, q, r, s, a, len, cap, L, b, m, c, M, h1, h2, h3, h4, h5⟩ := h
  exact ⟨kd, n, p, q, r, s, a, len, cap, L, b, m, c, M, h1, h2, h3.below hb, (h4.below hb).mono (fun k hk => by have := hb.size; omega), h5⟩
end Go.Proofs.Ytndlebopfojjeaa.U
