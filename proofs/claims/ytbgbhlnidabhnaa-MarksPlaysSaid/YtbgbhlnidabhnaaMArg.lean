/-
  Arguments of the laws of layer 6: a place, a change within the reach.
-/
import Derived.Test.YtbgbhlnidabhnaaMAwk
import Derived.SizedLaws
namespace Go.Proofs.Ytbgbhlnidabhnaa.U
open Go.RowKit Go.ChangeShapes Go.WideShapes Go.Deep
set_option linter.unusedVariables false
set_option linter.unusedSimpArgs false
set_option maxRecDepth 100000

/-- a change that was handed in, its rows within the reach -/
def IsChW (w : World) (u : Tri) (c : Ch) : Prop := IsCh w u c ∧ c.old.length ≤ 35184372088832 ∧ c.now.length ≤ 35184372088832
theorem IsChW.below {w w' : World} {u : Tri} {c : Ch} (h : IsChW w u c) (hb : Below w.heap.size w w') : IsChW w' u c := ⟨h.1.below hb, h.2⟩
theorem twoL {α : Type} {l : List α} (h : l.length = 2) : ∃ a b, l = [a, b] := by
  match l, h with
  | [a, b], _ => exact ⟨a, b, rfl⟩
section
variable {H : Type} {enc : TypeId × Value → H} {w : World} {base : Nat} {held : Bool}
theorem bytesS : Try.prog.bytesOf 52 = 24 := by kernel_rfl
/-- a row of rows that was handed in is not too long -/
theorem lines_count {m : Nat} {v : Value} {y : DataW H × List MemPlace} (h : DataW.trod enc Try.prog w base (fun _ => true) held m 24 [v] = some y) (hL : Lite 24 y.1) {a : Option Addr} {len cap : Nat} (hv : v = .slice a len cap) : len ≤ 35184372088832 := by
  rcases open_slice1 Try.underlying24 (by kernel_rfl) h with ⟨hcs, hx⟩ | ⟨ad, l, c, mm, n, V, D, Pl, hcs, _, hl, hm, hmm, hx, hi⟩
  · simp at hcs
    rw [hv] at hcs
    simp at hcs
    omega
  · simp at hcs
    simp at hmm
    rw [hv] at hcs
    simp at hcs
    rw [hx] at hL
    have h1 := hL ((((List.range l).map D).length + ((List.range (mm - l)).map fun j => D (l + j)).length) * Try.prog.bytesOf 52) (by simp [DataW.weights, Try.underlying24])
    rw [bytesS] at h1
    simp only [List.length_map, List.length_range, reachBytes] at h1
    omega
theorem po_of {m : Nat} {cs : List Value} {y : DataW H × List MemPlace} (h : DataW.trod enc Try.prog w base (fun _ => true) held m 23 cs = some y) : ∃ q : Po, cs = q.cells ∧ i64p q := by
  have hC : Try.prog.cellsOf 23 = 2 := by kernel_rfl
  obtain ⟨ys, n', _, hy, hcl, hyl, hf⟩ := DataW.trod_struct Try.underlying23 h
  rw [hC] at hcl
  obtain ⟨v0, v1, rfl⟩ := twoL hcl
  obtain ⟨y0, y1, rfl⟩ := twoL (l := ys) hyl
  have g0 : DataW.trod enc Try.prog w base (fun _ => true) held n' 3 [v0] = some y0 := hf 0 _ rfl
  have g1 : DataW.trod enc Try.prog w base (fun _ => true) held n' 3 [v1] = some y1 := hf 1 _ rfl
  obtain ⟨p, e0, _, w0⟩ := DataW.trod_int Try.underlying3 g0
  obtain ⟨r, e1, _, w1⟩ := DataW.trod_int Try.underlying3 g1
  simp at e0 e1
  subst e0 e1
  exact ⟨⟨p, r⟩, rfl, wf_i64b w0, wf_i64b w1⟩
theorem open_pos {r : Reach} {b0 : Nat} {v : Value} {d : DataW H} {p : List MemPlace} (hv : Value.okWide Try.prog w r b0 23 v) (h : DataW.Trod enc Try.prog w base (fun _ => true) held 23 v d p) :
    ∃ q : Po, v = q.v ∧ i64p q := by
  obtain ⟨cs, rfl, hsz⟩ := okWide_struct Try.underlying23 hv
  obtain ⟨fuel, hf⟩ := h
  obtain ⟨q, e, hc⟩ := po_of (y := (d, p)) (cs := cs.toList) (by simpa [Value.cells] using hf)
  refine ⟨q, ?_, hc⟩
  unfold Po.v
  congr 1
  apply Array.toList_inj.1
  rw [e]
  rfl
theorem changeW_of {m : Nat} {cs : List Value} {y : DataW H × List MemPlace} (h : DataW.trod enc Try.prog w base (fun _ => true) held m 26 cs = some y) (hL : Lite 26 y.1) : ∃ u c, cs = triL u ∧ IsChW w u c := by
  obtain ⟨u, c, hu, hc⟩ := change_ofW h hL
  refine ⟨u, c, hu, hc, ?_⟩
  have hC : Try.prog.cellsOf 26 = 3 := by kernel_rfl
  obtain ⟨ys, n', _, hy, hcl, hyl, hf⟩ := DataW.trod_struct Try.underlying26 h
  obtain ⟨oa, oc, na, nc, rfl, _, _⟩ := hc.1
  subst hu
  obtain ⟨y0, y1, y2, rfl⟩ := three (l := ys) hyl
  have g1 : DataW.trod enc Try.prog w base (fun _ => true) held n' 24 [.slice oa c.old.length oc] = some y1 := hf 1 _ rfl
  have g2 : DataW.trod enc Try.prog w base (fun _ => true) held n' 24 [.slice na c.now.length nc] = some y2 := hf 2 _ rfl
  rw [hy] at hL
  have l1 : Lite 24 y1.1 := fun x hx => hL x (by
    simp only [DataW.weights, Try.underlying26]
    exact DataW.weights_mem_each (j := 1) (t := 24) (d := y1.1) rfl rfl x hx)
  have l2 : Lite 24 y2.1 := fun x hx => hL x (by
    simp only [DataW.weights, Try.underlying26]
    exact DataW.weights_mem_each (j := 2) (t := 24) (d := y2.1) rfl rfl x hx)
  exact ⟨lines_count g1 l1 rfl, lines_count g2 l2 rfl⟩
theorem open_changeW {r : Reach} {b0 : Nat} {v : Value} {d : DataW H} {p : List MemPlace} (hv : Value.okWide Try.prog w r b0 26 v) (h : DataW.Trod enc Try.prog w base (fun _ => true) held 26 v d p) (hL : Lite 26 d) :
    ∃ u c, v = .agg #[u.1, u.2.1, u.2.2] ∧ IsChW w u c := by
  obtain ⟨cs, rfl, hsz⟩ := okWide_struct Try.underlying26 hv
  obtain ⟨fuel, hf⟩ := h
  obtain ⟨u, c, e, hc⟩ := changeW_of (y := (d, p)) (cs := cs.toList) (by simpa [Value.cells] using hf) hL
  refine ⟨u, c, ?_, hc⟩
  congr 1
  apply Array.toList_inj.1
  rw [e]
  rfl
end
end Go.Proofs.Ytbgbhlnidabhnaa.U
