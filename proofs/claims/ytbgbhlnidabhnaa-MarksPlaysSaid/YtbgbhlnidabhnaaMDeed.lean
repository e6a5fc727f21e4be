/-
  Deeds of layer 6 as arguments: one of seven cells; a row of them.
-/
import Derived.Test.YtbgbhlnidabhnaaMArg
namespace Go.Proofs.Ytbgbhlnidabhnaa.U
open Go.RowKit Go.ChangeShapes Go.WideShapes Go.Deep
set_option linter.unusedVariables false
set_option linter.unusedSimpArgs false
set_option maxRecDepth 100000

/-- what is known of a deed that was handed in -/
def KnD (w : World) (kd r : Int) (q : Po) (u : Tri) (c : Ch) : Prop := i64b kd ∧ (Lit.int .i32 r).wf = true ∧ i64p q ∧ IsChW w u c
/-- a deed, in seven cells -/
def IsD6 (w : World) (cs : List Value) : Prop := ∃ (kd r : Int) (q : Po) (u : Tri) (c : Ch), cs = [.int .i64 kd, .int .i32 r, .int .i64 q.l, .int .i64 q.c, u.1, u.2.1, u.2.2] ∧ KnD w kd r q u c
/-- a row of things of s cells -/
def RdSt (s : Nat) (R : World → List Value → Prop) (w : World) (a : Option Addr) (len cap : Nat) : Prop :=
  len ≤ cap ∧ cap ≤ maxLen ∧ (0 < len → ∃ b off, a = some ⟨b, off, none⟩ ∧ ∀ i, i < len → ∃ cs, R w cs ∧ ∀ (j : Nat) (v : Value), cs[j]? = some v → w.cell? ⟨b, off + i * s + j, none⟩ = some v)
theorem seven {α : Type} {l : List α} (h : l.length = 7) : ∃ a b c d e f g, l = [a, b, c, d, e, f, g] := by
  match l, h with
  | [a, b, c, d, e, f, g], _ => exact ⟨a, b, c, d, e, f, g, rfl⟩
section
variable {H : Type} {enc : TypeId × Value → H} {w : World} {base : Nat} {held : Bool}
theorem deed6_ofW {m : Nat} {cs : List Value} {y : DataW H × List MemPlace} (h : DataW.trod enc Try.prog w base (fun _ => true) held m 41 cs = some y) (hL : Lite 41 y.1) : IsD6 w cs := by
  have hC : Try.prog.cellsOf 41 = 7 := by kernel_rfl
  obtain ⟨ys, n', _, hy, hcl, hyl, hf⟩ := DataW.trod_struct Try.underlying41 h
  rw [hC] at hcl
  obtain ⟨v0, v1, v2, v3, v4, v5, v6, rfl⟩ := seven hcl
  obtain ⟨y0, y1, y2, y3, rfl⟩ := four (l := ys) hyl
  have g0 : DataW.trod enc Try.prog w base (fun _ => true) held n' 3 [v0] = some y0 := hf 0 _ rfl
  have g1 : DataW.trod enc Try.prog w base (fun _ => true) held n' 21 [v1] = some y1 := hf 1 _ rfl
  have g2 : DataW.trod enc Try.prog w base (fun _ => true) held n' 23 [v2, v3] = some y2 := hf 2 _ rfl
  have g3 : DataW.trod enc Try.prog w base (fun _ => true) held n' 26 [v4, v5, v6] = some y3 := hf 3 _ rfl
  obtain ⟨k, e0, _, w0⟩ := DataW.trod_int Try.underlying3 g0
  obtain ⟨n, e1, _, w1⟩ := DataW.trod_int Try.underlying21 g1
  simp at e0 e1
  subst e0 e1
  obtain ⟨q, hq, wq⟩ := po_of g2
  simp [Po.cells] at hq
  obtain ⟨rfl, rfl⟩ := hq
  rw [hy] at hL
  have l3 : Lite 26 y3.1 := fun x hx => hL x (by
    simp only [DataW.weights, Try.underlying41]
    exact DataW.weights_mem_each (j := 3) (t := 26) (d := y3.1) rfl rfl x hx)
  obtain ⟨u, c, hu, hc⟩ := changeW_of g3 l3
  simp [triL] at hu
  obtain ⟨rfl, rfl, rfl⟩ := hu
  exact ⟨k, n, q, u, c, rfl, wf_i64b w0, w1, wq, hc⟩
theorem open_deed6 {r : Reach} {b0 : Nat} {v : Value} {d : DataW H} {p : List MemPlace} (hv : Value.okWide Try.prog w r b0 41 v) (h : DataW.Trod enc Try.prog w base (fun _ => true) held 41 v d p) (hL : Lite 41 d) :
    ∃ kd r q u c, v = .agg #[.int .i64 kd, .int .i32 r, .int .i64 (Po.l q), .int .i64 q.c, u.1, u.2.1, u.2.2] ∧ KnD w kd r q u c := by
  obtain ⟨cs, rfl, hsz⟩ := okWide_struct Try.underlying41 hv
  obtain ⟨fuel, hf⟩ := h
  obtain ⟨kd, r, q, u, c, e, hc⟩ := deed6_ofW (y := (d, p)) (cs := cs.toList) (by simpa [Value.cells] using hf) hL
  refine ⟨kd, r, q, u, c, ?_, hc⟩
  congr 1
  apply Array.toList_inj.1
  rw [e]
theorem open_deedsW {m : Nat} {v : Value} {y : DataW H × List MemPlace} (h : DataW.trod enc Try.prog w base (fun _ => true) held m 32 [v] = some y) (hL : Lite 32 y.1) :
    ∃ a len cap, v = .slice a len cap ∧ RdSt 7 IsD6 w a len cap := by
  have hC : Try.prog.cellsOf 41 = 7 := by kernel_rfl
  rcases open_slice Try.underlying32 h with ⟨hcs, hx⟩ | ⟨ad, len, cap, mm, n, D, Pl, hcs, _, hl, hm, hmm, hx, hi⟩
  · simp at hcs
    exact ⟨none, 0, 0, hcs, Nat.le_refl _, by simp, fun h => by omega⟩
  · simp at hcs
    simp at hmm
    refine ⟨some ad, len, cap, hcs, hl, hm, fun hp => ?_⟩
    have one : ∀ i, i < len → ∃ cs : List Value, IsD6 w cs ∧ cs.length = 7 ∧ ∀ (j : Nat) (u : Value), cs[j]? = some u → w.cell? (ad.add (i * 7 + j)) = some u := by
      intro i hlt
      obtain ⟨cs, hc, ht⟩ := hi i (by omega)
      rw [hC] at hc
      obtain ⟨_, hcl, hat⟩ := World.cells?_some hc
      have hd := deed6_ofW ht (fun x hxx => hL x (by
        rw [hx]
        have h1 := weights_all (H := H) (e := 41) (l := (List.range len).map D) (d := D i) (List.mem_map.2 ⟨i, by simpa using hlt, rfl⟩) x hxx
        simp only [DataW.weights, Try.underlying32, List.mem_cons, List.mem_append]
        exact .inr (.inl h1)))
      refine ⟨cs, hd, hcl, fun j u hu => ?_⟩
      have hj : j < 7 := by have := (List.getElem?_eq_some_iff.1 hu).1; omega
      have h9 := hat j hj
      rw [Go.Deep.add_add] at h9
      rw [h9]
      exact hu
    obtain ⟨b, off, spot⟩ := ad
    obtain ⟨cs0, _, hl0, h0⟩ := one 0 hp
    have h00 := h0 0 cs0[0] (List.getElem?_eq_getElem (by omega))
    have hspot : spot = none := by simpa [Addr.add] using World.cell?_spot h00
    subst hspot
    have he : ∀ j, (⟨b, off, none⟩ : Addr).add j = ⟨b, off + j, none⟩ := by
      intro j
      by_cases h0 : j = 0
      · subst h0; rfl
      · simp [Addr.add]; intro hj; exact absurd hj h0
    refine ⟨b, off, rfl, fun i hlt => ?_⟩
    obtain ⟨cs, d, _, hc⟩ := one i hlt
    refine ⟨cs, d, fun j u hu => ?_⟩
    have := hc j u hu
    rw [he] at this
    rw [Nat.add_assoc]
    exact this
end
/-- the i-th deed, read in a later world -/
theorem RdSt.deed {w W : World} {a : Option Addr} {len cap i : Nat} (h : RdSt 7 IsD6 w a len cap) (hb : Below w.heap.size w W) (hi : i < len) :
    ∃ (b off : Nat) (kd r : Int) (q : Po) (oa na : Option Addr) (oc nc : Nat) (c : Ch), a = some ⟨b, off, none⟩ ∧ W.cell? ⟨b, off + i * 7, none⟩ = some (.int .i64 kd) ∧ W.cell? ⟨b, off + i * 7 + 1, none⟩ = some (.int .i32 r) ∧ W.cell? ⟨b, off + i * 7 + 2, none⟩ = some (.int .i64 q.l) ∧ W.cell? ⟨b, off + i * 7 + 3, none⟩ = some (.int .i64 q.c) ∧
      W.cell? ⟨b, off + i * 7 + 4, none⟩ = some (.int .i64 c.pos) ∧ W.cell? ⟨b, off + i * 7 + 5, none⟩ = some (.slice oa c.old.length oc) ∧ W.cell? ⟨b, off + i * 7 + 6, none⟩ = some (.slice na c.now.length nc) ∧
      b < w.heap.size ∧ i64b kd ∧ (Lit.int .i32 r).wf = true ∧ i64p q ∧ i64b c.pos ∧ RdL (fun k => k < w.heap.size) w oa c.old.length oc c.old ∧ RdL (fun k => k < w.heap.size) w na c.now.length nc c.now ∧ c.old.length ≤ 35184372088832 ∧ c.now.length ≤ 35184372088832 := by
  obtain ⟨_, _, h3⟩ := h
  obtain ⟨b, off, rfl, h4⟩ := h3 (by omega)
  obtain ⟨cs, ⟨kd, r, q, u, c, rfl, i1, i2, i3, ⟨⟨⟨oa, oc, na, nc, rfl, r1, r2⟩, i4, w1, w2⟩, i5, i6⟩⟩, hc⟩ := h4 i hi
  have c0 := hc 0 _ rfl
  have hbl := block_lt_of_cell c0
  have tr : ∀ j, W.cell? ⟨b, off + i * 7 + j, none⟩ = w.cell? ⟨b, off + i * 7 + j, none⟩ := fun j => hb.cell (p := ⟨b, off + i * 7 + j, none⟩) hbl
  exact ⟨b, off, kd, r, q, oa, na, oc, nc, c, rfl, (tr 0).trans c0, (tr 1).trans (hc 1 _ rfl), (tr 2).trans (hc 2 _ rfl), (tr 3).trans (hc 3 _ rfl), (tr 4).trans (hc 4 _ rfl), (tr 5).trans (hc 5 _ rfl), (tr 6).trans (hc 6 _ rfl), hbl, i1, i2, i3, i4, r1, r2, i5, i6⟩
end Go.Proofs.Ytbgbhlnidabhnaa.U
