/-
  Arguments of the laws of layer 12, each row within the reach: what a register holds, a deed, a row of deeds.
-/
import Derived.Test.YtleidcegbfnmkaaGMem
import Derived.SizedLaws
namespace Go.Proofs.Ytleidcegbfnmkaa.U
open Go.RowKit Go.ChangeShapes Go.WideShapes Go.Deep
set_option linter.unusedVariables false
set_option linter.unusedSimpArgs false
set_option maxRecDepth 100000

def i64bG (i : Int) : Prop := -9223372036854775808 ≤ i ∧ i ≤ 9223372036854775807
theorem wf_i64bG {i : Int} (h : (Lit.int .i64 i).wf = true) : i64bG i := wf_i64_in h
/-- what a register holds, in two cells -/
def IsRg (w : World) (cs : List Value) : Prop := ∃ (k : Int) (a : Option Addr) (n c : Nat) (L : List (List Int)), cs = [.int .i64 k, .slice a n c] ∧ i64bG k ∧ RdL (fun k => k < w.heap.size) w a n c L ∧ WideL L
/-- a deed, in five cells -/
def IsDr (w : World) (cs : List Value) : Prop := ∃ (ask : Bool) (nm k : Int) (a : Option Addr) (n c : Nat) (L : List (List Int)) (del : Bool), cs = [.bool ask, .int .i32 nm, .int .i64 k, .slice a n c, .bool del] ∧ (Lit.int .i32 nm).wf = true ∧ i64bG k ∧ RdL (fun k => k < w.heap.size) w a n c L ∧ WideL L
/-- a row of things of s cells -/
def RdSt (s : Nat) (R : World → List Value → Prop) (w : World) (a : Option Addr) (len cap : Nat) : Prop :=
  len ≤ cap ∧ cap ≤ maxLen ∧ (0 < len → ∃ b off, a = some ⟨b, off, none⟩ ∧ ∀ i, i < len → ∃ cs, R w cs ∧ ∀ (j : Nat) (v : Value), cs[j]? = some v → w.cell? ⟨b, off + i * s + j, none⟩ = some v)
theorem fourG {α : Type} {l : List α} (h : l.length = 4) : ∃ a b c d, l = [a, b, c, d] := by
  match l, h with
  | [a, b, c, d], _ => exact ⟨a, b, c, d, rfl⟩
theorem fiveG {α : Type} {l : List α} (h : l.length = 5) : ∃ a b c d e, l = [a, b, c, d, e] := by
  match l, h with
  | [a, b, c, d, e], _ => exact ⟨a, b, c, d, e, rfl⟩
section
variable {H : Type} {enc : TypeId × Value → H} {w : World} {base : Nat} {held : Bool}
theorem reg_ofW {m : Nat} {cs : List Value} {y : DataW H × List MemPlace} (h : DataW.trod enc Try.prog w base (fun _ => true) held m 31 cs = some y) (hL : Lite 31 y.1) : IsRg w cs := by
  have hC : Try.prog.cellsOf 31 = 2 := by kernel_rfl
  obtain ⟨ys, n', _, hy, hcl, hyl, hf⟩ := DataW.trod_struct Try.underlying31 h
  rw [hC] at hcl
  obtain ⟨v0, v1, rfl⟩ := two hcl
  obtain ⟨y0, y1, rfl⟩ := two (l := ys) hyl
  have g0 : DataW.trod enc Try.prog w base (fun _ => true) held n' 3 [v0] = some y0 := hf 0 _ rfl
  have g1 : DataW.trod enc Try.prog w base (fun _ => true) held n' 29 [v1] = some y1 := hf 1 _ rfl
  obtain ⟨p, e0, _, w0⟩ := DataW.trod_int Try.underlying3 g0
  obtain ⟨a, n, c, L, rfl, hLr, s1⟩ := open_linesW g1
  simp at e0
  subst e0
  rw [hy] at hL
  have l1 : Lite 29 y1.1 := fun x hx => hL x (by
    simp only [DataW.weights, Try.underlying31]
    exact DataW.weights_mem_each (j := 1) (t := 29) (d := y1.1) rfl rfl x hx)
  exact ⟨p, a, n, c, L, rfl, wf_i64bG w0, hLr, s1 l1⟩
theorem deedR_ofW {m : Nat} {cs : List Value} {y : DataW H × List MemPlace} (h : DataW.trod enc Try.prog w base (fun _ => true) held m 33 cs = some y) (hL : Lite 33 y.1) : IsDr w cs := by
  have hC : Try.prog.cellsOf 33 = 5 := by kernel_rfl
  obtain ⟨ys, n', _, hy, hcl, hyl, hf⟩ := DataW.trod_struct Try.underlying33 h
  rw [hC] at hcl
  obtain ⟨v0, v1, v2, v3, v4, rfl⟩ := fiveG hcl
  obtain ⟨y0, y1, y2, y3, rfl⟩ := fourG (l := ys) hyl
  have g0 : DataW.trod enc Try.prog w base (fun _ => true) held n' 4 [v0] = some y0 := hf 0 _ rfl
  have g1 : DataW.trod enc Try.prog w base (fun _ => true) held n' 21 [v1] = some y1 := hf 1 _ rfl
  have g2 : DataW.trod enc Try.prog w base (fun _ => true) held n' 31 [v2, v3] = some y2 := hf 2 _ rfl
  have g3 : DataW.trod enc Try.prog w base (fun _ => true) held n' 4 [v4] = some y3 := hf 3 _ rfl
  obtain ⟨ask, e0, _⟩ := DataW.trod_bool Try.underlying4 g0
  obtain ⟨nm, e1, _, w1⟩ := DataW.trod_int Try.underlying21 g1
  obtain ⟨del, e3, _⟩ := DataW.trod_bool Try.underlying4 g3
  simp at e0 e1 e3
  subst e0 e1 e3
  rw [hy] at hL
  have l2 : Lite 31 y2.1 := fun x hx => hL x (by
    simp only [DataW.weights, Try.underlying33]
    exact DataW.weights_mem_each (j := 2) (t := 31) (d := y2.1) rfl rfl x hx)
  obtain ⟨k, a, n, c, L, hu, i1, r1, s1⟩ := reg_ofW g2 l2
  simp at hu
  obtain ⟨rfl, rfl⟩ := hu
  exact ⟨ask, nm, k, a, n, c, L, del, rfl, w1, i1, r1, s1⟩
theorem open_deedsW {m : Nat} {v : Value} {y : DataW H × List MemPlace} (h : DataW.trod enc Try.prog w base (fun _ => true) held m 22 [v] = some y) (hL : Lite 22 y.1) :
    ∃ a len cap, v = .slice a len cap ∧ RdSt 5 IsDr w a len cap := by
  have hC : Try.prog.cellsOf 33 = 5 := by kernel_rfl
  rcases open_slice Try.underlying22 h with ⟨hcs, hx⟩ | ⟨ad, len, cap, mm, n, D, Pl, hcs, _, hl, hm, hmm, hx, hi⟩
  · simp at hcs
    exact ⟨none, 0, 0, hcs, Nat.le_refl _, by simp, fun h => by omega⟩
  · simp at hcs
    simp at hmm
    refine ⟨some ad, len, cap, hcs, hl, hm, fun hp => ?_⟩
    have one : ∀ i, i < len → ∃ cs : List Value, IsDr w cs ∧ cs.length = 5 ∧ ∀ (j : Nat) (u : Value), cs[j]? = some u → w.cell? (ad.add (i * 5 + j)) = some u := by
      intro i hlt
      obtain ⟨cs, hc, ht⟩ := hi i (by omega)
      rw [hC] at hc
      obtain ⟨_, hcl, hat⟩ := World.cells?_some hc
      have hd := deedR_ofW ht (fun x hxx => hL x (by
        rw [hx]
        have h1 := weights_all (H := H) (e := 33) (l := (List.range len).map D) (d := D i) (List.mem_map.2 ⟨i, by simpa using hlt, rfl⟩) x hxx
        simp only [DataW.weights, Try.underlying22, List.mem_cons, List.mem_append]
        exact .inr (.inl h1)))
      refine ⟨cs, hd, hcl, fun j u hu => ?_⟩
      have hj : j < 5 := by have := (List.getElem?_eq_some_iff.1 hu).1; omega
      have h9 := hat j hj
      rw [Go.Deep.add_add] at h9
      rw [h9]
      exact hu
    obtain ⟨b, off, spot⟩ := ad
    obtain ⟨cs0, _, hl0, h0⟩ := one 0 hp
    have h00 := h0 0 cs0[0] (List.getElem?_eq_getElem (by omega))
    have hspot : spot = none := by simpa [Addr.add] using World.cell?_spot h00
    subst hspot
    have he : ∀ j, (⟨b, off, none⟩ : Addr).add j = ⟨b, off + j, none⟩ := by
      intro j
      by_cases h0 : j = 0
      · subst h0; rfl
      · simp [Addr.add]; intro hj; exact absurd hj h0
    refine ⟨b, off, rfl, fun i hlt => ?_⟩
    obtain ⟨cs, d, _, hc⟩ := one i hlt
    refine ⟨cs, d, fun j u hu => ?_⟩
    have := hc j u hu
    rw [he] at this
    rw [Nat.add_assoc]
    exact this
end
/-- the i-th deed, read in a later world -/
theorem RdSt.deedR {w W : World} {a : Option Addr} {len cap i : Nat} (h : RdSt 5 IsDr w a len cap) (hb : Below w.heap.size w W) (hi : i < len) :
    ∃ (b off : Nat) (ask : Bool) (nm k : Int) (ra : Option Addr) (n c : Nat) (L : List (List Int)) (del : Bool), a = some ⟨b, off, none⟩ ∧ W.cell? ⟨b, off + i * 5, none⟩ = some (.bool ask) ∧ W.cell? ⟨b, off + i * 5 + 1, none⟩ = some (.int .i32 nm) ∧ W.cell? ⟨b, off + i * 5 + 2, none⟩ = some (.int .i64 k) ∧ W.cell? ⟨b, off + i * 5 + 3, none⟩ = some (.slice ra n c) ∧ W.cell? ⟨b, off + i * 5 + 4, none⟩ = some (.bool del) ∧
      b < w.heap.size ∧ (Lit.int .i32 nm).wf = true ∧ i64bG k ∧ RdL (fun k => k < w.heap.size) W ra n c L ∧ WideL L := by
  obtain ⟨_, _, h3⟩ := h
  obtain ⟨b, off, rfl, h4⟩ := h3 (by omega)
  obtain ⟨cs, ⟨ask, nm, k, ra, n, c, L, del, rfl, i1, i2, r1, s1⟩, hc⟩ := h4 i hi
  have c0 := hc 0 _ rfl
  have hbl := block_lt_of_cell c0
  have tr : ∀ j, W.cell? ⟨b, off + i * 5 + j, none⟩ = w.cell? ⟨b, off + i * 5 + j, none⟩ := fun j => hb.cell (p := ⟨b, off + i * 5 + j, none⟩) hbl
  exact ⟨b, off, ask, nm, k, ra, n, c, L, del, rfl, (tr 0).trans c0, (tr 1).trans (hc 1 _ rfl), (tr 2).trans (hc 2 _ rfl), (tr 3).trans (hc 3 _ rfl), (tr 4).trans (hc 4 _ rfl), hbl, i1, i2, r1.below hb, s1⟩
end Go.Proofs.Ytleidcegbfnmkaa.U
