/-
  Arguments of the laws of layer 3, opened: a row of runes, a deed by value, a row of deeds.
-/
import Derived.Test.YtblbbcgdgbajnaaPAwake
import Derived.ChangeSlices
import Derived.ChangeSame
import Derived.Deep.Slices
import Derived.Deep.Fields
import Derived.Lib.SmallJoins
namespace Go.Proofs.Ytblbbcgdgbajnaa.U
open Go.RowKit Go.ChangeShapes Go.WideShapes Go.Deep
set_option linter.unusedVariables false
set_option linter.unusedSimpArgs false

/-- A slice as the frame opens it can be read. -/
theorem Rd_of_row {k : IntKind} {w : World} {a : Option Addr} {len cap : Nat} {zs : List Int}
    (h : (a = none ∧ len = 0 ∧ cap = 0 ∧ zs = []) ∨ ∃ x, a = some x ∧ len ≤ cap ∧ cap ≤ maxLen ∧ zs.length = cap ∧ (∀ i, i < zs.length → w.cell? (x.add i) = some (.int k (zs.getD i 0))) ∧ ∀ n ∈ zs, (Lit.int k n).wf = true) :
    Rd k w a len cap (zs.take len) := by
  rcases h with ⟨rfl, rfl, rfl, rfl⟩ | ⟨x, rfl, hl, hm, hz, hc, hw⟩
  · exact Rd.none0 _ _
  · refine ⟨by rw [List.length_take]; omega, hl, hm, fun y hy => hw y (List.mem_of_mem_take hy), (fun h => by cases h), fun hp => ?_⟩
    obtain ⟨b, off, spot⟩ := x
    have h0 := hc 0 (by omega)
    have hspot : spot = none := by simpa [Addr.add] using World.cell?_spot h0
    subst hspot
    refine ⟨b, off, rfl, fun i hi => ?_⟩
    have h1 := hc i (by omega)
    have he : (⟨b, off, none⟩ : Addr).add i = ⟨b, off + i, none⟩ := by
      by_cases h0 : i = 0
      · subst h0; rfl
      · simp [Addr.add]; intro hj; exact absurd hj h0
    rw [he] at h1
    rw [h1]
    simp [List.getD_eq_getElem?_getD, List.getElem?_take, hi]

section
variable {H : Type} {enc : TypeId × Value → H} {w : World} {base : Nat} {held : Bool}
/-- a row of runes in a cell -/
theorem open_L {m : Nat} {v : Value} {y : DataW H × List MemPlace} (h : DataW.trod enc Try.prog w base (fun _ => true) held m 22 [v] = some y) :
    ∃ a len cap zs, v = .slice a len cap ∧ Rd .i32 w a len cap zs := by
  rcases open_ints Try.underlying22 Try.underlying21 (by kernel_rfl) h with ⟨hcs, hx⟩ | ⟨x, l, c, zs, hcs, _, hl, hm, hz, hx, hcell, hwz⟩
  · simp at hcs
    exact ⟨none, 0, 0, [], hcs, Rd.none0 _ _⟩
  · simp at hcs
    exact ⟨some x, l, c, zs.take l, hcs, Rd_of_row (.inr ⟨_, rfl, hl, hm, by simpa using hz, hcell, hwz⟩)⟩

/-- a deed, as a value -/
def IsDeed (w : World) (v0 v1 v2 v3 : Value) : Prop :=
  ∃ (k i n : Int) (a : Option Addr) (len cap : Nat) (L : List Int), v0 = .int .i64 k ∧ v1 = .int .i64 i ∧ v2 = .int .i64 n ∧ v3 = .slice a len cap ∧ i64b k ∧ i64b i ∧ i64b n ∧ Rd .i32 w a len cap L

theorem deed_of {m : Nat} {v0 v1 v2 v3 : Value} {y0 y1 y2 y3 : DataW H × List MemPlace} (h0 : DataW.trod enc Try.prog w base (fun _ => true) held m 3 [v0] = some y0) (h1 : DataW.trod enc Try.prog w base (fun _ => true) held m 3 [v1] = some y1)
    (h2 : DataW.trod enc Try.prog w base (fun _ => true) held m 3 [v2] = some y2) (h3 : DataW.trod enc Try.prog w base (fun _ => true) held m 22 [v3] = some y3) : IsDeed w v0 v1 v2 v3 := by
  obtain ⟨k, e0, _, w0⟩ := DataW.trod_int Try.underlying3 h0
  obtain ⟨i, e1, _, w1⟩ := DataW.trod_int Try.underlying3 h1
  obtain ⟨n, e2, _, w2⟩ := DataW.trod_int Try.underlying3 h2
  obtain ⟨a, len, cap, zs, e3, w3⟩ := open_L h3
  simp at e0 e1 e2
  exact ⟨k, i, n, a, len, cap, zs, e0, e1, e2, e3, wf_i64b w0, wf_i64b w1, wf_i64b w2, w3⟩

/-- a row of deeds -/
def RdD (w : World) (a : Option Addr) (len cap : Nat) : Prop :=
  len ≤ cap ∧ cap ≤ maxLen ∧ (0 < len → ∃ b off, a = some ⟨b, off, none⟩ ∧ ∀ i, i < len → ∃ v0 v1 v2 v3, IsDeed w v0 v1 v2 v3 ∧
    w.cell? ⟨b, off + i * 4, none⟩ = some v0 ∧ w.cell? ⟨b, off + i * 4 + 1, none⟩ = some v1 ∧ w.cell? ⟨b, off + i * 4 + 2, none⟩ = some v2 ∧ w.cell? ⟨b, off + i * 4 + 3, none⟩ = some v3)

theorem four {l : List Value} (h : l.length = 4) : ∃ a b c d, l = [a, b, c, d] := by
  match l, h with
  | [a, b, c, d], _ => exact ⟨a, b, c, d, rfl⟩

theorem open_deeds {m : Nat} {v : Value} {y : DataW H × List MemPlace} (h : DataW.trod enc Try.prog w base (fun _ => true) held m 23 [v] = some y) :
    ∃ a len cap, v = .slice a len cap ∧ RdD w a len cap := by
  have hC : Try.prog.cellsOf 29 = 4 := by kernel_rfl
  rcases open_slice Try.underlying23 h with ⟨hcs, hx⟩ | ⟨ad, len, cap, mm, n, D, Pl, hcs, _, hl, hm, hmm, hx, hi⟩
  · simp at hcs
    exact ⟨none, 0, 0, hcs, Nat.le_refl _, by simp, fun h => by omega⟩
  · simp at hcs
    simp at hmm
    refine ⟨some ad, len, cap, hcs, hl, hm, fun hp => ?_⟩
    have one : ∀ i, i < len → ∃ v0 v1 v2 v3, IsDeed w v0 v1 v2 v3 ∧ w.cell? (ad.add (i * 4)) = some v0 ∧ w.cell? (ad.add (i * 4 + 1)) = some v1 ∧ w.cell? (ad.add (i * 4 + 2)) = some v2 ∧ w.cell? (ad.add (i * 4 + 3)) = some v3 := by
      intro i hlt
      obtain ⟨cs, hc, ht⟩ := hi i (by omega)
      rw [hC] at hc
      obtain ⟨_, hcl, hat⟩ := World.cells?_some hc
      obtain ⟨ys, n', _, _, _, hyl, hf⟩ := DataW.trod_struct Try.underlying29 ht
      obtain ⟨v0, v1, v2, v3, rfl⟩ := four hcl
      have hyl' : ys.length = 4 := hyl
      obtain ⟨y0, ys, rfl⟩ := List.exists_cons_of_length_pos (l := ys) (by omega)
      obtain ⟨y1, ys, rfl⟩ := List.exists_cons_of_length_pos (l := ys) (by simp at hyl'; omega)
      obtain ⟨y2, ys, rfl⟩ := List.exists_cons_of_length_pos (l := ys) (by simp at hyl'; omega)
      obtain ⟨y3, ys, rfl⟩ := List.exists_cons_of_length_pos (l := ys) (by simp at hyl'; omega)
      have g0 := hf 0 _ rfl
      have g1 := hf 1 _ rfl
      have g2 := hf 2 _ rfl
      have g3 := hf 3 _ rfl
      have c0 := hat 0 (by omega)
      have c1 := hat 1 (by omega)
      have c2 := hat 2 (by omega)
      have c3 := hat 3 (by omega)
      simp only [Go.Deep.add_add] at c1 c2 c3
      exact ⟨v0, v1, v2, v3, deed_of g0 g1 g2 g3, by simpa [Addr.add] using c0, c1, c2, c3⟩
    obtain ⟨b, off, spot⟩ := ad
    obtain ⟨_, _, _, _, _, h0, _⟩ := one 0 hp
    have hspot : spot = none := by simpa [Addr.add] using World.cell?_spot h0
    subst hspot
    have he : ∀ j, (⟨b, off, none⟩ : Addr).add j = ⟨b, off + j, none⟩ := by
      intro j
      by_cases h0 : j = 0
      · subst h0; rfl
      · simp [Addr.add]; intro hj; exact absurd hj h0
    refine ⟨b, off, rfl, fun i hlt => ?_⟩
    obtain ⟨v0, v1, v2, v3, d, c0, c1, c2, c3⟩ := one i hlt
    rw [he] at c0 c1 c2 c3
    exact ⟨v0, v1, v2, v3, d, c0, c1, c2, c3⟩
end

theorem IsDeed.below {w w' : World} {v0 v1 v2 v3 : Value} (h : IsDeed w v0 v1 v2 v3) (hb : Below w.heap.size w w') : IsDeed w' v0 v1 v2 v3 := by
  obtain ⟨k, i, n, a, len, cap, L, h0, h1, h2, h3, h4, h5, h6, h7⟩ := h
  exact ⟨k, i, n, a, len, cap, L, h0, h1, h2, h3, h4, h5, h6, h7.below hb⟩
/-- the i-th deed, read in a later world -/
theorem RdD.get {w W : World} {a : Option Addr} {len cap i B : Nat} (h : RdD w a len cap) (hB : w.heap.size = B) (hb : Below B w W) (hi : i < len) :
    ∃ b off, a = some ⟨b, off, none⟩ ∧ b < B ∧ ∃ (k p n : Int) (al : Option Addr) (ll cl : Nat) (L : List Int), i64b k ∧ i64b p ∧ i64b n ∧ Rd .i32 W al ll cl L ∧ Rd .i32 w al ll cl L ∧
      W.cell? ⟨b, off + i * 4, none⟩ = some (.int .i64 k) ∧ W.cell? ⟨b, off + i * 4 + 1, none⟩ = some (.int .i64 p) ∧ W.cell? ⟨b, off + i * 4 + 2, none⟩ = some (.int .i64 n) ∧ W.cell? ⟨b, off + i * 4 + 3, none⟩ = some (.slice al ll cl) := by
  subst hB
  obtain ⟨b, off, rfl, hc⟩ := h.2.2 (by omega)
  obtain ⟨_, _, _, _, ⟨k, p, n, al, ll, cl, L, rfl, rfl, rfl, rfl, k1, k2, k3, k4⟩, c0, c1, c2, c3⟩ := hc i hi
  have hl := block_lt_of_cell c0
  exact ⟨b, off, rfl, hl, k, p, n, al, ll, cl, L, k1, k2, k3, k4.below hb, k4, (hb.cell (p := ⟨b, off + i * 4, none⟩) hl).trans c0, (hb.cell (p := ⟨b, off + i * 4 + 1, none⟩) hl).trans c1, (hb.cell (p := ⟨b, off + i * 4 + 2, none⟩) hl).trans c2, (hb.cell (p := ⟨b, off + i * 4 + 3, none⟩) hl).trans c3⟩
end Go.Proofs.Ytblbbcgdgbajnaa.U
