/-
  A row of deeds of layer 4, opened.
-/
import Derived.Test.YtndlebopfojjeaaTDeed
namespace Go.Proofs.Ytndlebopfojjeaa.U
open Go.RowKit Go.ChangeShapes Go.WideShapes Go.Deep
set_option linter.unusedVariables false
set_option linter.unusedSimpArgs false
set_option maxRecDepth 100000

theorem IsDeed.mono {w : World} {Bk Bk' : Nat} {cs : List Value} (h : IsDeed w Bk cs) (hb : Bk ≤ Bk') : IsDeed w Bk' cs := by
  obtain ⟨kd, n, p, q, r, s, a, len, cap, L, b, m, c, M, h1, h2, h3, h4, h5⟩ := h
  exact ⟨kd, n, p, q, r, s, a, len, cap, L, b, m, c, M, h1, h2, h3, h4, Nat.le_trans h5 hb⟩
/-- a row of deeds -/
def RdD8 (w : World) (Bk : Nat) (a : Option Addr) (len cap : Nat) : Prop :=
  len ≤ cap ∧ cap ≤ maxLen ∧ (0 < len → ∃ b off, a = some ⟨b, off, none⟩ ∧ ∀ i, i < len → ∃ cs, IsDeed w Bk cs ∧ ∀ (j : Nat) (v : Value), cs[j]? = some v → w.cell? ⟨b, off + i * 8 + j, none⟩ = some v)
section
variable {H : Type} {enc : TypeId × Value → H} {w : World} {base : Nat} {held : Bool}
theorem open_deeds8 {m : Nat} {v : Value} {y : DataW H × List MemPlace} (h : DataW.trod enc Try.prog w base (fun _ => true) held m 23 [v] = some y) :
    ∃ a len cap, v = .slice a len cap ∧ RdD8 w (Rows.uptoBulk y.1) a len cap := by
  have hC : Try.prog.cellsOf 33 = 8 := by kernel_rfl
  rcases open_slice Try.underlying23 h with ⟨hcs, hx⟩ | ⟨ad, len, cap, mm, n, D, Pl, hcs, _, hl, hm, hmm, hx, hi⟩
  · simp at hcs
    exact ⟨none, 0, 0, hcs, Nat.le_refl _, by simp, fun h => by omega⟩
  · simp at hcs
    simp at hmm
    refine ⟨some ad, len, cap, hcs, hl, hm, fun hp => ?_⟩
    have one : ∀ i, i < len → ∃ cs : List Value, IsDeed w (Rows.uptoBulk y.1) cs ∧ cs.length = 8 ∧ ∀ (j : Nat) (u : Value), cs[j]? = some u → w.cell? (ad.add (i * 8 + j)) = some u := by
      intro i hlt
      obtain ⟨cs, hc, ht⟩ := hi i (by omega)
      rw [hC] at hc
      obtain ⟨_, hcl, hat⟩ := World.cells?_some hc
      have hd := deed_of ht
      refine ⟨cs, hd.mono ?_, hcl, fun j u hu => ?_⟩
      · rw [hx]
        have := bulk_mem (H := H) (l := (List.range len).map D) (d := D i) (List.mem_map.2 ⟨i, by simpa using hlt, rfl⟩)
        simp only [Rows.uptoBulk]
        omega
      · have hj : j < 8 := by have := (List.getElem?_eq_some_iff.1 hu).1; omega
        have h9 := hat j hj
        rw [Go.Deep.add_add] at h9
        rw [h9]
        exact hu
    obtain ⟨b, off, spot⟩ := ad
    obtain ⟨cs0, _, hl0, h0⟩ := one 0 hp
    have h00 := h0 0 cs0[0] (List.getElem?_eq_getElem (by omega))
    have hspot : spot = none := by simpa [Addr.add] using World.cell?_spot h00
    subst hspot
    have he : ∀ j, (⟨b, off, none⟩ : Addr).add j = ⟨b, off + j, none⟩ := by
      intro j
      by_cases h0 : j = 0
      · subst h0; rfl
      · simp [Addr.add]; intro hj; exact absurd hj h0
    refine ⟨b, off, rfl, fun i hlt => ?_⟩
    obtain ⟨cs, d, _, hc⟩ := one i hlt
    refine ⟨cs, d, fun j u hu => ?_⟩
    have := hc j u hu
    rw [he] at this
    rw [Nat.add_assoc]
    exact this
end
/-- the i-th deed, read in a later world -/
theorem RdD8.get {w W : World} {Bk : Nat} {a : Option Addr} {len cap i B : Nat} (h : RdD8 w Bk a len cap) (hB : w.heap.size = B) (hb : Below B w W) (hi : i < len) :
    ∃ b off, a = some ⟨b, off, none⟩ ∧ b < B ∧ ∃ (k n p q r s : Int) (al : Option Addr) (ll cl : Nat) (L : List Int) (ma : Option Addr) (mn mc : Nat) (M : List (List Int)), i64b n ∧ i64b p ∧ i64b q ∧ i64b r ∧ i64b s ∧ (∀ W', Below B w W' → Rd .i32 W' al ll cl L) ∧ (∀ W', Below B w W' → RdL (fun x => x < B) W' ma mn mc M) ∧ sizeN (lens M) ≤ Bk ∧
      W.cell? ⟨b, off + i * 8, none⟩ = some (.int .i64 k) ∧ W.cell? ⟨b, off + i * 8 + 1, none⟩ = some (.int .i64 n) ∧ W.cell? ⟨b, off + i * 8 + 2, none⟩ = some (.int .i64 p) ∧ W.cell? ⟨b, off + i * 8 + 3, none⟩ = some (.int .i64 q) ∧ W.cell? ⟨b, off + i * 8 + 4, none⟩ = some (.int .i64 r) ∧ W.cell? ⟨b, off + i * 8 + 5, none⟩ = some (.int .i64 s) ∧ W.cell? ⟨b, off + i * 8 + 6, none⟩ = some (.slice al ll cl) ∧ W.cell? ⟨b, off + i * 8 + 7, none⟩ = some (.slice ma mn mc) := by
  subst hB
  obtain ⟨b, off, rfl, hc⟩ := h.2.2 (by omega)
  obtain ⟨cs, ⟨k, n, p, q, r, s, al, ll, cl, L, ma, mn, mc, M, rfl, ⟨k1, k2, k3, k4, k5, k6⟩, k7, k8, k9⟩, c⟩ := hc i hi
  have c0 := c 0 _ rfl
  rw [Nat.add_zero] at c0
  have hl := block_lt_of_cell c0
  exact ⟨b, off, rfl, hl, k, n, p, q, r, s, al, ll, cl, L, ma, mn, mc, M, k2, k3, k4, k5, k6, fun W' hW' => k7.below hW', fun W' hW' => k8.below hW', k9, (hb.cell (p := ⟨b, off + i * 8, none⟩) hl).trans c0, (hb.cell (p := ⟨b, off + i * 8 + 1, none⟩) hl).trans (c 1 _ rfl), (hb.cell (p := ⟨b, off + i * 8 + 2, none⟩) hl).trans (c 2 _ rfl), (hb.cell (p := ⟨b, off + i * 8 + 3, none⟩) hl).trans (c 3 _ rfl), (hb.cell (p := ⟨b, off + i * 8 + 4, none⟩) hl).trans (c 4 _ rfl), (hb.cell (p := ⟨b, off + i * 8 + 5, none⟩) hl).trans (c 5 _ rfl), (hb.cell (p := ⟨b, off + i * 8 + 6, none⟩) hl).trans (c 6 _ rfl), (hb.cell (p := ⟨b, off + i * 8 + 7, none⟩) hl).trans (c 7 _ rfl)⟩
end Go.Proofs.Ytndlebopfojjeaa.U
