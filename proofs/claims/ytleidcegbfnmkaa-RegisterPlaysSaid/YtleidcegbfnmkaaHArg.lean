/-
  Arguments opened: a deed, a register, bools, strings.
-/
import Derived.Test.YtleidcegbfnmkaaGArg
import Derived.Deep.Grids
import Derived.SliceStrings
namespace Go.Proofs.Ytleidcegbfnmkaa.U
open Go.RowKit Go.ChangeShapes Go.WideShapes Go.Deep
set_option linter.unusedVariables false
set_option linter.unusedSimpArgs false
set_option maxRecDepth 100000

/-- a row of values of one cell each -/
def RdV (w : World) (a : Option Addr) (len cap : Nat) (f : Nat → Value) : Prop :=
  len ≤ cap ∧ cap ≤ maxLen ∧ (0 < len → ∃ b off, a = some ⟨b, off, none⟩ ∧ ∀ i, i < len → w.cell? ⟨b, off + i, none⟩ = some (f i))
theorem RdV.get {w W : World} {a : Option Addr} {len cap : Nat} {f : Nat → Value} {i : Nat} (h : RdV w a len cap f) (hb : Below w.heap.size w W) (hi : i < len) : ∃ b off, a = some ⟨b, off, none⟩ ∧ b < w.heap.size ∧ W.cell? ⟨b, off + i, none⟩ = some (f i) := by
  obtain ⟨b, off, rfl, hc⟩ := h.2.2 (by omega)
  have h1 := hc i hi
  have hbl := block_lt_of_cell h1
  exact ⟨b, off, rfl, hbl, (hb.cell (p := ⟨b, off + i, none⟩) hbl).trans h1⟩
theorem rdV_of {w : World} {ad : Addr} {len cap : Nat} {f : Nat → Value} (hl : len ≤ cap) (hm : cap ≤ maxLen) (hc : ∀ i, i < len → w.cell? (ad.add i) = some (f i)) : RdV w (some ad) len cap f := by
  refine ⟨hl, hm, fun hp => ?_⟩
  obtain ⟨b, off, spot⟩ := ad
  have h0 := hc 0 hp
  have hspot : spot = none := by simpa [Addr.add] using World.cell?_spot h0
  subst hspot
  refine ⟨b, off, rfl, fun i hi => ?_⟩
  have h1 := hc i hi
  rw [add_lit] at h1
  exact h1
section
variable {H : Type} {enc : TypeId × Value → H} {w : World} {base : Nat} {held : Bool}
theorem open_deedR {r : Reach} {b0 : Nat} {v : Value} {d : DataW H} {p : List MemPlace} (hv : Value.okWide Try.prog w r b0 33 v) (h : DataW.Trod enc Try.prog w base (fun _ => true) held 33 v d p) (hL : Lite 33 d) :
    ∃ ask nm k a n c L del, v = .agg #[.bool ask, .int .i32 nm, .int .i64 k, .slice a n c, .bool del] ∧ (Lit.int .i32 nm).wf = true ∧ i64bG k ∧ RdL (fun k => k < w.heap.size) w a n c L ∧ WideL L := by
  obtain ⟨cs, rfl, hsz⟩ := okWide_struct Try.underlying33 hv
  obtain ⟨fuel, hf⟩ := h
  obtain ⟨ask, nm, k, a, n, c, L, del, e, h1, h2, h3, h4⟩ := deedR_ofW (y := (d, p)) (cs := cs.toList) (by simpa [Value.cells] using hf) hL
  refine ⟨ask, nm, k, a, n, c, L, del, ?_, h1, h2, h3, h4⟩
  congr 1
  apply Array.toList_inj.1
  rw [e]
theorem open_regR {r : Reach} {b0 : Nat} {v : Value} {d : DataW H} {p : List MemPlace} (hv : Value.okWide Try.prog w r b0 31 v) (h : DataW.Trod enc Try.prog w base (fun _ => true) held 31 v d p) (hL : Lite 31 d) :
    ∃ k a n c L, v = .agg #[.int .i64 k, .slice a n c] ∧ i64bG k ∧ RdL (fun k => k < w.heap.size) w a n c L ∧ WideL L := by
  obtain ⟨cs, rfl, hsz⟩ := okWide_struct Try.underlying31 hv
  obtain ⟨fuel, hf⟩ := h
  obtain ⟨k, a, n, c, L, e, h1, h2, h3⟩ := reg_ofW (y := (d, p)) (cs := cs.toList) (by simpa [Value.cells] using hf) hL
  refine ⟨k, a, n, c, L, ?_, h1, h2, h3⟩
  congr 1
  apply Array.toList_inj.1
  rw [e]
theorem open_boolsV {m : Nat} {v : Value} {y : DataW H × List MemPlace} (h : DataW.trod enc Try.prog w base (fun _ => true) held m 49 [v] = some y) :
    ∃ (a : Option Addr) (len cap : Nat) (B : Nat → Bool), v = .slice a len cap ∧ RdV w a len cap (fun i => .bool (B i)) := by
  rcases open_bools Try.underlying49 Try.underlying4 (by kernel_rfl) h with ⟨hcs, hx⟩ | ⟨ad, len, cap, B, hcs, _, hl, hm, hx, hc⟩
  · simp at hcs
    exact ⟨none, 0, 0, fun _ => false, hcs, Nat.le_refl _, by simp, fun h => by omega⟩
  · simp at hcs
    exact ⟨some ad, len, cap, B, hcs, rdV_of hl hm (fun i hi => hc i (by omega))⟩
theorem open_stringsV {m : Nat} {v : Value} {y : DataW H × List MemPlace} (h : DataW.trod enc Try.prog w base (fun _ => true) held m 52 [v] = some y) :
    ∃ (a : Option Addr) (len cap : Nat) (S : Nat → ByteArray), v = .slice a len cap ∧ RdV w a len cap (fun i => .string (S i)) := by
  rcases open_strings Try.underlying52 Try.underlying9 (by kernel_rfl) h with ⟨hcs, hx⟩ | ⟨ad, len, cap, ss, hcs, _, hl, hm, hz, hx, hc, hs⟩
  · simp at hcs
    exact ⟨none, 0, 0, fun _ => ByteArray.empty, hcs, Nat.le_refl _, by simp, fun h => by omega⟩
  · simp at hcs
    simp at hz
    exact ⟨some ad, len, cap, fun i => ss.getD i ByteArray.empty, hcs, rdV_of hl hm (fun i hi => hc i (by omega))⟩
end
end Go.Proofs.Ytleidcegbfnmkaa.U
