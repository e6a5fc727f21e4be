/-
  Motions as values; the contract of Move, as the laws want it (MoveC: a premise here, the program's theorem in the end); a motion that was handed in.
-/
import Derived.Test.YtikdojebnbmpoaaOBase
import Derived.Test.YtikdojebnbmpoaaOLawR
namespace Go.Proofs.Ytikdojebnbmpoaa.U
open Go.RowKit Go.ChangeShapes Go.WideShapes Go.Deep
set_option linter.unusedVariables false
set_option linter.unusedSimpArgs false
set_option maxRecDepth 100000

def Mo.v (m : Mo) : Value := .agg #[.int .i32 m.key, .int .i64 m.cnt, .int .i32 m.arg, .int .i64 m.want]
def i32b (i : Int) : Prop := -2147483648 ≤ i ∧ i ≤ 2147483647
theorem wf_i32b {i : Int} (h : (Lit.int .i32 i).wf = true) : i32b i := wf_i32_in h
def i64m (m : Mo) : Prop := i32b m.key ∧ i64b m.cnt ∧ i32b m.arg ∧ i64b m.want
/-- what Move tells -/
def mvV (r : Pl × Int × Bool) : Value := .tuple #[plV r.1, .int .i64 r.2.1, .bool r.2.2]
def MoveC : Prop := ∀ (F : Nat → Prop) (a : Option Addr) (n c : Nat) (L : List (List Int)) (q : Po) (m : Mo) (op : Bool) (w : World), RdL F w a n c L → i64p q → i64m m → sizeN (lens L) ≤ 262144 → L ≠ [] →
  Calls Try.prog 10 #[.slice a n c, q.v, m.v, .bool op] w fun e w' => e = .returned (mvV (mvR L (clipP L q.l q.c) m op)) ∧ Below w.heap.size w w'
/-- a place as one that is handed in -/
def poP (p : Pl) : Po := ⟨(p.1 : Nat), (p.2 : Nat)⟩
theorem poP_v (p : Pl) : (poP p).v = plV p := rfl

section
variable {H : Type} {enc : TypeId × Value → H} {w : World} {base : Nat} {held : Bool}
theorem fourL {α : Type} {l : List α} (h : l.length = 4) : ∃ a b c d, l = [a, b, c, d] := by
  match l, h with
  | [a, b, c, d], _ => exact ⟨a, b, c, d, rfl⟩
theorem mo_of {m : Nat} {cs : List Value} {y : DataW H × List MemPlace} (h : DataW.trod enc Try.prog w base (fun _ => true) held m 26 cs = some y) : ∃ q : Mo, cs = [.int .i32 q.key, .int .i64 q.cnt, .int .i32 q.arg, .int .i64 q.want] ∧ i64m q := by
  have hC : Try.prog.cellsOf 26 = 4 := by kernel_rfl
  obtain ⟨ys, n', _, hy, hcl, hyl, hf⟩ := DataW.trod_struct Try.underlying26 h
  rw [hC] at hcl
  obtain ⟨v0, v1, v2, v3, rfl⟩ := fourL hcl
  obtain ⟨y0, y1, y2, y3, rfl⟩ := fourL (l := ys) hyl
  have g0 : DataW.trod enc Try.prog w base (fun _ => true) held n' 21 [v0] = some y0 := hf 0 _ rfl
  have g1 : DataW.trod enc Try.prog w base (fun _ => true) held n' 3 [v1] = some y1 := hf 1 _ rfl
  have g2 : DataW.trod enc Try.prog w base (fun _ => true) held n' 21 [v2] = some y2 := hf 2 _ rfl
  have g3 : DataW.trod enc Try.prog w base (fun _ => true) held n' 3 [v3] = some y3 := hf 3 _ rfl
  obtain ⟨p0, e0, _, w0⟩ := DataW.trod_int Try.underlying21 g0
  obtain ⟨p1, e1, _, w1⟩ := DataW.trod_int Try.underlying3 g1
  obtain ⟨p2, e2, _, w2⟩ := DataW.trod_int Try.underlying21 g2
  obtain ⟨p3, e3, _, w3⟩ := DataW.trod_int Try.underlying3 g3
  simp at e0 e1 e2 e3
  subst e0 e1 e2 e3
  exact ⟨⟨p0, p1, p2, p3⟩, rfl, wf_i32b w0, wf_i64b w1, wf_i32b w2, wf_i64b w3⟩
theorem open_mo {r : Reach} {b0 : Nat} {v : Value} {d : DataW H} {p : List MemPlace} (hv : Value.okWide Try.prog w r b0 26 v) (h : DataW.Trod enc Try.prog w base (fun _ => true) held 26 v d p) :
    ∃ q : Mo, v = q.v ∧ i64m q := by
  obtain ⟨cs, rfl, hsz⟩ := okWide_struct Try.underlying26 hv
  obtain ⟨fuel, hf⟩ := h
  obtain ⟨q, e, hc⟩ := mo_of (y := (d, p)) (cs := cs.toList) (by simpa [Value.cells] using hf)
  refine ⟨q, ?_, hc⟩
  unfold Mo.v
  congr 1
  apply Array.toList_inj.1
  rw [e]
end
end Go.Proofs.Ytikdojebnbmpoaa.U
