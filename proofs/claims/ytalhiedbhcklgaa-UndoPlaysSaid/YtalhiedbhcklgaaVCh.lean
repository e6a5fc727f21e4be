/-
  A change copied: the contracts of copied and Turned, and of the document's Twin and Turned.
-/
import Derived.Test.YtalhiedbhcklgaaVCopy
namespace Go.Proofs.Ytalhiedbhcklgaa.U
open Go.RowKit
set_option linter.unusedVariables false
set_option linter.unusedSimpArgs false
set_option maxRecDepth 100000

theorem results_cell1 {fn : Func} {p : Tmp} {ty : TypeId} (h : fn.results = #[.cell p ty]) (tmps : Array Value) (P : Program) (w : World) :
    (results fn tmps).run P w = ((asAddr (tmps.getD p undef)).run P w).andThen fun a w₁ => (loadVar ty a).run P w₁ := by
  simp only [results, h]
  simp [Sem.run_bind, Result.andThen]
theorem FreshL.base {B B' n c : Nat} {w : World} {a : Option Addr} {L : List (List Int)} (h : FreshL B w a n c L) (hB : B' ≤ B) : FreshL B' w a n c L := by
  obtain ⟨vs, h1, h2, h3, h4⟩ := h
  exact ⟨vs, own_mono h1 hB, h2, fun i x hx => by obtain ⟨v, e1, e2⟩ := h3 i x hx; exact ⟨v, e1, own_mono e2 hB⟩, h4⟩
/-- a change's value -/
def chV (p : Int) (oa : Option Addr) (on oc : Nat) (na : Option Addr) (nn nc : Nat) : Value := .agg #[.int .i64 p, .slice oa on oc, .slice na nn nc]
/-- the six cells of two blocks of changes -/
structure Six (b : Nat) (v0 v1 v2 : Value) (W : World) : Prop where
  c0 : W.cell? ⟨b, 0, none⟩ = some v0
  c1 : W.cell? ⟨b, 1, none⟩ = some v1
  c2 : W.cell? ⟨b, 2, none⟩ = some v2
  d0 : W.cell? ⟨b + 1, 0, none⟩ = some (.int .i64 0)
  d1 : W.cell? ⟨b + 1, 1, none⟩ = some (.slice none 0 0)
  d2 : W.cell? ⟨b + 1, 2, none⟩ = some (.slice none 0 0)
  z0 : W.frozen? ⟨b + 1, 0, none⟩ = false
  z1 : W.frozen? ⟨b + 1, 1, none⟩ = false
  z2 : W.frozen? ⟨b + 1, 2, none⟩ = false
  l0 : b < W.heap.size
  l1 : b + 1 < W.heap.size
theorem six_new (w : World) (v0 v1 v2 : Value) : ∀ W, Below (w.heap.size + 2) ((w.alloc (.cells #[v0, v1, v2] 24)).alloc (.cells #[.int .i64 0, .slice none 0 0, .slice none 0 0] 24)) W → Six w.heap.size v0 v1 v2 W := by
  intro W hW
  have g1 : ((w.alloc (.cells #[v0, v1, v2] 24)).alloc (.cells #[.int .i64 0, .slice none 0 0, .slice none 0 0] 24)).heap[w.heap.size]? = some (.cells #[v0, v1, v2] 24 (0, 0)) := by
    rw [Below.heap_alloc _ _ _ (by simp), heap_alloc_new]
  have g2 : ((w.alloc (.cells #[v0, v1, v2] 24)).alloc (.cells #[.int .i64 0, .slice none 0 0, .slice none 0 0] 24)).heap[w.heap.size + 1]? = some (.cells #[.int .i64 0, .slice none 0 0, .slice none 0 0] 24 (0, 0)) := by
    have := heap_alloc_new (w.alloc (.cells #[v0, v1, v2] 24)) (.cells #[.int .i64 0, .slice none 0 0, .slice none 0 0] 24)
    simpa using this
  have h1 := (hW.block w.heap.size (by omega)).trans g1
  have h2 := (hW.block (w.heap.size + 1) (by omega)).trans g2
  exact ⟨cell_row h1 0, cell_row h1 1, cell_row h1 2, cell_row h2 0, cell_row h2 1, cell_row h2 2, frozen_row h2 0, frozen_row h2 1, frozen_row h2 2, heap_lt h1, heap_lt h2⟩
theorem set_high {lo hi b n c : Nat} {W : World} {a : Option Addr} {L : List (List Int)} (h : FreshR lo hi W a n c L) (hb : b < lo) (v0 v1 v2 : Value) : FreshR lo hi (((W.setCell ⟨b, 0, none⟩ v0).setCell ⟨b, 1, none⟩ v1).setCell ⟨b, 2, none⟩ v2) a n c L :=
  h.fr (G := fun k => k = b) ((((Fr.refl (fun k => k = b) W).setCell ⟨b, 0, none⟩ v0 (fun _ => rfl)).setCell ⟨b, 1, none⟩ v1 (fun _ => rfl)).setCell ⟨b, 2, none⟩ v2 (fun _ => rfl)) (fun k h1 _ e => by omega)
/-- what a copy leaves -/
def CopP (w : World) (c : Ch) (e : Ending) (w' : World) : Prop :=
  ∃ oa oc na nc, e = .returned (.agg #[.int .i64 c.pos, .slice oa c.old.length oc, .slice na c.now.length nc]) ∧ FreshR w.heap.size w'.heap.size w' oa c.old.length oc c.old ∧ FreshR w.heap.size w'.heap.size w' na c.now.length nc c.now ∧ Below w.heap.size w w'
theorem cop_end {w wb w1 w2 : World} {oa na : Option Addr} {on oc nn nc : Nat} {O N : List (List Int)} (hb : Below w.heap.size w wb) (hs : wb.heap.size = w.heap.size + 2) (h1 : Below wb.heap.size wb w1) (f1 : FreshL wb.heap.size w1 oa on oc O) (h2 : Below w1.heap.size w1 w2) (f2 : FreshL w1.heap.size w2 na nn nc N) (v0 v1 v2 : Value) :
    FreshR w.heap.size (((w2.setCell ⟨w.heap.size + 1, 0, none⟩ v0).setCell ⟨w.heap.size + 1, 1, none⟩ v1).setCell ⟨w.heap.size + 1, 2, none⟩ v2).heap.size (((w2.setCell ⟨w.heap.size + 1, 0, none⟩ v0).setCell ⟨w.heap.size + 1, 1, none⟩ v1).setCell ⟨w.heap.size + 1, 2, none⟩ v2) oa on oc O ∧
    FreshR w.heap.size (((w2.setCell ⟨w.heap.size + 1, 0, none⟩ v0).setCell ⟨w.heap.size + 1, 1, none⟩ v1).setCell ⟨w.heap.size + 1, 2, none⟩ v2).heap.size (((w2.setCell ⟨w.heap.size + 1, 0, none⟩ v0).setCell ⟨w.heap.size + 1, 1, none⟩ v1).setCell ⟨w.heap.size + 1, 2, none⟩ v2) na nn nc N ∧
    Below w.heap.size w (((w2.setCell ⟨w.heap.size + 1, 0, none⟩ v0).setCell ⟨w.heap.size + 1, 1, none⟩ v1).setCell ⟨w.heap.size + 1, 2, none⟩ v2) := by
  have s1 := h1.size
  have s2 := h2.size
  have g1 := set_high (f1.below h2).freshR (b := w.heap.size + 1) (by omega) v0 v1 v2
  have g2 := set_high f2.freshR (b := w.heap.size + 1) (by omega) v0 v1 v2
  have e : (((w2.setCell ⟨w.heap.size + 1, 0, none⟩ v0).setCell ⟨w.heap.size + 1, 1, none⟩ v1).setCell ⟨w.heap.size + 1, 2, none⟩ v2).heap.size = w2.heap.size := by simp
  rw [e]
  refine ⟨(g1.freshL.base (by omega)).freshR.mono (by rw [e]; exact Nat.le_refl _), (g2.freshL.base (by omega)).freshR.mono (by rw [e]; exact Nat.le_refl _), ?_⟩
  exact ((((hb.trans (h1.mono (by omega))).trans (h2.mono (by omega))).setCell (p := ⟨w.heap.size + 1, 0, none⟩) (by simp) _).setCell (p := ⟨w.heap.size + 1, 1, none⟩) (by simp) _).setCell (p := ⟨w.heap.size + 1, 2, none⟩) (by simp) _

set_option maxHeartbeats 4000000 in
theorem copied_any (F : Nat → Prop) (oa na : Option Addr) (oc nc : Nat) (c : Ch) (w : World) (ho : RdL F w oa c.old.length oc c.old) (hn : RdL F w na c.now.length nc c.now) (hok : OkC c) :
    Calls Try.prog 44 #[.agg #[.int .i64 c.pos, .slice oa c.old.length oc, .slice na c.now.length nc]] w (CopP w c) := by
  obtain ⟨p, O, N⟩ := c
  obtain ⟨-, -, -, k1, k2⟩ := hok
  simp only at k1 k2 ho hn
  obtain ⟨wb, hwb⟩ : ∃ wb, (w.alloc (.cells #[.int .i64 p, .slice oa O.length oc, .slice na N.length nc] 24)).alloc (.cells #[.int .i64 0, .slice none 0 0, .slice none 0 0] 24) = wb := ⟨_, rfl⟩
  have hsix := six_new w (.int .i64 p) (.slice oa O.length oc) (.slice na N.length nc)
  rw [hwb] at hsix
  have hsz : wb.heap.size = w.heap.size + 2 := by rw [← hwb]; simp
  have hB : Below w.heap.size w wb := by rw [← hwb]; exact ((Below.refl _ _).alloc (Nat.le_refl _) _).alloc (by simp) _
  rw [← hsz] at hsix
  have HO : Hid (∀ W, Hid (Below wb.heap.size wb W) → Calls Try.prog 42 #[.slice oa O.length oc] W fun e w' => ∃ a1 c1, e = .returned (.slice a1 O.length c1) ∧ Six w.heap.size (.int .i64 p) (.slice oa O.length oc) (.slice na N.length nc) w' ∧ Hid (Below wb.heap.size wb w') ∧ Hid (FreshL W.heap.size w' a1 O.length c1 O ∧ Below W.heap.size W w')) := by
    intro W hW
    have hs := hW.out.size
    refine (copiedLines_any F oa O.length oc O W (ho.below (hB.trans (hW.out.mono (by omega)))) k1).mono ?_
    rintro e w' ⟨a1, c1, rfl, hf, hb⟩
    have hb2 := hW.out.trans (hb.mono hs)
    exact ⟨a1, c1, rfl, hsix w' hb2, hb2, hf, hb⟩
  have HN : Hid (∀ W, Hid (Below wb.heap.size wb W) → Calls Try.prog 42 #[.slice na N.length nc] W fun e w' => ∃ a1 c1, e = .returned (.slice a1 N.length c1) ∧ Six w.heap.size (.int .i64 p) (.slice oa O.length oc) (.slice na N.length nc) w' ∧ Hid (Below wb.heap.size wb w') ∧ Hid (FreshL W.heap.size w' a1 N.length c1 N ∧ Below W.heap.size W w')) := by
    intro W hW
    have hs := hW.out.size
    refine (copiedLines_any F na N.length nc N W (hn.below (hB.trans (hW.out.mono (by omega)))) k2).mono ?_
    rintro e w' ⟨a1, c1, rfl, hf, hb⟩
    have hb2 := hW.out.trans (hb.mono hs)
    exact ⟨a1, c1, rfl, hsix w' hb2, hb2, hf, hb⟩
  have hx := hsix wb (Below.refl _ _)
  have hxd := hsix wb.drew (Below.refl _ _).drew
  have HB := Lib.hid hB
  have HS := Lib.hid hsz
  have HW := Lib.hid hwb
  unfold CopP
  simp only
  obtain ⟨x, hon⟩ : ∃ x, O.length = x := ⟨_, rfl⟩
  obtain ⟨y, hnn⟩ : ∃ y, N.length = y := ⟨_, rfl⟩
  rw [hon, hnn] at hx hxd HO HN HW
  rw [hon, hnn]
  have HR0 : Hid (Below wb.heap.size wb wb) := Below.refl _ _
  have HR1 : Hid (Below wb.heap.size wb wb.drew) := (Below.refl _ _).drew
  clear ho hn k1 k2 hwb hsix hsz hB hon hnn
  obtain ⟨b, hbe⟩ : ∃ b, w.heap.size = b := ⟨_, rfl⟩
  have HBE := Lib.hid hbe
  rw [hbe] at hx hxd HO HN
  clear hbe
  obtain ⟨c0, c1, c2, d0, d1, d2, z0, z1, z2, l0, l1⟩ := hx
  go_enter Try.func44, Try.ntmps44
  go_upto_region 1 with fail
  rw [HW.out, HBE.out]
  go_region_with (first
    | (go_at_call 42; (with_reducible refine (HO.out _ (by first | exact HR0 | exact HR1 | exact q2)).mono ?_); rintro e w1 ⟨a1, m1, rfl, ⟨e0, e1, e2, f0, f1, f2, y0, y1, y2, j0, j1⟩, q1, p1⟩)
    | (go_at_call 42; (with_reducible refine (HN.out _ (by first | exact HR0 | exact HR1 | exact q1)).mono ?_); rintro e w2 ⟨a2, m2, rfl, ⟨g0, g1, g2, h0, h1, h2, x0, x1, x2, i0, i1⟩, q2, p2⟩))
  all_goals
    go_wp2_with fail
    (try simp only [Exit.inBlock, Exit.then])
    refine bodyPost_ret (v := .agg #[.int .i64 p, .slice a1 x m1, .slice a2 y m2]) ?_ rfl ⟨_, _, _, _, rfl, ?_⟩
    · rw [results_cell1 rfl]
      go_simp
    · rw [← HBE.out]
      first
        | exact cop_end HB.out HS.out q1.out p1.out.1 p2.out.2 p2.out.1 _ _ _
        | exact (fun h => ⟨h.2.1, h.1, h.2.2⟩) (cop_end HB.out HS.out q2.out p2.out.1 p1.out.2 p1.out.1 _ _ _)
end Go.Proofs.Ytalhiedbhcklgaa.U
