/-
  The contract of the document's Turned.
-/
import Derived.Test.YtalhiedbhcklgaaVCh
namespace Go.Proofs.Ytalhiedbhcklgaa.U
open Go.RowKit
set_option linter.unusedVariables false
set_option linter.unusedSimpArgs false
set_option maxRecDepth 100000

set_option maxHeartbeats 4000000 in
theorem rturned_any (F : Nat → Prop) (oa na : Option Addr) (oc nc : Nat) (c : Ch) (w : World) (ho : RdL F w oa c.old.length oc c.old) (hn : RdL F w na c.now.length nc c.now) (hok : OkC c) :
    Calls Try.prog 18 #[.agg #[.int .i64 c.pos, .slice oa c.old.length oc, .slice na c.now.length nc]] w (CopP w (turnC c)) := by
  obtain ⟨p, O, N⟩ := c
  obtain ⟨-, -, -, k1, k2⟩ := hok
  simp only at k1 k2 ho hn
  obtain ⟨wb, hwb⟩ : ∃ wb, (w.alloc (.cells #[.int .i64 p, .slice oa O.length oc, .slice na N.length nc] 24)).alloc (.cells #[.int .i64 0, .slice none 0 0, .slice none 0 0] 24) = wb := ⟨_, rfl⟩
  have hsix := six_new w (.int .i64 p) (.slice oa O.length oc) (.slice na N.length nc)
  rw [hwb] at hsix
  have hsz : wb.heap.size = w.heap.size + 2 := by rw [← hwb]; simp
  have hB : Below w.heap.size w wb := by rw [← hwb]; exact ((Below.refl _ _).alloc (Nat.le_refl _) _).alloc (by simp) _
  rw [← hsz] at hsix
  have HO : Hid (∀ W, Hid (Below wb.heap.size wb W) → Calls Try.prog 11 #[.slice oa O.length oc] W fun e w' => ∃ a1 c1, e = .returned (.slice a1 O.length c1) ∧ Six w.heap.size (.int .i64 p) (.slice oa O.length oc) (.slice na N.length nc) w' ∧ Hid (Below wb.heap.size wb w') ∧ Hid (FreshL W.heap.size w' a1 O.length c1 O ∧ Below W.heap.size W w')) := by
    intro W hW
    have hs := hW.out.size
    refine (rtwin_any F oa O.length oc O W (ho.below (hB.trans (hW.out.mono (by omega)))) k1).mono ?_
    rintro e w' ⟨a1, c1, rfl, hf, hb⟩
    have hb2 := hW.out.trans (hb.mono hs)
    exact ⟨a1, c1, rfl, hsix w' hb2, hb2, hf, hb⟩
  have HN : Hid (∀ W, Hid (Below wb.heap.size wb W) → Calls Try.prog 11 #[.slice na N.length nc] W fun e w' => ∃ a1 c1, e = .returned (.slice a1 N.length c1) ∧ Six w.heap.size (.int .i64 p) (.slice oa O.length oc) (.slice na N.length nc) w' ∧ Hid (Below wb.heap.size wb w') ∧ Hid (FreshL W.heap.size w' a1 N.length c1 N ∧ Below W.heap.size W w')) := by
    intro W hW
    have hs := hW.out.size
    refine (rtwin_any F na N.length nc N W (hn.below (hB.trans (hW.out.mono (by omega)))) k2).mono ?_
    rintro e w' ⟨a1, c1, rfl, hf, hb⟩
    have hb2 := hW.out.trans (hb.mono hs)
    exact ⟨a1, c1, rfl, hsix w' hb2, hb2, hf, hb⟩
  have hx := hsix wb (Below.refl _ _)
  have hxd := hsix wb.drew (Below.refl _ _).drew
  have HB := Lib.hid hB
  have HS := Lib.hid hsz
  have HW := Lib.hid hwb
  unfold CopP
  unfold turnC
  simp only
  obtain ⟨x, hon⟩ : ∃ x, O.length = x := ⟨_, rfl⟩
  obtain ⟨y, hnn⟩ : ∃ y, N.length = y := ⟨_, rfl⟩
  rw [hon, hnn] at hx hxd HO HN HW
  rw [hon, hnn]
  have HR0 : Hid (Below wb.heap.size wb wb) := Below.refl _ _
  have HR1 : Hid (Below wb.heap.size wb wb.drew) := (Below.refl _ _).drew
  clear ho hn k1 k2 hwb hsix hsz hB hon hnn
  obtain ⟨b, hbe⟩ : ∃ b, w.heap.size = b := ⟨_, rfl⟩
  have HBE := Lib.hid hbe
  rw [hbe] at hx hxd HO HN
  clear hbe
  obtain ⟨c0, c1, c2, d0, d1, d2, z0, z1, z2, l0, l1⟩ := hx
  go_enter Try.func18, Try.ntmps18
  go_upto_region 1 with fail
  rw [HW.out, HBE.out]
  go_region_with (first
    | (go_at_call 11; (with_reducible refine (HO.out _ (by first | exact HR0 | exact HR1 | exact q2)).mono ?_); rintro e w1 ⟨a1, m1, rfl, ⟨e0, e1, e2, f0, f1, f2, y0, y1, y2, j0, j1⟩, q1, p1⟩)
    | (go_at_call 11; (with_reducible refine (HN.out _ (by first | exact HR0 | exact HR1 | exact q1)).mono ?_); rintro e w2 ⟨a2, m2, rfl, ⟨g0, g1, g2, h0, h1, h2, x0, x1, x2, i0, i1⟩, q2, p2⟩))
  all_goals
    go_wp2_with fail
    (try simp only [Exit.inBlock, Exit.then])
    refine bodyPost_ret (v := .agg #[.int .i64 p, .slice a2 y m2, .slice a1 x m1]) ?_ rfl ⟨_, _, _, _, rfl, ?_⟩
    · rw [results_cell1 rfl]
      go_simp
    · rw [← HBE.out]
      first
        | exact cop_end HB.out HS.out q2.out p2.out.1 p1.out.2 p1.out.1 _ _ _
        | exact (fun h => ⟨h.2.1, h.1, h.2.2⟩) (cop_end HB.out HS.out q1.out p1.out.1 p2.out.2 p2.out.1 _ _ _)
end Go.Proofs.Ytalhiedbhcklgaa.U
