/-
  The program's joined.
-/
import Derived.Test.YtleidcegbfnmkaaHJoin
namespace Go.Proofs.Ytleidcegbfnmkaa.U
open Go.RowKit
set_option linter.unusedVariables false
set_option linter.unusedSimpArgs false
set_option maxRecDepth 100000

/-- what is held, and something behind it -/
def jnR (g1 g2 : Rg) : Rg := if g1.L = [] then g2 else joinR g1 g2
theorem own_end {F : Nat → Prop} {b : Nat} {W : World} {a : Option Addr} {n c : Nat} {L : List (List Int)} (h : OwnL F W a n c L) (hn : ¬ F b) (v0 v1 : Value) : OwnL F ((W.setCell ⟨b, 0, none⟩ v0).setCell ⟨b, 1, none⟩ v1) a n c L := by
  have hf : Fr (fun k => k = b) W ((W.setCell ⟨b, 0, none⟩ v0).setCell ⟨b, 1, none⟩ v1) := ((Fr.refl (fun k => k = b) W).setCell ⟨b, 0, none⟩ _ (fun _ => rfl)).setCell ⟨b, 1, none⟩ _ (fun _ => rfl)
  exact h.fr hf (fun k hk e => hn (by rw [← e]; exact hk))
theorem fr_end {F : Nat → Prop} {b : Nat} {w W : World} (h : Fr F w W) (hb : w.heap.size ≤ b) (v0 v1 : Value) : Fr F w ((W.setCell ⟨b, 0, none⟩ v0).setCell ⟨b, 1, none⟩ v1) :=
  (h.setCell ⟨b, 0, none⟩ _ (fun e => by simp only at e; omega)).setCell ⟨b, 1, none⟩ _ (fun e => by simp only at e; omega)
set_option maxHeartbeats 4000000 in
theorem pjoinedA_any (k1 k2 : Int) (a1 a2 : Option Addr) (n2 c1 c2 : Nat) (w : World) :
    Calls Try.prog 35 #[rgV k1 a1 0 c1, rgV k2 a2 n2 c2] w fun e w' => e = .returned (rgV k2 a2 n2 c2) ∧ Below w.heap.size w w' := by
  unfold rgV
  obtain ⟨wb, hwb⟩ : ∃ wb, ((w.alloc (.cells #[.int .i64 k1, .slice a1 0 c1] 31)).alloc (.cells #[.int .i64 k2, .slice a2 n2 c2] 31)).alloc (.cells #[.int .i64 0, .slice none 0 0] 31) = wb := ⟨_, rfl⟩
  have hnin := nin_new w (.int .i64 k1) (.slice a1 0 c1) (.int .i64 k2) (.slice a2 n2 c2)
  rw [hwb] at hnin
  have hsz : wb.heap.size = w.heap.size + 3 := by rw [← hwb]; simp
  have hB : Below w.heap.size w wb := by rw [← hwb]; exact (((Below.refl _ _).alloc (Nat.le_refl _) _).alloc (by simp) _).alloc (by simp; omega) _
  have hx := hnin wb (by rw [← hsz]; exact Below.refl _ _)
  have HB := Lib.hid hB
  have HW := Lib.hid hwb
  clear hwb hB hnin hsz
  obtain ⟨b, hbe⟩ : ∃ b, w.heap.size = b := ⟨_, rfl⟩
  have HBE := Lib.hid hbe
  rw [hbe] at hx
  clear hbe
  obtain ⟨x0, x1, y0, y1, f0, f1, z0, z1, l0, l1, l2⟩ := hx
  go_enter Try.func35, Try.ntmps35
  go_upto_region 1 with fail
  rw [HW.out, HBE.out]
  go_wp2_with fail
  (try simp only [Exit.inBlock, Exit.then])
  refine bodyPost_ret (v := .agg #[.int .i64 k2, .slice a2 n2 c2]) ?_ rfl ⟨rfl, ?_⟩
  · rw [results_cell1 rfl]
    go_simp
  · have h1 := HB.out
    have h2 := HBE.out
    refine Below.setCell (Below.setCell h1 ?_ _) ?_ _ <;> simp <;> omega
set_option maxHeartbeats 4000000 in
theorem pjoinedC_any (G G2 : Nat → Prop) (k1 k2 : Int) (a1 a2 : Option Addr) (n1 n2 c1 c2 : Nat) (L M : List (List Int)) (w : World) (h1 : OwnL G w a1 n1 c1 L) (h2 : OwnL G2 w a2 n2 c2 M) (hd : ∀ x, G x → ¬ G2 x) (hG : ∀ x, G x → x < w.heap.size) (hG2 : ∀ x, G2 x → x < w.heap.size) (hn0 : 0 < n1) (hn1 : n1 ≤ 65536) (hn2 : n2 ≤ 65536) (hk : ¬ (k1 = 0 ∧ k2 = 0)) :
    Calls Try.prog 35 #[rgV k1 a1 n1 c1, rgV k2 a2 n2 c2] w fun e w' => ∃ a c, e = .returned (rgV 1 a (n1 + n2) c) ∧ OwnL (fun x => G x ∨ G2 x ∨ w.heap.size ≤ x) w' a (n1 + n2) c (L ++ M) ∧ Fr G w w' := by
  unfold rgV
  obtain ⟨wb, hwb⟩ : ∃ wb, ((w.alloc (.cells #[.int .i64 k1, .slice a1 n1 c1] 31)).alloc (.cells #[.int .i64 k2, .slice a2 n2 c2] 31)).alloc (.cells #[.int .i64 0, .slice none 0 0] 31) = wb := ⟨_, rfl⟩
  have hnin := nin_fr w (.int .i64 k1) (.slice a1 n1 c1) (.int .i64 k2) (.slice a2 n2 c2)
  rw [hwb] at hnin
  have hsz : wb.heap.size = w.heap.size + 3 := by rw [← hwb]; simp
  have hB : Below w.heap.size w wb := by rw [← hwb]; exact (((Below.refl _ _).alloc (Nat.le_refl _) _).alloc (by simp) _).alloc (by simp; omega) _
  have HJ : Hid (Calls Try.prog 42 #[.agg #[.int .i64 k1, .slice a1 n1 c1], .agg #[.int .i64 k2, .slice a2 n2 c2]] wb fun e w1 => ∃ a3 c3 w3, e = .returned (.bool false) ∧ Nin w.heap.size (.int .i64 k1) (.slice a1 n1 c1) (.int .i64 k2) (.slice a2 n2 c2) w1 ∧ Hid (∀ ty, (Builtin.append_ #[29, 29] ty #[.slice a1 n1 c1, .slice a2 n2 c2]).run Try.prog w1 = .ok (.slice a3 (n1 + n2) c3) w3) ∧ Nin w.heap.size (.int .i64 k1) (.slice a1 n1 c1) (.int .i64 k2) (.slice a2 n2 c2) w3 ∧
      Hid (OwnL (fun x => G x ∨ G2 x ∨ w.heap.size + 3 ≤ x) w3 a3 (n1 + n2) c3 (L ++ M) ∧ Fr G w w3)) := by
    refine (pjoins_any k1 k2 a1 a2 n1 n2 c1 c2 wb (by omega)).mono ?_
    rintro e w1 ⟨rfl, hb1⟩
    have hw1 : Below w.heap.size w w1 := hB.trans (hb1.mono (by omega))
    obtain ⟨us, u1, u2, u3⟩ := h2.below hw1
    obtain ⟨a3, c3, w3, hrun, hown, hfr⟩ := own_app w1 G G2 a1 n1 c1 L a2 n2 c2 us M (h1.below hw1) (Rc.own u1) u3 hd (by omega)
    have hs1 := hb1.size
    have f3 : Fr G w w3 := (Fr.of_below G hw1).trans hfr (fun _ _ h => h)
    refine ⟨a3, c3, w3, by unfold joinsB; simp [hk]; intro _ e1 e2; exact hk ⟨e1, e2⟩, hnin (fun _ => False) w1 (Fr.of_below _ hb1) (fun _ _ _ h => h), hrun, hnin G w3 ((Fr.of_below G hb1).trans hfr (fun _ _ h => h)) (fun k q1 q2 q3 => by have := hG k q3; omega), hown.mono (fun k _ q => ?_), f3⟩
    rcases q with q | q | q
    · exact .inl q
    · exact .inr (.inl q)
    · exact .inr (.inr (by omega))
  have hx := hnin (fun _ => False) wb (Fr.refl _ _) (fun _ _ _ h => h)
  have HB := Lib.hid (And.intro hB (And.intro hG hG2))
  have HW := Lib.hid hwb
  clear h1 h2 hwb hB hnin hsz hd hG hG2
  obtain ⟨b, hbe⟩ : ∃ b, w.heap.size = b := ⟨_, rfl⟩
  have HBE := Lib.hid hbe
  rw [hbe] at hx HJ
  clear hbe
  obtain ⟨x0, x1, y0, y1, f0, f1, z0, z1, l0, l1, l2⟩ := hx
  go_enter Try.func35, Try.ntmps35
  go_upto_region 1 with fail
  rw [HW.out, HBE.out]
  go_wp2_with (first
    | (go_at_call 42; (with_reducible refine HJ.out.mono ?_); rintro e w1 ⟨a3, c3, w3, rfl, ⟨e0, e1, g0, g1, i0, i1, j0, j1, o0, o1, o2⟩, HRUN, ⟨r0, r1, r2, r3, r4, r5, r6, r7, r8, r9, r10⟩, HFIN⟩)
    | (at_builtin; go_must (with_reducible refine Lib.wpList_append_run _ rfl _ _ _ _ rfl _ _ rfl rfl _ _ (HRUN.out _) ?_)))
  (try simp only [Exit.inBlock, Exit.then])
  refine bodyPost_ret (v := .agg #[.int .i64 1, .slice a3 (n1 + n2) c3]) ?_ rfl ⟨a3, c3, rfl, ?_, ?_⟩
  · rw [results_cell1 rfl]
    go_simp
  · refine (own_end HFIN.out.1 (fun q => ?_) _ _).mono (fun k _ q => ?_)
    · rcases q with q | q | q
      · have := HB.out.2.1 _ q; have := HBE.out; omega
      · have := HB.out.2.2 _ q; have := HBE.out; omega
      · omega
    · have := HBE.out
      rcases q with q | q | q
      · exact .inl q
      · exact .inr (.inl q)
      · exact .inr (.inr (by omega))
  · exact fr_end HFIN.out.2 (by have := HBE.out; omega) _ _
end Go.Proofs.Ytleidcegbfnmkaa.U
