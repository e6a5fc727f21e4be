/-
  The document's All: are two lists of named registers the same?
-/
import Derived.Test.YtleidcegbfnmkaaGPut
namespace Go.Proofs.Ytleidcegbfnmkaa.U
open Go.RowKit
set_option linter.unusedVariables false
set_option linter.unusedSimpArgs false
set_option maxRecDepth 100000

set_option maxHeartbeats 1500000 in
theorem rall_any (F G : Nat → Prop) (a1 a2 : Option Addr) (n1 n2 c1 c2 : Nat) (s t : List Nm) (w : World) (h1 : RdN F w a1 n1 c1 s) (h2 : RdN G w a2 n2 c2 t) :
    Calls Try.prog 17 #[.slice a1 n1 c1, .slice a2 n2 c2] w fun e w' => e = .returned (.bool (decide (s = t))) ∧ Below w.heap.size w w' := by
  have s1 := h1.small
  have s2 := h2.small
  have l1 := h1.len
  have l2 := h2.len
  by_cases hn : n1 = n2
  · subst hn
    have H := Lib.hid (And.intro h1 (And.intro h2 (And.intro l1 l2)))
    have hne : ((n1 : Int) != (n1 : Int)) = false := by simp
    clear h1 h2 l1 l2
    go_enter Try.func17, Try.ntmps17
    go_wp2
    go_loopw [5] (fun iv wr => ∃ i : Nat, iv = .int .i64 i ∧ i ≤ n1 ∧ Hid (Below w.heap.size w wr ∧ ∀ j, j < i → s.getD j nm0 = t.getD j nm0)) (fun iv _ => n1 - (intOf iv).toNat)
    case atStart => exact ⟨0, rfl, Nat.zero_le _, Below.refl _ _, fun j hj => by omega⟩
    case round =>
      obtain ⟨i, rfl, hin, HS⟩ := hrel
      by_cases hlt : i < n1
      · have hx : s[i]? = some (s.getD i nm0) := by rw [List.getD_eq_getElem?_getD, List.getElem?_eq_getElem (by have := H.out.2.2.1; omega)]; rfl
        have hy : t[i]? = some (t.getD i nm0) := by rw [List.getD_eq_getElem?_getD, List.getElem?_eq_getElem (by have := H.out.2.2.2; omega)]; rfl
        obtain ⟨x, ex⟩ : ∃ x, s.getD i nm0 = x := ⟨_, rfl⟩
        obtain ⟨y, ey⟩ : ∃ y, t.getD i nm0 = y := ⟨_, rfl⟩
        rw [ex] at hx
        rw [ey] at hy
        obtain ⟨b, off, ra, rc, rfl, hb, -, d0, d1, d2, hr1⟩ := H.out.1.get HS.out.1 hx
        obtain ⟨b', off', ra', rc', rfl, hb', -, g0, g1, g2, hr2⟩ := H.out.2.1.get HS.out.1 hy
        obtain ⟨xr, ⟨xk, xL⟩⟩ := x
        obtain ⟨yr, ⟨yk, yL⟩⟩ := y
        simp only at d0 d1 d2 g0 g1 g2 hr1 hr2
        have HE := Lib.hid (And.intro ex ey)
        have HSM : Hid (∀ W, Hid (Below wr.heap.size wr W) → Calls Try.prog 13 #[.agg #[.int .i64 xk, .slice ra xL.length rc], .agg #[.int .i64 yk, .slice ra' yL.length rc']] W fun e w' => e = .returned (.bool (decide (xk = yk) && decide (xL = yL))) ∧ Hid (Below wr.heap.size wr w' ∧ Below w.heap.size w w')) := by
          intro W hW
          refine (rsameR_any _ _ xk yk ra ra' xL.length yL.length rc rc' xL yL W (hr1.below hW.out) (hr2.below hW.out)).mono ?_
          rintro e w' ⟨rfl, h⟩
          have h5 := HS.out.1.trans (hW.out.mono HS.out.1.size)
          exact ⟨rfl, hW.out.trans (h.mono hW.out.size), h5.trans (h.mono h5.size)⟩
        have hbs : b < wr.heap.size := Nat.lt_of_lt_of_le hb HS.out.1.size
        have hbs' : b' < wr.heap.size := Nat.lt_of_lt_of_le hb' HS.out.1.size
        obtain ⟨m, hm⟩ : ∃ m, xL.length = m := ⟨_, rfl⟩
        obtain ⟨m', hm'⟩ : ∃ m, yL.length = m := ⟨_, rfl⟩
        rw [hm] at d2
        rw [hm'] at g2
        rw [hm, hm'] at HSM
        have HR0 : Hid (Below wr.heap.size wr wr) := Below.refl _ _
        have KS : Hid (∀ w', Below wr.heap.size wr w' → (w'.cell? ⟨b, off + i * 3, none⟩ = some (.int .i32 xr) ∧ w'.cell? ⟨b, off + i * 3 + 1, none⟩ = some (.int .i64 xk) ∧ w'.cell? ⟨b, off + i * 3 + 2, none⟩ = some (.slice ra m rc) ∧ w'.cell? ⟨b', off' + i * 3, none⟩ = some (.int .i32 yr) ∧ w'.cell? ⟨b', off' + i * 3 + 1, none⟩ = some (.int .i64 yk) ∧ w'.cell? ⟨b', off' + i * 3 + 2, none⟩ = some (.slice ra' m' rc'))) := fun W hW => ⟨(hW.cell (p := ⟨b, off + i * 3, none⟩) hbs).trans d0, (hW.cell (p := ⟨b, off + i * 3 + 1, none⟩) hbs).trans d1, (hW.cell (p := ⟨b, off + i * 3 + 2, none⟩) hbs).trans d2, (hW.cell (p := ⟨b', off' + i * 3, none⟩) hbs').trans g0, (hW.cell (p := ⟨b', off' + i * 3 + 1, none⟩) hbs').trans g1, (hW.cell (p := ⟨b', off' + i * 3 + 2, none⟩) hbs').trans g2⟩
        have HR1 : Hid (Below wr.heap.size wr wr.drew) := (Below.refl _ _).drew
        clear hx hy ex ey hr1 hr2 hm hm'
        by_cases hxy : xr = yr
        · have hq : (xr != yr) = false := by simp [hxy]
          have HXY := Lib.hid hxy
          clear hxy
          by_cases hsame : xk = yk ∧ xL = yL
          · have hbb : (decide (xk = yk) && decide (xL = yL)) = true := by simp [hsame.1, hsame.2]
            have HSA := Lib.hid hsame
            rw [hbb] at HSM
            clear hsame hbb
            go_wp2_with fail
            go_region_held3 (fun w' => (w'.cell? ⟨b, off + i * 3, none⟩ = some (.int .i32 xr) ∧ w'.cell? ⟨b, off + i * 3 + 1, none⟩ = some (.int .i64 xk) ∧ w'.cell? ⟨b, off + i * 3 + 2, none⟩ = some (.slice ra m rc) ∧ w'.cell? ⟨b', off' + i * 3, none⟩ = some (.int .i32 yr) ∧ w'.cell? ⟨b', off' + i * 3 + 1, none⟩ = some (.int .i64 yk) ∧ w'.cell? ⟨b', off' + i * 3 + 2, none⟩ = some (.slice ra' m' rc')))
              (first | exact KS.out _ HR0.out | exact KS.out _ HR1.out | exact KS.out _ HB5.out.1)
              (first | (go_at_call 13; (with_reducible refine (HSM.out _ HR1).mono ?_); rintro e w5 ⟨rfl, HB5⟩))
            all_goals
              go_wp2_with fail
              go_roundw
              case rel =>
                refine ⟨i + 1, by go_num, by omega, HB5.out.2, fun j hj => ?_⟩
                by_cases hji : j = i
                · subst hji
                  rw [HE.out.1, HE.out.2, HXY.out, HSA.out.1, HSA.out.2]
                · exact HS.out.2 j (by omega)
              case measure => simp [intOf]; omega
          · have hbb : (decide (xk = yk) && decide (xL = yL)) = false := by
              rw [Bool.and_eq_false_iff, decide_eq_false_iff_not, decide_eq_false_iff_not]
              by_cases h : xk = yk
              · exact .inr (fun h' => hsame ⟨h, h'⟩)
              · exact .inl h
            have hf : decide (s = t) = false := by
              rw [decide_eq_false_iff_not]
              intro e
              apply hsame
              have h5 := HE.out.1
              rw [e, HE.out.2] at h5
              simp only [Prod.mk.injEq, Rg.mk.injEq] at h5
              exact ⟨h5.2.1.symm, h5.2.2.symm⟩
            have HF := Lib.hid hf
            rw [hbb] at HSM
            clear hsame hbb hf
            go_wp2_with fail
            go_region_held3 (fun w' => (w'.cell? ⟨b, off + i * 3, none⟩ = some (.int .i32 xr) ∧ w'.cell? ⟨b, off + i * 3 + 1, none⟩ = some (.int .i64 xk) ∧ w'.cell? ⟨b, off + i * 3 + 2, none⟩ = some (.slice ra m rc) ∧ w'.cell? ⟨b', off' + i * 3, none⟩ = some (.int .i32 yr) ∧ w'.cell? ⟨b', off' + i * 3 + 1, none⟩ = some (.int .i64 yk) ∧ w'.cell? ⟨b', off' + i * 3 + 2, none⟩ = some (.slice ra' m' rc')))
              (first | exact KS.out _ HR0.out | exact KS.out _ HR1.out | exact KS.out _ HB5.out.1)
              (first | (go_at_call 13; (with_reducible refine (HSM.out _ HR1).mono ?_); rintro e w5 ⟨rfl, HB5⟩))
            all_goals
              go_wp2_with fail
              go_ret
              exact ⟨by rw [HF.out]; rfl, HB5.out.2⟩
        · have hq : (xr != yr) = true := by simpa using hxy
          have hf : decide (s = t) = false := by
            rw [decide_eq_false_iff_not]
            intro e
            apply hxy
            have h5 := HE.out.1
            rw [e, HE.out.2] at h5
            simp only [Prod.mk.injEq] at h5
            exact h5.1.symm
          have HF := Lib.hid hf
          clear hxy hf
          go_wp2
          go_quiet (fail)
          go_wp2
          go_ret
          exact ⟨by rw [HF.out]; rfl, bdrewN HS.out.1 nq⟩
      · obtain rfl : i = n1 := by omega
        go_wp2
        go_ret
        have : s = t := by
          refine List.ext_getElem (by rw [H.out.2.2.1, H.out.2.2.2]) (fun j hj1 hj2 => ?_)
          have h := HS.out.2 j (by rw [← H.out.2.2.1]; exact hj1)
          rw [List.getD_eq_getElem?_getD, List.getD_eq_getElem?_getD, List.getElem?_eq_getElem hj1, List.getElem?_eq_getElem hj2] at h
          simpa using h
        exact ⟨by simp [this], HS.out.1⟩
  · have hne : ((n1 : Int) != (n2 : Int)) = true := by simp; omega
    have hf : decide (s = t) = false := by
      rw [decide_eq_false_iff_not]
      rintro rfl
      omega
    rw [hf]
    clear h1 h2 l1 l2 hf
    go_enter Try.func17, Try.ntmps17
    go_wp2
    go_ret
    exact ⟨rfl, Below.refl _ _⟩
end Go.Proofs.Ytleidcegbfnmkaa.U
