/-
  The program's Put: what shifts.
-/
import Derived.Test.YtleidcegbfnmkaaHPutB
import Derived.Test.YtleidcegbfnmkaaHAll
import Derived.Test.YtleidcegbfnmkaaHJoinQ
import Derived.Test.YtleidcegbfnmkaaHShf
import Derived.Test.YtleidcegbfnmkaaHOver
import Derived.Test.YtleidcegbfnmkaaHCop
import Derived.Test.YtleidcegbfnmkaaGPut
import Derived.Deep.CutBlock
import Derived.Deep.RegionHeld3
namespace Go.Proofs.Ytleidcegbfnmkaa.U
open Go.RowKit
set_option linter.unusedVariables false
set_option linter.unusedSimpArgs false
set_option maxRecDepth 100000

set_option maxHeartbeats 4000000 in
/-- what shifts -/
theorem pputShift_any (F : Nat → Prop) (P : Nat → Prop) (bx : Nat) (s : List Nm) (r k : Int) (a : Option Addr) (n c : Nat) (L : List (List Int)) (d : Bool) (w : World) (h : GSt P w bx s) (hr : RdL F w a n c L) (hs : sizeR L ≤ 1048576) (hwr : (Lit.int .i32 r).wf = true) (tp : putN r = true) (tr : regB k L = true) (h95 : r ≠ 95) (htt : targetI r (normR ⟨k, L⟩).k (normR ⟨k, L⟩).L.length d = 49) (hput : putR s r ⟨k, L⟩ d = (finR (shiftR 8 s) 49 (normR ⟨k, L⟩), 0)) :
    Calls Try.prog 15 #[.pointer (some ⟨bx, 0, none⟩), .int .i32 r, rgV k a n c, .bool d] w fun e w' => e = .returned (.int .i64 (putR s r ⟨k, L⟩ d).2) ∧ AfG P w w' bx (putR s r ⟨k, L⟩ d).1 := by
  obtain ⟨-, k0, k2, hz⟩ := good_put s r k L d tp tr
  have t95 : (r == 95) = false := by simpa using h95
  have hnok := norm_ok (r := ⟨k, L⟩) k0 k2 hz
  clear k0 k2 hz h95
  unfold rgV
  have hwfL := lines_wfG hr
  have hlen := hr.len
  have hsm := hr.small
  obtain ⟨wb, hwb⟩ : ∃ wb, w.alloc (.cells #[.int .i64 k, .slice a n c] 31) = wb := ⟨_, rfl⟩
  have hbx := box_new w k a n c
  rw [hwb] at hbx
  have hsz : wb.heap.size = w.heap.size + 1 := by rw [← hwb]; simp
  have hB : Below w.heap.size w wb := by rw [← hwb]; exact (Below.refl _ _).alloc (Nat.le_refl _) _
  rw [← hsz] at hbx
  have hx := hbx wb (Below.refl _ _)
  have HIP : Hid (∀ W, Calls Try.prog 29 #[.int .i32 r] W fun e w' => e = .returned (.bool (putN r)) ∧ w' = W) := fun W => pput_any r W
  have HIR : Hid (∀ W, Hid (Below wb.heap.size wb W) → Calls Try.prog 30 #[.agg #[.int .i64 k, .slice a n c]] W fun e w' => e = .returned (.bool (regB k L)) ∧ BoxS w' w.heap.size k a n c ∧ Hid (Below wb.heap.size wb w')) := by
    intro W hW
    refine (preg_any F k a n c L W (hr.below (hB.trans (hW.out.mono (by omega)))) (by omega)).mono ?_
    rintro e w' ⟨rfl, hb⟩
    have hb2 := hW.out.trans (hb.mono hW.out.size)
    exact ⟨rfl, hbx w' hb2, hb2⟩
  have HCO : Hid (∀ W, Hid (Below wb.heap.size wb W) → Calls Try.prog 23 #[.agg #[.int .i64 k, .slice a n c]] W fun e w' => ∃ a2 c2, e = .returned (.agg #[.int .i64 k, .slice a2 n c2]) ∧ BoxS w' w.heap.size k a n c ∧ Hid (FreshL wb.heap.size w' a2 n c2 L ∧ Below wb.heap.size wb w')) := by
    intro W hW
    refine (pcopied_any F k a n c L W (hr.below (hB.trans (hW.out.mono (by omega)))) hs).mono ?_
    rintro e w' ⟨a2, c2, rfl, hf, hb⟩
    have hb2 := hW.out.trans (hb.mono hW.out.size)
    exact ⟨a2, c2, rfl, hbx w' hb2, hf.mono hW.out.size, hb2⟩
  have HR0 : Hid (Below wb.heap.size wb wb) := Below.refl _ _
  have HB := Lib.hid (And.intro hB hsz)
  have HW := Lib.hid hwb
  have HWF : Hid (∀ x ∈ L, ∀ y ∈ x, (Lit.int .i32 y).wf = true) := hwfL
  have HLN : Hid (L.length = n) := hlen
  have HH := Lib.hid h
  clear hr hwfL hwb hB hbx hsz hs hlen
  have HNO := Lib.hid hnok
  clear hnok
  have HPUT := Lib.hid hput
  clear hput
  obtain ⟨H, last, V, G, hgo, hsa⟩ := HH.out
  have HSA := Lib.hid hsa
  have HGO := Lib.hid hgo
  have hbxl := hgo.lt bx hgo.box
  have HTW : Hid ((Lit.int .i32 49).wf = true) := rfl
  have HTT := Lib.hid htt
  have HSP : Hid (spotI last 49 = 2 ∧ mayG (nameG 49) = true ∧ (49 : Int) ≠ 95) := ⟨rfl, by decide, by decide⟩
  obtain ⟨i, hi⟩ : ∃ i, 2 = i := ⟨_, rfl⟩
  have hil : i < 37 := by omega
  clear hgo hsa htt hi
  obtain ⟨b, hbe⟩ : ∃ b, w.heap.size = b := ⟨_, rfl⟩
  have HBE := Lib.hid hbe
  rw [hbe] at hx HIR HCO
  clear hbe
  obtain ⟨x0, x1, x2, x3, x4⟩ := hx
  go_enter Try.func15, Try.ntmps15
  go_upto_region 1 with fail
  rw [HW.out, HBE.out]
  go_upto_region 6 with (first
    | (go_at_call 29; (with_reducible refine (HIP.out _).mono ?_); rintro e wq ⟨rfl, hwq⟩; subst hwq; rw [tp])
    | (go_at_call 30; (with_reducible refine (HIR.out _ HR0).mono ?_); rintro e w1 ⟨rfl, ⟨e0, e1, e2, e3, e4⟩, HB1⟩; rw [tr])
    | (go_at_call 23; (with_reducible refine (HCO.out _ HB1).mono ?_); rintro e w2 ⟨a2, c2, rfl, ⟨g0, g1, g2, g3, g4⟩, HCP⟩))
  have hrx := rdy_box P bx s HW.out HCP.out.1 HCP.out.2 HWF.out HBE.out
  clear x0 x1 x2 x3 x4 e0 e1 e2 e3 e4 g0 g1 g2 g3 g4 HIP HIR HCO HR0 HB1 HCP HWF
  obtain ⟨ws, hws⟩ : ∃ ws, (w2.setCell ⟨b, 0, none⟩ (.int .i64 k)).setCell ⟨b, 1, none⟩ (.slice a2 n c2) = ws := ⟨_, rfl⟩
  rw [hws] at hrx
  rw [hws]
  obtain ⟨⟨i0, i1, i2, i3, i4⟩, HS2, HE⟩ := hrx
  clear hws
  go_upto_if 31 with fail
  go_cut [9] (fun v9 wx => v9 = undef ∧ ∃ (a2 : Option Addr) (n2 c2 : Nat), Hid (RdyH P w wx bx b s (normR ⟨k, L⟩) a2 n2 c2))
  case first =>
    by_cases hn0 : n = 0
    · have t0 : ((n : Int) == 0) = true := by simp [hn0]
      have HE2 : Hid _ := HE.out hn0
      have hbx := HE2.out.box
      rw [norm_k] at hbx
      obtain ⟨v0, v1, v2, v3, v4⟩ := hbx
      clear hn0
      go_wp2
      go_meet
      exact ⟨rfl, _, _, _, HE2⟩
    · have t0 : ((n : Int) == 0) = false := by simp; omega
      go_wp2
      go_meet
      exact ⟨rfl, _, _, _, HS2.out hn0⟩
  case rest =>
    obtain ⟨rfl, a3, n3, c3, HRD⟩ := hcut
    obtain ⟨wq, hwq⟩ : ∃ x, x = wc := ⟨_, rfl⟩
    subst hwq
    clear i0 i1 i2 i3 i4 HS2 HE HW
    have hbx := HRD.out.box
    rw [norm_k] at hbx
    obtain ⟨v0, v1, v2, v3, v4⟩ := hbx
    have hlen3 : (normR ⟨k, L⟩).L.length = n3 := HRD.out.len
    have hsm3 := HRD.out.own.small
    have HTG : Hid (Calls Try.prog 31 #[.int .i32 r, .agg #[.int .i64 k, .slice a3 n3 c3], .bool d] wq fun e w4 => e = .returned (.int .i32 49) ∧ BoxS w4 b k a3 n3 c3 ∧ (∀ j, w4.frozen? ⟨bx, j, none⟩ = false) ∧ bx < w4.heap.size ∧ w4.cell? ⟨bx, 74, none⟩ = some (.int .i64 (last : Nat)) ∧ w4.cell? ⟨bx, i * 2, none⟩ = some (.int .i64 (H i).k) ∧ w4.cell? ⟨bx, i * 2 + 1, none⟩ = some (.slice (V i).1 (H i).L.length (V i).2) ∧ Hid (RdyH P w w4 bx b s (normR ⟨k, L⟩) a3 n3 c3) ∧ Hid (Calls Try.prog 32 #[.pointer (some ⟨bx, 0, none⟩), .int .i64 2] w4 fun e w5 => e = .returned (.tuple #[]) ∧ BoxS w5 b k a3 n3 c3 ∧ (∀ j, w5.frozen? ⟨bx, j, none⟩ = false) ∧ bx < w5.heap.size ∧ (∃ u, w5.cell? ⟨bx, 4, none⟩ = some u) ∧ (∃ u, w5.cell? ⟨bx, 5, none⟩ = some u) ∧ (∃ u, w5.cell? ⟨bx, 74, none⟩ = some u) ∧ Hid (RdyH P w w4 bx b s (normR ⟨k, L⟩) a3 n3 c3 ∧ Fr (fun k => k = bx) w4 w5 ∧ ∃ cs cs1, w4.heap[bx]? = some (.cells cs 59 (0, 0)) ∧ w5.heap[bx]? = some (.cells cs1 59 (0, 0)) ∧ cs1.size = 75 ∧ (∀ j, 6 ≤ j → j < 22 → cs1[j]? = cs[j - 2]?) ∧ (∀ j, j < 6 ∨ 22 ≤ j → cs1[j]? = cs[j]?)))) := by
      refine (ptarget_any r k a3 n3 c3 d wq hsm3).mono ?_
      rintro e w4 ⟨rfl, hb4⟩
      have hr4 := HRD.out.below hb4
      have hx4 := hr4.box
      rw [norm_k] at hx4
      have hg4 := HGO.out.below hr4.be
      refine ⟨?_, hx4, hg4.frozen, hg4.lt bx hg4.box, hg4.lc, hg4.kc i hil, hg4.vc i hil, hr4, ?_⟩
      rotate_left
      · refine (pshift_any P w4 bx last H V G hg4).mono ?_
        rintro e w5 ⟨rfl, hf5, cs, cs1, q1, q2, q3, q4, q5⟩
        have hbn : b ≠ bx := by have := hr4.b0; have := HGO.out.lt bx HGO.out.box; omega
        exact ⟨rfl, hx4.fr hf5 hbn, fun j => frozen_row q2 j, heap_lt q2, ⟨_, (cell_row q2 4).trans (Array.getElem?_eq_getElem (by omega))⟩, ⟨_, (cell_row q2 5).trans (Array.getElem?_eq_getElem (by omega))⟩, ⟨_, (cell_row q2 74).trans (Array.getElem?_eq_getElem (by omega))⟩, hr4, hf5, cs, cs1, q1, q2, q3, q4, q5⟩
      rw [← HTT.out, norm_k, hlen3]
    have HPL : Hid (∀ W, W.cell? ⟨bx, 74, none⟩ = some (.int .i64 (last : Nat)) → Calls Try.prog 22 #[.pointer (some ⟨bx, 0, none⟩), .int .i32 49] W fun e w' => e = .returned (.tuple #[.int .i64 2, .bool true]) ∧ w' = W) := by
      intro W hc
      have h9 := pplace_any bx last 49 W hc HTW.out HSP.out.2.2
      rw [HSP.out.1, HSP.out.2.1] at h9
      exact h9
    clear hsm3
    go_upto_region 16 with (first
      | (go_at_call 31; (with_reducible refine HTG.out.mono ?_); rintro e w4 ⟨rfl, ⟨p0, p1, p2, p3, p4⟩, z0, z1, z2, z3, z4, HR4, HSHC⟩)
      | (go_at_call 22; (with_reducible refine (HPL.out _ z2).mono ?_); rintro e wp ⟨rfl, hwp⟩; subst hwp)
      | (go_at_call 32; (with_reducible refine HSHC.out.mono ?_); rintro e w5 ⟨rfl, ⟨o0, o1, o2, o3, o4⟩, r0, r1, ⟨u4, r2⟩, ⟨u5, r3⟩, ⟨u74, r4⟩, HSH⟩)
)
    have y0 := r0 4
    have y1 := r0 5
    have y2 := r0 74
    clear r0 z0 z1 z2 z3 z4 p0 p1 p2 p3 p4
    have HF0 : Hid (AfG P w (((w5.setCell ⟨bx, 4, none⟩ (.int .i64 k)).setCell ⟨bx, 5, none⟩ (.slice a3 n3 c3)).setCell ⟨bx, 74, none⟩ (.int .i64 2)) bx (putR s r ⟨k, L⟩ d).1) := by
      obtain ⟨hr5, hf5, cs, cs1, q1, q2, q3, q4, q5⟩ := HSH.out
      have hg4 := HGO.out.below hr5.be
      have hown := (hr5.own.fr hf5 (fun x hx e => by have := HGO.out.lt bx HGO.out.box; omega)).mono (G2 := fun k => w.heap.size ≤ k) (fun x _ hx => by omega)
      rw [← hr5.len] at hown
      have hokU := okH_shift HGO.out.ok HNO.out
      obtain ⟨P', g1, g2⟩ := hg4.shift q1 hf5 q2 q3 q4 q5 (fun x hx hp => by have := HGO.out.lt x hp; omega) hown hokU
      rw [norm_k, hr5.len] at g1
      have hq : allH (updH (shH H) 2 (normR ⟨k, L⟩)) 2 = (putR s r ⟨k, L⟩ d).1 := by
        rw [HPUT.out, HSA.out]
        exact (shift_all HGO.out.ok _ HNO.out.2.2.1).symm
      rw [hq] at g1
      have hs5 := hf5.size
      refine g1.af ?_ (fun q hq => ?_)
      · have hfw : Fr P w w5 := (Fr.of_below P hr5.be).trans hf5 (fun x hx e => by rw [e]; exact HGO.out.box)
        refine ((hfw.setCell ⟨bx, 4, none⟩ _ ?_).setCell ⟨bx, 5, none⟩ _ ?_).setCell ⟨bx, 74, none⟩ _ ?_ <;> exact fun _ => HGO.out.box
      · rcases g2 q hq with e | e
        · exact .inl e
        · exact .inr e.1
    go_region
    all_goals
      go_wp2_with fail
      go_ret
      exact ⟨by rw [HPUT.out]; rfl, by first | exact HF0.out.drew | exact HF0.out⟩
end Go.Proofs.Ytleidcegbfnmkaa.U
