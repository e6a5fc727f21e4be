/-
  The program's Put: under a small letter, 0 or -.
-/
import Derived.Test.YtleidcegbfnmkaaHPut
import Derived.Test.YtleidcegbfnmkaaHAll
import Derived.Test.YtleidcegbfnmkaaHJoinQ
import Derived.Test.YtleidcegbfnmkaaHShf
import Derived.Test.YtleidcegbfnmkaaHOver
import Derived.Test.YtleidcegbfnmkaaHCop
import Derived.Test.YtleidcegbfnmkaaGPut
import Derived.Deep.CutBlock
import Derived.Deep.RegionHeld3
namespace Go.Proofs.Ytleidcegbfnmkaa.U
open Go.RowKit
set_option linter.unusedVariables false
set_option linter.unusedSimpArgs false
set_option maxRecDepth 100000

theorem AfG.drew {P : Nat → Prop} {w W : World} {bx : Nat} {s : List Nm} (h : AfG P w W bx s) : AfG P w W.drew bx s := by
  obtain ⟨P', h1, h2, h3⟩ := h
  exact ⟨P', h1.below (Below.refl _ _).drew, h2.drew, h3⟩
set_option maxHeartbeats 4000000 in
/-- under a small letter, 0 or - -/
theorem pputPlain_any (F : Nat → Prop) (P : Nat → Prop) (bx : Nat) (s : List Nm) (r k : Int) (a : Option Addr) (n c : Nat) (L : List (List Int)) (d : Bool) (w : World) (h : GSt P w bx s) (hr : RdL F w a n c L) (hs : sizeR L ≤ 1048576) (hwr : (Lit.int .i32 r).wf = true) (tp : putN r = true) (tr : regB k L = true) (h95 : r ≠ 95) (t : Int) (htt : targetI r (normR ⟨k, L⟩).k (normR ⟨k, L⟩).L.length d = t) (hnm : nmB t = true) (h34 : t ≠ 34) (h49 : t ≠ 49) (hbig : bigR t = false) (hdig : plI t < 3 ∨ 10 < plI t) (hput : putR s r ⟨k, L⟩ d = (finR s t (normR ⟨k, L⟩), 0)) :
    Calls Try.prog 15 #[.pointer (some ⟨bx, 0, none⟩), .int .i32 r, rgV k a n c, .bool d] w fun e w' => e = .returned (.int .i64 (putR s r ⟨k, L⟩ d).2) ∧ AfG P w w' bx (putR s r ⟨k, L⟩ d).1 := by
  obtain ⟨-, k0, k2, hz⟩ := good_put s r k L d tp tr
  have t95 : (r == 95) = false := by simpa using h95
  have hnok := norm_ok (r := ⟨k, L⟩) k0 k2 hz
  clear k0 k2 hz h95
  unfold rgV
  have hwfL := lines_wfG hr
  have hlen := hr.len
  have hsm := hr.small
  obtain ⟨wb, hwb⟩ : ∃ wb, w.alloc (.cells #[.int .i64 k, .slice a n c] 31) = wb := ⟨_, rfl⟩
  have hbx := box_new w k a n c
  rw [hwb] at hbx
  have hsz : wb.heap.size = w.heap.size + 1 := by rw [← hwb]; simp
  have hB : Below w.heap.size w wb := by rw [← hwb]; exact (Below.refl _ _).alloc (Nat.le_refl _) _
  rw [← hsz] at hbx
  have hx := hbx wb (Below.refl _ _)
  have HIP : Hid (∀ W, Calls Try.prog 29 #[.int .i32 r] W fun e w' => e = .returned (.bool (putN r)) ∧ w' = W) := fun W => pput_any r W
  have HIR : Hid (∀ W, Hid (Below wb.heap.size wb W) → Calls Try.prog 30 #[.agg #[.int .i64 k, .slice a n c]] W fun e w' => e = .returned (.bool (regB k L)) ∧ BoxS w' w.heap.size k a n c ∧ Hid (Below wb.heap.size wb w')) := by
    intro W hW
    refine (preg_any F k a n c L W (hr.below (hB.trans (hW.out.mono (by omega)))) (by omega)).mono ?_
    rintro e w' ⟨rfl, hb⟩
    have hb2 := hW.out.trans (hb.mono hW.out.size)
    exact ⟨rfl, hbx w' hb2, hb2⟩
  have HCO : Hid (∀ W, Hid (Below wb.heap.size wb W) → Calls Try.prog 23 #[.agg #[.int .i64 k, .slice a n c]] W fun e w' => ∃ a2 c2, e = .returned (.agg #[.int .i64 k, .slice a2 n c2]) ∧ BoxS w' w.heap.size k a n c ∧ Hid (FreshL wb.heap.size w' a2 n c2 L ∧ Below wb.heap.size wb w')) := by
    intro W hW
    refine (pcopied_any F k a n c L W (hr.below (hB.trans (hW.out.mono (by omega)))) hs).mono ?_
    rintro e w' ⟨a2, c2, rfl, hf, hb⟩
    have hb2 := hW.out.trans (hb.mono hW.out.size)
    exact ⟨a2, c2, rfl, hbx w' hb2, hf.mono hW.out.size, hb2⟩
  have HR0 : Hid (Below wb.heap.size wb wb) := Below.refl _ _
  have HB := Lib.hid (And.intro hB hsz)
  have HW := Lib.hid hwb
  have HWF : Hid (∀ x ∈ L, ∀ y ∈ x, (Lit.int .i32 y).wf = true) := hwfL
  have HLN : Hid (L.length = n) := hlen
  have HH := Lib.hid h
  clear hr hwfL hwb hB hbx hsz hs hlen
  have HNO := Lib.hid hnok
  clear hnok
  have HPUT := Lib.hid hput
  clear hput
  obtain ⟨H, last, V, G, hgo, hsa⟩ := HH.out
  have HSA := Lib.hid hsa
  have HGO := Lib.hid hgo
  have hbxl := hgo.lt bx hgo.box
  have hil := plI_lt hnm
  have HNM := Lib.hid (And.intro hnm (And.intro h34 (And.intro h49 hbig)))
  have HTW : Hid ((Lit.int .i32 t).wf = true) := nmB_wf hnm
  have e49 : (t == 49) = false := by simpa using h49
  have HTT := Lib.hid htt
  have HDG := Lib.hid hdig
  have hsp : spotI last t = ((plI t : Nat) : Int) ∧ mayG (nameG t) = true := by
    have h2 := nmB_name hnm
    unfold spotI
    rw [h2.1, h2.2]
    exact ⟨by unfold plN; rw [if_neg h34]; rfl, rfl⟩
  have ht95 : t ≠ 95 := by
    rintro rfl
    revert hnm
    decide
  have HSP := Lib.hid (And.intro hsp.1 (And.intro hsp.2 ht95))
  obtain ⟨i, hi⟩ : ∃ i, plI t = i := ⟨_, rfl⟩
  have HI := Lib.hid hi
  rw [hi] at hil
  clear hgo hsa hnm h34 h49 hsp ht95 hi htt hdig
  obtain ⟨b, hbe⟩ : ∃ b, w.heap.size = b := ⟨_, rfl⟩
  have HBE := Lib.hid hbe
  rw [hbe] at hx HIR HCO
  clear hbe
  obtain ⟨x0, x1, x2, x3, x4⟩ := hx
  go_enter Try.func15, Try.ntmps15
  go_upto_region 1 with fail
  rw [HW.out, HBE.out]
  go_upto_region 6 with (first
    | (go_at_call 29; (with_reducible refine (HIP.out _).mono ?_); rintro e wq ⟨rfl, hwq⟩; subst hwq; rw [tp])
    | (go_at_call 30; (with_reducible refine (HIR.out _ HR0).mono ?_); rintro e w1 ⟨rfl, ⟨e0, e1, e2, e3, e4⟩, HB1⟩; rw [tr])
    | (go_at_call 23; (with_reducible refine (HCO.out _ HB1).mono ?_); rintro e w2 ⟨a2, c2, rfl, ⟨g0, g1, g2, g3, g4⟩, HCP⟩))
  have hrx := rdy_box P bx s HW.out HCP.out.1 HCP.out.2 HWF.out HBE.out
  clear x0 x1 x2 x3 x4 e0 e1 e2 e3 e4 g0 g1 g2 g3 g4 HIP HIR HCO HR0 HB1 HCP HWF
  obtain ⟨ws, hws⟩ : ∃ ws, (w2.setCell ⟨b, 0, none⟩ (.int .i64 k)).setCell ⟨b, 1, none⟩ (.slice a2 n c2) = ws := ⟨_, rfl⟩
  rw [hws] at hrx
  rw [hws]
  obtain ⟨⟨i0, i1, i2, i3, i4⟩, HS2, HE⟩ := hrx
  clear hws
  go_upto_if 31 with fail
  go_cut [9] (fun v9 wx => v9 = undef ∧ ∃ (a2 : Option Addr) (n2 c2 : Nat), Hid (RdyH P w wx bx b s (normR ⟨k, L⟩) a2 n2 c2))
  case first =>
    by_cases hn0 : n = 0
    · have t0 : ((n : Int) == 0) = true := by simp [hn0]
      have HE2 : Hid _ := HE.out hn0
      have hbx := HE2.out.box
      rw [norm_k] at hbx
      obtain ⟨v0, v1, v2, v3, v4⟩ := hbx
      clear hn0
      go_wp2
      go_meet
      exact ⟨rfl, _, _, _, HE2⟩
    · have t0 : ((n : Int) == 0) = false := by simp; omega
      go_wp2
      go_meet
      exact ⟨rfl, _, _, _, HS2.out hn0⟩
  case rest =>
    obtain ⟨rfl, a3, n3, c3, HRD⟩ := hcut
    obtain ⟨wq, hwq⟩ : ∃ x, x = wc := ⟨_, rfl⟩
    subst hwq
    clear i0 i1 i2 i3 i4 HS2 HE HW
    have hbx := HRD.out.box
    rw [norm_k] at hbx
    obtain ⟨v0, v1, v2, v3, v4⟩ := hbx
    have hlen3 : (normR ⟨k, L⟩).L.length = n3 := HRD.out.len
    have hsm3 := HRD.out.own.small
    have HTG : Hid (Calls Try.prog 31 #[.int .i32 r, .agg #[.int .i64 k, .slice a3 n3 c3], .bool d] wq fun e w4 => e = .returned (.int .i32 t) ∧ BoxS w4 b k a3 n3 c3 ∧ (∀ j, w4.frozen? ⟨bx, j, none⟩ = false) ∧ bx < w4.heap.size ∧ w4.cell? ⟨bx, 74, none⟩ = some (.int .i64 (last : Nat)) ∧ w4.cell? ⟨bx, i * 2, none⟩ = some (.int .i64 (H i).k) ∧ w4.cell? ⟨bx, i * 2 + 1, none⟩ = some (.slice (V i).1 (H i).L.length (V i).2) ∧ Hid (RdyH P w w4 bx b s (normR ⟨k, L⟩) a3 n3 c3)) := by
      refine (ptarget_any r k a3 n3 c3 d wq hsm3).mono ?_
      rintro e w4 ⟨rfl, hb4⟩
      have hr4 := HRD.out.below hb4
      have hx4 := hr4.box
      rw [norm_k] at hx4
      have hg4 := HGO.out.below hr4.be
      refine ⟨?_, hx4, hg4.frozen, hg4.lt bx hg4.box, hg4.lc, hg4.kc i hil, hg4.vc i hil, hr4⟩
      rw [← HTT.out, norm_k, hlen3]
    have HPL : Hid (∀ W, W.cell? ⟨bx, 74, none⟩ = some (.int .i64 (last : Nat)) → Calls Try.prog 22 #[.pointer (some ⟨bx, 0, none⟩), .int .i32 t] W fun e w' => e = .returned (.tuple #[.int .i64 (i : Nat), .bool true]) ∧ w' = W) := by
      intro W hc
      have h9 := pplace_any bx last t W hc HTW.out HSP.out.2.2
      rw [HSP.out.1, HSP.out.2.1, HI.out] at h9
      exact h9
    have HCA : Hid (∀ W, Calls Try.prog 33 #[.int .i32 t] W fun e w' => e = .returned (.bool (bigR t)) ∧ w' = W) := fun W => pcap_any t W
    have tbg : bigR t = false := HNM.out.2.2.2
    clear hsm3
    go_upto_region 16 with (first
      | (go_at_call 31; (with_reducible refine HTG.out.mono ?_); rintro e w4 ⟨rfl, ⟨p0, p1, p2, p3, p4⟩, z0, z1, z2, z3, z4, HR4⟩)
      | (go_at_call 22; (with_reducible refine (HPL.out _ z2).mono ?_); rintro e wp ⟨rfl, hwp⟩; subst hwp)
      | (go_at_call 33; (with_reducible refine (HCA.out _).mono ?_); rintro e wp ⟨rfl, hwp⟩; subst hwp; rw [tbg]))
    have y0 := z0 (i * 2)
    have y1 := z0 (i * 2 + 1)
    have y2 := z0 74
    clear z0
    have HF0 : Hid (AfG P w (((wp.setCell ⟨bx, i * 2, none⟩ (.int .i64 k)).setCell ⟨bx, i * 2 + 1, none⟩ (.slice a3 n3 c3)).setCell ⟨bx, 74, none⟩ (.int .i64 (i : Nat))) bx (putR s r ⟨k, L⟩ d).1) := by
      have hf := Fr.of_below (G i) HR4.out.be
      have hown := HR4.out.own
      have hle := HR4.out.b0
      rw [← HR4.out.len] at hown
      have hokU : OkH (updH H i (normR ⟨k, L⟩)) i := okH_upd HGO.out.ok hil HNO.out (by
        have h4 := HDG.out
        rw [HI.out] at h4
        rcases h4 with h4 | h4
        · exact .inl h4
        · exact .inr (.inl h4))
      have hput := HGO.out.put hil hf (hown.mono (fun x _ hx => .inr (by omega))) hokU
      rw [norm_k, HR4.out.len] at hput
      have hq : allH (updH H i (normR ⟨k, L⟩)) i = (putR s r ⟨k, L⟩ d).1 := by
        rw [HPUT.out, HSA.out, ← HI.out]
        exact (fin_all H last t _ HNO.out.2.2.1 HNM.out.1 HNM.out.2.1).symm
      rw [hq] at hput
      refine hput.af ?_ (fun q hq => by rcases hq with e | e; exact .inl e; exact .inr e.1)
      refine (((Fr.of_below P HR4.out.be).setCell ⟨bx, i * 2, none⟩ _ ?_).setCell ⟨bx, i * 2 + 1, none⟩ _ ?_).setCell ⟨bx, 74, none⟩ _ ?_ <;> exact fun _ => HGO.out.box
    go_region
    all_goals
      go_wp2_with fail
      go_ret
      exact ⟨by rw [HPUT.out]; rfl, by first | exact HF0.out.drew | exact HF0.out⟩
end Go.Proofs.Ytleidcegbfnmkaa.U
