/-
  The program's Put: under a capital letter.
-/
import Derived.Test.YtleidcegbfnmkaaHPutC
import Derived.Test.YtleidcegbfnmkaaHJoinQ
import Derived.StillTailTactics
import Derived.Test.YtleidcegbfnmkaaHShf
import Derived.Test.YtleidcegbfnmkaaHOver
import Derived.Test.YtleidcegbfnmkaaHCop
import Derived.Test.YtleidcegbfnmkaaGPut
import Derived.Deep.CutBlock
import Derived.Deep.RegionHeld3
namespace Go.Proofs.Ytleidcegbfnmkaa.U
open Go.RowKit
set_option linter.unusedVariables false
set_option linter.unusedSimpArgs false
set_option maxRecDepth 100000

theorem jn_size (g1 g2 : Rg) (h1 : g1.L = [] ∨ g1.ok) (h2 : g2.ok) : sizeR (jnR g1 g2).L = sizeR g1.L + sizeR g2.L - (if joinsB g1.L.length g1.k g2.k then 1 else 0) := by
  unfold jnR joinsB
  by_cases hL : g1.L = []
  · rw [if_pos hL, hL]
    simp [sizeR, lens, sizeN]
  · rw [if_neg hL]
    have hp : 0 < g1.L.length := List.length_pos_iff.2 hL
    unfold joinR
    by_cases hk : g1.k = 0 ∧ g2.k = 0
    · rw [if_pos hk]
      obtain ⟨A, x, ea⟩ : ∃ A x, g1.L = A ++ [x] := ⟨_, _, (List.dropLast_concat_getLast hL).symm⟩
      obtain ⟨y, B, eb⟩ : ∃ y B, g2.L = y :: B := List.exists_cons_of_ne_nil h2.2.2.1
      rw [ea, eb]
      simp only [List.dropLast_concat, List.getLastD_concat, List.headD_cons, List.tail_cons]
      simp only [size_app]
      simp [sizeR, lens, sizeN, hk.1, hk.2]
      omega
    · rw [if_neg hk, size_app]
      have : (decide (0 < g1.L.length) && decide (g1.k = 0) && decide (g2.k = 0)) = false := by
        simp only [Bool.and_eq_false_iff, decide_eq_false_iff_not]
        by_cases h : g1.k = 0
        · exact .inr (fun e => hk ⟨h, e⟩)
        · exact .inl (.inr h)
      rw [this]
      simp
theorem jn_ok {g1 g2 : Rg} (h1 : g1.L = [] ∨ g1.ok) (h2 : g2.ok) (hs : sizeR (jnR g1 g2).L ≤ 65536) : (jnR g1 g2).ok := by
  unfold jnR at hs ⊢
  by_cases hL : g1.L = []
  · rw [if_pos hL]; exact h2
  · rw [if_neg hL] at hs ⊢
    have := join_size (h1.resolve_left hL).2.2.1 h2.2.2.1
    exact ⟨this.2.2.1, this.2.2.2, this.2.1, hs⟩
theorem grown_jn (H : Nat → Rg) (last : Nat) {m : Int} (hm : nmB m = true) (h34 : m ≠ 34) (g : Rg) : grownR (allH H last) m g = jnR (H (plI m)) g := by
  unfold grownR jnR
  rw [all_holds, if_pos hm]
  unfold atH plN
  rw [if_neg h34]
  by_cases h : (H (plI m)).L = []
  · rw [held_none h, if_pos h]
  · rw [held_some h, if_neg h]
theorem big_put (s : List Nm) (r k : Int) (L : List (List Int)) (d : Bool) (h2 : regB k L = true) (hb : bigR r = true) : putR s r ⟨k, L⟩ d = if 65536 < sizeR (grownR s (r + 32) (normR ⟨k, L⟩)).L then (s, 3) else (finR s (r + 32) (grownR s (r + 32) (normR ⟨k, L⟩)), 0) := by
  have hg := good_put s r k L d (by unfold putN; rw [hb]; simp) h2
  unfold putR
  have : r ≠ 95 := by
    rintro rfl
    revert hb
    decide
  rw [hg.1, if_neg (by simp), if_neg this, if_pos hb]
set_option maxHeartbeats 4000000 in
/-- under a capital letter -/
theorem pputBig_any (F : Nat → Prop) (P : Nat → Prop) (bx : Nat) (s : List Nm) (r k : Int) (a : Option Addr) (n c : Nat) (L : List (List Int)) (d : Bool) (w : World) (h : GSt P w bx s) (hr : RdL F w a n c L) (hs : sizeR L ≤ 1048576) (hwr : (Lit.int .i32 r).wf = true) (tp : putN r = true) (tr : regB k L = true) (h95 : r ≠ 95) (h95' : r ≠ 95) (hbig : bigR r = true) :
    Calls Try.prog 15 #[.pointer (some ⟨bx, 0, none⟩), .int .i32 r, rgV k a n c, .bool d] w fun e w' => e = .returned (.int .i64 (putR s r ⟨k, L⟩ d).2) ∧ AfG P w w' bx (putR s r ⟨k, L⟩ d).1 := by
  obtain ⟨-, k0, k2, hz⟩ := good_put s r k L d tp tr
  have t95 : (r == 95) = false := by simpa using h95
  have hnok := norm_ok (r := ⟨k, L⟩) k0 k2 hz
  clear k0 k2 hz h95
  unfold rgV
  have hwfL := lines_wfG hr
  have hlen := hr.len
  have hsm := hr.small
  obtain ⟨wb, hwb⟩ : ∃ wb, w.alloc (.cells #[.int .i64 k, .slice a n c] 31) = wb := ⟨_, rfl⟩
  have hbx := box_new w k a n c
  rw [hwb] at hbx
  have hsz : wb.heap.size = w.heap.size + 1 := by rw [← hwb]; simp
  have hB : Below w.heap.size w wb := by rw [← hwb]; exact (Below.refl _ _).alloc (Nat.le_refl _) _
  rw [← hsz] at hbx
  have hx := hbx wb (Below.refl _ _)
  have HIP : Hid (∀ W, Calls Try.prog 29 #[.int .i32 r] W fun e w' => e = .returned (.bool (putN r)) ∧ w' = W) := fun W => pput_any r W
  have HIR : Hid (∀ W, Hid (Below wb.heap.size wb W) → Calls Try.prog 30 #[.agg #[.int .i64 k, .slice a n c]] W fun e w' => e = .returned (.bool (regB k L)) ∧ BoxS w' w.heap.size k a n c ∧ Hid (Below wb.heap.size wb w')) := by
    intro W hW
    refine (preg_any F k a n c L W (hr.below (hB.trans (hW.out.mono (by omega)))) (by omega)).mono ?_
    rintro e w' ⟨rfl, hb⟩
    have hb2 := hW.out.trans (hb.mono hW.out.size)
    exact ⟨rfl, hbx w' hb2, hb2⟩
  have HCO : Hid (∀ W, Hid (Below wb.heap.size wb W) → Calls Try.prog 23 #[.agg #[.int .i64 k, .slice a n c]] W fun e w' => ∃ a2 c2, e = .returned (.agg #[.int .i64 k, .slice a2 n c2]) ∧ BoxS w' w.heap.size k a n c ∧ Hid (FreshL wb.heap.size w' a2 n c2 L ∧ Below wb.heap.size wb w')) := by
    intro W hW
    refine (pcopied_any F k a n c L W (hr.below (hB.trans (hW.out.mono (by omega)))) hs).mono ?_
    rintro e w' ⟨a2, c2, rfl, hf, hb⟩
    have hb2 := hW.out.trans (hb.mono hW.out.size)
    exact ⟨a2, c2, rfl, hbx w' hb2, hf.mono hW.out.size, hb2⟩
  have HR0 : Hid (Below wb.heap.size wb wb) := Below.refl _ _
  have HB := Lib.hid (And.intro hB hsz)
  have HW := Lib.hid hwb
  have HWF : Hid (∀ x ∈ L, ∀ y ∈ x, (Lit.int .i32 y).wf = true) := hwfL
  have HLN : Hid (L.length = n) := hlen
  have HH := Lib.hid h
  clear hr hwfL hwb hB hbx hsz hs hlen
  have HNO := Lib.hid hnok
  clear hnok
  obtain ⟨H, last, V, G, hgo, hsa⟩ := HH.out
  have hbr : 65 ≤ r ∧ r ≤ 90 := by
    unfold bigR at hbig
    simp only [Bool.and_eq_true, decide_eq_true_eq] at hbig
    exact hbig
  have hnm : nmB (r + 32) = true := by unfold nmB littleR; simp; omega
  have h34 : r + 32 ≠ 34 := by omega
  have hil := plI_lt hnm
  have hsp : spotI last r = ((plI (r + 32) : Nat) : Int) ∧ mayG (nameG r) = true := by
    have h1 := spot_big last hbr.1 hbr.2
    rw [h1.1]
    refine ⟨?_, h1.2⟩
    unfold plI
    rw [if_neg (by omega), if_neg (by omega)]
    omega
  have htt : targetI r k (normR ⟨k, L⟩).L.length d = r := by unfold targetI; rw [if_pos (by omega)]
  have hi11 : 10 < plI (r + 32) := by
    unfold plI
    rw [if_neg (by omega), if_neg (by omega)]
    omega
  have HPUT : Hid (putR s r ⟨k, L⟩ d = if 65536 < sizeR (jnR (H (plI (r + 32))) (normR ⟨k, L⟩)).L then (s, 3) else (finR s (r + 32) (jnR (H (plI (r + 32))) (normR ⟨k, L⟩)), 0)) := by
    have h1 := big_put s r k L d tr hbig
    rw [hsa, grown_jn H last hnm h34] at h1
    rw [← hsa] at h1
    exact h1
  have HFA : Hid (∀ g : Rg, g.L ≠ [] → finR s (r + 32) g = allH (updH H (plI (r + 32)) g) (plI (r + 32))) := by
    intro g hg
    rw [hsa]
    exact fin_all H last (r + 32) g hg hnm h34
  have HGO := Lib.hid hgo
  have hbxl := hgo.lt bx hgo.box
  have HSP := Lib.hid (And.intro hsp.1 (And.intro hsp.2 h95'))
  have HTW : Hid ((Lit.int .i32 r).wf = true) := hwr
  have e49 : (r == 49) = false := by simp; omega
  have HTT := Lib.hid htt
  obtain ⟨i, hi⟩ : ∃ i, plI (r + 32) = i := ⟨_, rfl⟩
  rw [hi] at HPUT HFA HSP hil hi11
  have HI11 := Lib.hid hi11
  have tbg : bigR r = true := hbig
  have hok1 := hgo.ok.ok i hil
  have HO1 := Lib.hid hok1
  obtain ⟨m1, hm1⟩ : ∃ m, (H i).L.length = m := ⟨_, rfl⟩
  have HM1 := Lib.hid hm1
  have HG0 : Hid (∀ x, G i x → x < w.heap.size) := fun x hx => hgo.lt x (hgo.gp i hil x hx).1
  clear hgo hsa hnm h34 hsp htt hi hi11 hbr hok1 hm1 hbig
  obtain ⟨b, hbe⟩ : ∃ b, w.heap.size = b := ⟨_, rfl⟩
  have HBE := Lib.hid hbe
  rw [hbe] at hx HIR HCO
  clear hbe
  obtain ⟨x0, x1, x2, x3, x4⟩ := hx
  go_enter Try.func15, Try.ntmps15
  go_upto_region 1 with fail
  rw [HW.out, HBE.out]
  go_upto_region 6 with (first
    | (go_at_call 29; (with_reducible refine (HIP.out _).mono ?_); rintro e wq ⟨rfl, hwq⟩; subst hwq; rw [tp])
    | (go_at_call 30; (with_reducible refine (HIR.out _ HR0).mono ?_); rintro e w1 ⟨rfl, ⟨e0, e1, e2, e3, e4⟩, HB1⟩; rw [tr])
    | (go_at_call 23; (with_reducible refine (HCO.out _ HB1).mono ?_); rintro e w2 ⟨a2, c2, rfl, ⟨g0, g1, g2, g3, g4⟩, HCP⟩))
  have hrx := rdy_box P bx s HW.out HCP.out.1 HCP.out.2 HWF.out HBE.out
  clear x0 x1 x2 x3 x4 e0 e1 e2 e3 e4 g0 g1 g2 g3 g4 HIP HIR HCO HR0 HB1 HCP HWF
  obtain ⟨ws, hws⟩ : ∃ ws, (w2.setCell ⟨b, 0, none⟩ (.int .i64 k)).setCell ⟨b, 1, none⟩ (.slice a2 n c2) = ws := ⟨_, rfl⟩
  rw [hws] at hrx
  rw [hws]
  obtain ⟨⟨i0, i1, i2, i3, i4⟩, HS2, HE⟩ := hrx
  clear hws
  go_upto_if 31 with fail
  go_cut [9] (fun v9 wx => v9 = undef ∧ ∃ (a2 : Option Addr) (n2 c2 : Nat), Hid (RdyH P w wx bx b s (normR ⟨k, L⟩) a2 n2 c2))
  case first =>
    by_cases hn0 : n = 0
    · have t0 : ((n : Int) == 0) = true := by simp [hn0]
      have HE2 : Hid _ := HE.out hn0
      have hbx := HE2.out.box
      rw [norm_k] at hbx
      obtain ⟨v0, v1, v2, v3, v4⟩ := hbx
      clear hn0
      go_wp2
      go_meet
      exact ⟨rfl, _, _, _, HE2⟩
    · have t0 : ((n : Int) == 0) = false := by simp; omega
      go_wp2
      go_meet
      exact ⟨rfl, _, _, _, HS2.out hn0⟩
  case rest =>
    obtain ⟨rfl, a3, n3, c3, HRD⟩ := hcut
    obtain ⟨wq, hwq⟩ : ∃ x, x = wc := ⟨_, rfl⟩
    subst hwq
    clear i0 i1 i2 i3 i4 HS2 HE HW
    have hbx := HRD.out.box
    rw [norm_k] at hbx
    obtain ⟨v0, v1, v2, v3, v4⟩ := hbx
    have hlen3 : (normR ⟨k, L⟩).L.length = n3 := HRD.out.len
    have hsm3 := HRD.out.own.small
    have HTG : Hid (Calls Try.prog 31 #[.int .i32 r, .agg #[.int .i64 k, .slice a3 n3 c3], .bool d] wq fun e w4 => e = .returned (.int .i32 r) ∧ w4.cell? ⟨bx, 74, none⟩ = some (.int .i64 (last : Nat)) ∧ Hid (RdyH P w w4 bx b s (normR ⟨k, L⟩) a3 n3 c3)) := by
      refine (ptarget_any r k a3 n3 c3 d wq hsm3).mono ?_
      rintro e w4 ⟨rfl, hb4⟩
      have hr4 := HRD.out.below hb4
      refine ⟨?_, (HGO.out.below hr4.be).lc, hr4⟩
      rw [← hlen3, HTT.out]
    have HPL : Hid (∀ W, W.cell? ⟨bx, 74, none⟩ = some (.int .i64 (last : Nat)) → Calls Try.prog 22 #[.pointer (some ⟨bx, 0, none⟩), .int .i32 r] W fun e w' => e = .returned (.tuple #[.int .i64 (i : Nat), .bool true]) ∧ w' = W) := by
      intro W hc
      have h9 := pplace_any bx last r W hc HTW.out HSP.out.2.2
      rw [HSP.out.1, HSP.out.2.1] at h9
      exact h9
    have HCA : Hid (∀ W, Calls Try.prog 33 #[.int .i32 r] W fun e w' => e = .returned (.bool (bigR r)) ∧ w' = W) := fun W => pcap_any r W
    have HLN3 := Lib.hid hlen3
    clear hsm3 hlen3
    go_upto_region 13 with (first
      | (go_at_call 31; (with_reducible refine HTG.out.mono ?_); rintro e w4 ⟨rfl, z2, HR4⟩)
      | (go_at_call 22; (with_reducible refine (HPL.out _ z2).mono ?_); rintro e wp ⟨rfl, hwp⟩; subst hwp)
      | (go_at_call 33; (with_reducible refine (HCA.out _).mono ?_); rintro e wp ⟨rfl, hwp⟩; subst hwp; rw [tbg]))
    have hg4 := HGO.out.below HR4.out.be
    have z3 := hg4.kc i hil
    have z4 := hg4.vc i hil
    rw [HM1.out] at z4
    have hbx4 := HR4.out.box
    rw [norm_k] at hbx4
    obtain ⟨p0, p1, p2, p3, p4⟩ := hbx4
    have z1 := hg4.lt bx hg4.box
    have hov := pover_any (G i) (fun x => w.heap.size < x ∧ x < wp.heap.size) (H i).k k (V i).1 a3 (H i).L.length n3 (V i).2 c3 (H i).L (normR ⟨k, L⟩).L wp.drew ((hg4.own i hil).below (Below.refl _ _).drew).rdl (HR4.out.own.below (Below.refl _ _).drew).rdl (by rcases HO1.out with q | q; rw [q]; simp [sizeR, lens, sizeN]; have := q.2.2.2; omega) (by have := HNO.out.2.2.2; omega)
    rw [HM1.out] at hov
    have HOV : Hid (Calls Try.prog 34 #[.agg #[.int .i64 (H i).k, .slice (V i).1 m1 (V i).2], .agg #[.int .i64 k, .slice a3 n3 c3]] wp.drew fun e w5 => e = .returned (.bool (decide (65536 < sizeR (jnR (H i) (normR ⟨k, L⟩)).L))) ∧ BoxS w5 b k a3 n3 c3 ∧ bx < w5.heap.size ∧ w5.cell? ⟨bx, i * 2, none⟩ = some (.int .i64 (H i).k) ∧ w5.cell? ⟨bx, i * 2 + 1, none⟩ = some (.slice (V i).1 m1 (V i).2) ∧ Hid (RdyH P w w5 bx b s (normR ⟨k, L⟩) a3 n3 c3)) := by
      refine hov.mono ?_
      rintro e w5 ⟨rfl, hb5⟩
      have hb5' : Below wp.heap.size wp w5 := ⟨hb5.os, hb5.tape, hb5.output, hb5.size, hb5.block⟩
      have hr5 := HR4.out.below hb5'
      have hx5 := hr5.box
      rw [norm_k] at hx5
      have hg5 := HGO.out.below hr5.be
      refine ⟨?_, hx5, hg5.lt bx hg5.box, hg5.kc i hil, by rw [← HM1.out]; exact hg5.vc i hil, hr5⟩
      rw [jn_size _ _ HO1.out HNO.out, norm_k, HM1.out]
      rfl
    clear hg4 hov HTG HPL HCA
    have hilI : (i : Int) < 37 := by omega
    have hilJ : (0 : Int) ≤ (i : Int) := by omega
    have KS0 : Hid (wp.drew.cell? ⟨b, 0, none⟩ = some (.int .i64 k) ∧ wp.drew.cell? ⟨b, 1, none⟩ = some (.slice a3 n3 c3) ∧ wp.drew.cell? ⟨bx, i * 2, none⟩ = some (.int .i64 (H i).k) ∧ wp.drew.cell? ⟨bx, i * 2 + 1, none⟩ = some (.slice (V i).1 m1 (V i).2)) := ⟨p0, p1, z3, z4⟩
    have KS1 : Hid (wp.cell? ⟨b, 0, none⟩ = some (.int .i64 k) ∧ wp.cell? ⟨b, 1, none⟩ = some (.slice a3 n3 c3) ∧ wp.cell? ⟨bx, i * 2, none⟩ = some (.int .i64 (H i).k) ∧ wp.cell? ⟨bx, i * 2 + 1, none⟩ = some (.slice (V i).1 m1 (V i).2)) := ⟨p0, p1, z3, z4⟩
    by_cases hbig : 65536 < sizeR (jnR (H i) (normR ⟨k, L⟩)).L
    · rw [decide_eq_true hbig] at HOV
      rw [if_pos hbig] at HPUT
      clear hbig
      go_region_held3 (fun W => (W.cell? ⟨b, 0, none⟩ = some (.int .i64 k) ∧ W.cell? ⟨b, 1, none⟩ = some (.slice a3 n3 c3) ∧ W.cell? ⟨bx, i * 2, none⟩ = some (.int .i64 (H i).k) ∧ W.cell? ⟨bx, i * 2 + 1, none⟩ = some (.slice (V i).1 m1 (V i).2)))
        (first | exact KS0.out | exact KS1.out | exact ⟨o0, o1, r3, r4⟩)
        (first | (go_at_call 34; (with_reducible refine HOV.out.mono ?_); rintro e w5 ⟨rfl, ⟨o0, o1, o2, o3, o4⟩, r1, r3, r4, HR5⟩))
      go_wp2_with fail
      go_ret
      exact ⟨by rw [HPUT.out]; rfl, by rw [HPUT.out]; exact HH.out.same HR5.out.be⟩
    · rw [decide_eq_false hbig] at HOV
      rw [if_neg hbig] at HPUT
      have HJK := Lib.hid (jn_ok HO1.out HNO.out (by omega))
      clear hbig
      go_region_held3 (fun W => (W.cell? ⟨b, 0, none⟩ = some (.int .i64 k) ∧ W.cell? ⟨b, 1, none⟩ = some (.slice a3 n3 c3) ∧ W.cell? ⟨bx, i * 2, none⟩ = some (.int .i64 (H i).k) ∧ W.cell? ⟨bx, i * 2 + 1, none⟩ = some (.slice (V i).1 m1 (V i).2)))
        (first | exact KS0.out | exact KS1.out | exact ⟨o0, o1, r3, r4⟩)
        (first | (go_at_call 34; (with_reducible refine HOV.out.mono ?_); rintro e w5 ⟨rfl, ⟨o0, o1, o2, o3, o4⟩, r1, r3, r4, HR5⟩))
      go_upto_region 15 with fail
      have hg5 := HGO.out.below HR5.out.be
      have hown2 := HR5.out.own
      rw [← HR5.out.len] at hown2
      have hjn := pjoined_any (G i) (fun x => w.heap.size < x ∧ x < w5.heap.size) (H i) (normR ⟨k, L⟩) (V i).1 a3 (V i).2 c3 w5.drew ((hg5.own i hil).below (Below.refl _ _).drew) (hown2.below (Below.refl _ _).drew) (fun x q1 q2 => by have := HG0.out x q1; omega) (fun x q1 => by have := HG0.out x q1; have := HR5.out.be.size; show x < w5.heap.size; omega) (fun x q => q.2) HO1.out HNO.out
      rw [HM1.out, norm_k, HR5.out.len] at hjn
      obtain ⟨rj, hrj⟩ : ∃ g, jnR (H i) (normR ⟨k, L⟩) = g := ⟨_, rfl⟩
      rw [hrj] at hjn HPUT HJK
      have HJN : Hid (Calls Try.prog 35 #[.agg #[.int .i64 (H i).k, .slice (V i).1 m1 (V i).2], .agg #[.int .i64 k, .slice a3 n3 c3]] w5.drew fun e w6 => ∃ a5 n5 c5, e = .returned (.agg #[.int .i64 rj.k, .slice a5 n5 c5]) ∧ BoxS w6 b k a3 n3 c3 ∧ bx < w6.heap.size ∧ (∀ j, w6.frozen? ⟨bx, j, none⟩ = false) ∧ (∃ u, w6.cell? ⟨bx, i * 2, none⟩ = some u) ∧ (∃ u, w6.cell? ⟨bx, i * 2 + 1, none⟩ = some u) ∧ (∃ u, w6.cell? ⟨bx, 74, none⟩ = some u) ∧
          Hid (n5 = rj.L.length ∧ OwnL (fun k => G i k ∨ w.heap.size ≤ k) ((w6.setCell ⟨b, 0, none⟩ (.int .i64 rj.k)).setCell ⟨b, 1, none⟩ (.slice a5 n5 c5)) a5 n5 c5 rj.L ∧ Fr (G i) w ((w6.setCell ⟨b, 0, none⟩ (.int .i64 rj.k)).setCell ⟨b, 1, none⟩ (.slice a5 n5 c5)))) := by
        refine hjn.mono ?_
        rintro e w6 ⟨a5, c5, rfl, ho6, hf6⟩
        have hx5 := HR5.out.box
        rw [norm_k] at hx5
        have hb0 := HR5.out.b0
        have hf6' : Fr (G i) w5 w6 := ⟨hf6.os, hf6.tape, hf6.output, hf6.size, hf6.block⟩
        have hfw : Fr (G i) w w6 := (Fr.of_below (G i) HR5.out.be).trans hf6' (fun _ _ h => h)
        have hs5 := HR5.out.be.size
        have hbl := hx5.l
        have hbG : ¬ G i b := fun q => by have := HG0.out b q; omega
        obtain ⟨cs, q1, q2⟩ := hg5.row
        have hbxn : ¬ G i bx := fun q => (HGO.out.gp i hil bx q).2 rfl
        have q3 := (hf6'.block bx (heap_lt q1) hbxn).trans q1
        refine ⟨a5, _, c5, rfl, hx5.fr hf6' hbG, heap_lt q3, fun j => frozen_row q3 j, ⟨_, (cell_row q3 _).trans (Array.getElem?_eq_getElem (by omega))⟩, ⟨_, (cell_row q3 _).trans (Array.getElem?_eq_getElem (by omega))⟩, ⟨_, (cell_row q3 74).trans (Array.getElem?_eq_getElem (by omega))⟩, rfl, ?_, fr_end hfw (by omega) _ _⟩
        refine (own_end ho6 (fun q => ?_) _ _).mono (fun x _ q => ?_)
        · rcases q with q | q | q
          · exact hbG q
          · omega
          · have q' : w5.heap.size ≤ b := q
            omega
        · rcases q with q | q | q
          · exact .inl q
          · exact .inr (by omega)
          · have q' : w5.heap.size ≤ x := q
            exact .inr (by omega)
      clear hg5 hown2 hjn hrj
      have o0' : w5.drew.cell? ⟨b, 0, none⟩ = some (.int .i64 k) := o0

      clear KS0 KS1 HOV p0 p1 p2 p3 p4 z1 z2 z3 z4
      go_region_law (first
        | (go_simp; go_at_call 35; (with_reducible refine HJN.out.mono ?_); rintro e w6 ⟨a5, n5, c5, rfl, ⟨s0, s1, s2, s3, s4⟩, y3, z0, ⟨u1, y4⟩, ⟨u2, y5⟩, ⟨u3, y6⟩, HF6⟩))
      all_goals
        go_upto_region 16 with fail
        have hf6 := HF6.out.2.2
        have hbne : b ≠ bx := by have := HR5.out.b0; omega
        have hbx6 : BoxS ((w6.setCell ⟨b, 0, none⟩ (.int .i64 rj.k)).setCell ⟨b, 1, none⟩ (.slice a5 n5 c5)) b rj.k a5 n5 c5 := BoxS.store ⟨s0, s1, s2, s3, s4⟩ _ _ _ _
        have HFB : Hid (Fr (fun x => x = b) w6 ((w6.setCell ⟨b, 0, none⟩ (.int .i64 rj.k)).setCell ⟨b, 1, none⟩ (.slice a5 n5 c5))) := ((Fr.refl (fun x => x = b) w6).setCell ⟨b, 0, none⟩ _ (fun _ => rfl)).setCell ⟨b, 1, none⟩ _ (fun _ => rfl)
        obtain ⟨w7, hw7⟩ : ∃ w7, (w6.setCell ⟨b, 0, none⟩ (.int .i64 rj.k)).setCell ⟨b, 1, none⟩ (.slice a5 n5 c5) = w7 := ⟨_, rfl⟩
        rw [hw7] at HF6 hbx6 HFB
        rw [hw7]
        have hblk := HFB.out.block bx y3 (fun e => hbne e.symm)
        have y0 : w7.frozen? ⟨bx, i * 2, none⟩ = false := by have := z0 (i * 2); simp only [World.frozen?] at this ⊢; rw [hblk]; exact this
        have y1 : w7.frozen? ⟨bx, i * 2 + 1, none⟩ = false := by have := z0 (i * 2 + 1); simp only [World.frozen?] at this ⊢; rw [hblk]; exact this
        have y2 : w7.frozen? ⟨bx, 74, none⟩ = false := by have := z0 74; simp only [World.frozen?] at this ⊢; rw [hblk]; exact this
        have y4' := (cell_block hblk).trans y4
        have y5' := (cell_block hblk).trans y5
        have y6' := (cell_block hblk).trans y6
        have y3' : bx < w7.heap.size := Nat.lt_of_lt_of_le y3 HFB.out.size
        obtain ⟨v0', v1', v2', v3', v4'⟩ := hbx6
        have HF0 : Hid (AfG P w (((w7.setCell ⟨bx, i * 2, none⟩ (.int .i64 rj.k)).setCell ⟨bx, i * 2 + 1, none⟩ (.slice a5 n5 c5)).setCell ⟨bx, 74, none⟩ (.int .i64 (i : Nat))) bx (putR s r ⟨k, L⟩ d).1) := by
          obtain ⟨hn5, ho7, hf7⟩ := HF6.out
          subst hn5
          have hokU : OkH (updH H i rj) i := okH_upd HGO.out.ok hil HJK.out (.inr (.inl HI11.out))
          have hput := HGO.out.put hil hf7 ho7 hokU
          have hq : allH (updH H i rj) i = (putR s r ⟨k, L⟩ d).1 := by
            rw [HPUT.out]
            exact (HFA.out _ HJK.out.2.2.1).symm
          rw [hq] at hput
          refine hput.af ?_ (fun q hq => by rcases hq with e | e; exact .inl e; exact .inr e.1)
          have hfP : Fr P w w7 := hf7.mono (fun x _ hx => (HGO.out.gp i hil x hx).1)
          refine ((hfP.setCell ⟨bx, i * 2, none⟩ _ ?_).setCell ⟨bx, i * 2 + 1, none⟩ _ ?_).setCell ⟨bx, 74, none⟩ _ ?_ <;> exact fun _ => HGO.out.box
        clear hblk hw7 z0 y3 y4 y5 y6 s0 s1 s2 s3 s4 hf6
        go_region
        all_goals
          go_wp2_with fail
          go_ret
          exact ⟨by rw [HPUT.out]; rfl, by first | exact HF0.out.drew | exact HF0.out⟩
end Go.Proofs.Ytleidcegbfnmkaa.U
