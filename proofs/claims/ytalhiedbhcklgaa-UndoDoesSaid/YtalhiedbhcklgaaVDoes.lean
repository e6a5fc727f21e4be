/-
  The walk of UndoDoes.
-/
import Derived.Test.YtalhiedbhcklgaaVSwp
import Derived.Test.YtalhiedbhcklgaaVRDo
import Derived.Test.YtalhiedbhcklgaaVChT
import Derived.Test.YtalhiedbhcklgaaVChR
import Derived.Test.YtalhiedbhcklgaaVTurn
import Derived.Test.YtalhiedbhcklgaaVArg
import Derived.Test.YtalhiedbhcklgaaVAwakeW
import Derived.Deep.RegionHeld3
namespace Go.Proofs.Ytalhiedbhcklgaa.U
open Go.RowKit
set_option linter.unusedVariables false
set_option linter.unusedSimpArgs false
set_option maxRecDepth 100000

theorem doC_wf {L : List (List Int)} {c : Ch} (h1 : wfL L) (h2 : wfL c.now) : wfL (doC L c).1 := by
  unfold doC
  split
  · split
    · intro x hx; cases hx
    · intro x hx
      simp only [List.mem_append] at hx
      rcases hx with h | h | h
      · exact h1 x (List.mem_of_mem_take h)
      · exact h2 x h
      · exact h1 x (List.mem_of_mem_drop h)
  · intro x hx; cases hx
theorem siz_drop_le (l : List (List Int)) (j : Nat) : siz (l.drop j) ≤ siz l := by
  have := sizeN_drop_le2 (lens l) j
  unfold siz lens at *
  rw [← List.map_drop] at this
  exact this
theorem doC_siz (L : List (List Int)) (c : Ch) : siz (doC L c).1 ≤ siz L + siz c.now := by
  unfold doC
  split
  · split
    · simp [siz, lens, sizeN]
    · simp only [siz_append]
      have h1 : siz (L.take c.pos.toNat) + siz (L.drop c.pos.toNat) = siz L := by rw [← siz_append, List.take_append_drop]
      have h2 := siz_drop_le (L.drop c.pos.toNat) c.old.length
      rw [List.drop_drop] at h2
      omega
  · simp [siz, lens, sizeN]

/-- behind the twins: the lines' twin, the change's twin in a block of its own -/
def TwinSt (w : World) (g : Nat) (a1 : Option Addr) (c1 : Nat) (L : List (List Int)) (c : Ch) (wx : World) : Prop :=
  Below w.heap.size w wx ∧ (∃ F, RdL F wx a1 L.length c1 L) ∧ ∃ oa oc na nc, wx.heap[g]? = some (.cells #[.int .i64 c.pos, .slice oa c.old.length oc, .slice na c.now.length nc] 24 (0, 0)) ∧ ∃ F, RdL F wx oa c.old.length oc c.old ∧ RdL F wx na c.now.length nc c.now
theorem twin_new {w w1 w2 : World} {a1 : Option Addr} {c1 : Nat} {L : List (List Int)} {c : Ch} {p : Int} {x y n : Nat} {oa na : Option Addr} {oc nc : Nat} {F G : Nat → Prop} (ep : c.pos = p) (ex : c.old.length = x) (ey : c.now.length = y) (en : L.length = n)
    (hb : Below w.heap.size w w2) (f1 : RdL F w2 a1 n c1 L) (f2 : RdL G w2 oa x oc c.old) (f3 : RdL G w2 na y nc c.now) :
    TwinSt w w2.heap.size a1 c1 L c (w2.alloc (.cells #[.int .i64 p, .slice oa x oc, .slice na y nc] 24)) := by
  subst ep ex ey en
  have hb2 : Below w2.heap.size w2 (w2.alloc (.cells #[.int .i64 c.pos, .slice oa c.old.length oc, .slice na c.now.length nc] 24)) := (Below.refl _ _).alloc (Nat.le_refl _) _
  exact ⟨hb.trans (hb2.mono hb.size), ⟨F, f1.below hb2⟩, oa, oc, na, nc, heap_alloc_new _ _, G, f2.below hb2, f3.below hb2⟩
theorem twin_set {w w2 : World} {g : Nat} {a1 : Option Addr} {c1 : Nat} {L : List (List Int)} {c : Ch} {p : Int} {x y n : Nat} {oa na : Option Addr} {oc nc : Nat} {F G : Nat → Prop} (hz : ZeroC w2 g) (hg : w.heap.size ≤ g) (hF : ∀ k, F k → k ≠ g) (hG : ∀ k, G k → k ≠ g) (ep : c.pos = p) (ex : c.old.length = x) (ey : c.now.length = y) (en : L.length = n)
    (hb : Below w.heap.size w w2) (f1 : RdL F w2 a1 n c1 L) (f2 : RdL G w2 oa x oc c.old) (f3 : RdL G w2 na y nc c.now) :
    TwinSt w g a1 c1 L c (((w2.setCell ⟨g, 0, none⟩ (.int .i64 p)).setCell ⟨g, 1, none⟩ (.slice oa x oc)).setCell ⟨g, 2, none⟩ (.slice na y nc)) := by
  subst ep ex ey en
  have z1 := heap_set hz 0 (.int .i64 c.pos)
  have z2 := heap_set z1 1 (.slice oa c.old.length oc)
  have z3 := heap_set z2 2 (.slice na c.now.length nc)
  have hf : Fr (fun k => k = g) w2 (((w2.setCell ⟨g, 0, none⟩ (.int .i64 c.pos)).setCell ⟨g, 1, none⟩ (.slice oa c.old.length oc)).setCell ⟨g, 2, none⟩ (.slice na c.now.length nc)) := (((Fr.refl (fun k => k = g) w2).setCell ⟨g, 0, none⟩ _ (fun _ => rfl)).setCell ⟨g, 1, none⟩ _ (fun _ => rfl)).setCell ⟨g, 2, none⟩ _ (fun _ => rfl)
  exact ⟨((hb.setCell (p := ⟨g, 0, none⟩) hg _).setCell (p := ⟨g, 1, none⟩) hg _).setCell (p := ⟨g, 2, none⟩) hg _, ⟨F, f1.frF hf hF⟩, oa, oc, na, nc, z3, G, f2.frF hf hG, f3.frF hf hG⟩

set_option maxHeartbeats 8000000 in
theorem undoDoes_wide (a : Option Addr) (n cap : Nat) (L : List (List Int)) (u : Tri) (c : Ch) (w : World) (h : RdL (fun k => k < w.heap.size) w a n cap L) (hc : IsCh w u c) (hw : WideL L) :
    Calls Try.prog 3 #[.slice a n cap, .agg #[u.1, u.2.1, u.2.2]] w fun e w' => e = .returned (.bool true) ∧ Below w.heap.size w w' := by
  obtain ⟨⟨oa, oc, na, nc, rfl, ro, rn⟩, hpb, wo, wn⟩ := hc
  simp only
  obtain ⟨p, hp⟩ : ∃ p, c.pos = p := ⟨_, rfl⟩
  obtain ⟨x, hx⟩ : ∃ x, c.old.length = x := ⟨_, rfl⟩
  obtain ⟨y, hy⟩ : ∃ y, c.now.length = y := ⟨_, rfl⟩
  obtain ⟨w1, hw1⟩ : ∃ w1, w.alloc (.cells #[.int .i64 p, .slice oa x oc, .slice na y nc] 24) = w1 := ⟨_, rfl⟩
  have hb1 : Below w.heap.size w w1 := by rw [← hw1]; exact (Below.refl _ _).alloc (Nat.le_refl _) _
  have hg1 : w1.heap[w.heap.size]? = some (.cells #[.int .i64 p, .slice oa x oc, .slice na y nc] 24 (0, 0)) := by rw [← hw1]; exact heap_alloc_new w _
  have hs1 : w1.heap.size = w.heap.size + 1 := by rw [← hw1]; simp
  have HSM := Lib.hid (small_wide _ a n cap L w1 (h.below hb1) hw)
  have hl := h.len
  have hsn := h.small
  have hxs := ro.small
  have hys := rn.small
  rw [hx] at hxs
  rw [hy] at hys
  have HW := Lib.hid hw1
  have HB := Lib.hid hb1
  have HBE : Hid (∃ b, w.heap.size = b) := ⟨_, rfl⟩
  obtain ⟨b, hbe⟩ := HBE.out
  rw [hbe] at hg1
  have c0 := cell_row hg1 0
  have c1 := cell_row hg1 1
  have c2 := cell_row hg1 2
  have l0 := heap_lt hg1
  have HC : Hid (∀ W, Below w1.heap.size w1 W → W.cell? ⟨b, 0, none⟩ = some (.int .i64 p) ∧ W.cell? ⟨b, 1, none⟩ = some (.slice oa x oc) ∧ W.cell? ⟨b, 2, none⟩ = some (.slice na y nc) ∧ b < W.heap.size) := fun W hW => by
    have h1 := (hW.block b (by omega)).trans hg1
    exact ⟨cell_row h1 0, cell_row h1 1, cell_row h1 2, heap_lt h1⟩
  have HSC := Lib.hid (small5_any _ oa na oc nc c w1 (ro.below hb1) (rn.below hb1) wo wn)
  rw [hp, hx, hy] at HSC
  have HP := Lib.hid hp
  have HX := Lib.hid hx
  have HY := Lib.hid hy
  have HL := Lib.hid hl
  have HR := Lib.hid (h.below hb1)
  have HO := Lib.hid (ro.below hb1)
  have HN := Lib.hid (rn.below hb1)
  have HBB := Lib.hid hbe
  have HPB := Lib.hid hpb
  rw [hp, hx, hy]
  rw [hx] at HO
  rw [hy] at HN
  clear h ro rn hpb wo wn hw hw1 hb1 hg1 hs1 hp hx hy hl HBE hbe
  cases hsm : smallL L with
  | false =>
    rw [hsm] at HSM
    clear c0 c1 c2 l0
    go_enter Try.func3, Try.ntmps3
    go_upto_region 1 with fail
    rw [HW.out]
    go_wp2_with fail
    refine HSM.out.mono ?_
    rintro e w' ⟨rfl, rfl⟩
    go_wp2_with fail
    go_ret
    exact ⟨rfl, HB.out⟩
  | true =>
    rw [hsm] at HSM
    cases hsc : smallC c with
    | false =>
      rw [hsc] at HSC
      go_enter Try.func3, Try.ntmps3
      go_upto_region 1 with fail
      rw [HW.out, HBB.out]
      go_wp2_with fail
      refine HSM.out.mono ?_
      rintro e w' ⟨rfl, rfl⟩
      go_wp2_with fail
      refine HSC.out.mono ?_
      rintro e w2 ⟨rfl, hb2⟩
      have HB2 : Hid (Below w.heap.size w w2) := HB.out.trans (hb2.mono HB.out.size)
      clear hb2
      go_wp2_with fail
      go_ret
      exact ⟨rfl, HB2.out⟩
    | true =>
      rw [hsc] at HSC
      have hsmC : smallL c.old = true ∧ smallL c.now = true := by
        unfold smallC at hsc
        rw [Bool.and_eq_true] at hsc
        exact hsc
      have hsL := siz_small hsm
      have hsO := siz_small hsmC.1
      have hsN := siz_small hsmC.2
      have HSZ : Hid (siz L ≤ 3001 ∧ siz c.old ≤ 3001 ∧ siz c.now ≤ 3001) := ⟨hsL, hsO, hsN⟩
      have HWF : Hid (wfL L ∧ wfL c.old ∧ wfL c.now) := ⟨lines_wf (rdl_wf HR.out), lines_wf (rdl_wf HO.out), lines_wf (rdl_wf HN.out)⟩
      have HOK : Hid (OkC c) := ⟨HPB.out, HWF.out.2.1, HWF.out.2.2, by unfold siz at hsO; omega, by unfold siz at hsN; omega⟩
      clear hsm hsc hsmC hsL hsO hsN
      go_enter Try.func3, Try.ntmps3
      go_upto_region 1 with fail
      rw [HW.out, HBB.out]
      go_wp2_with fail
      refine HSM.out.mono ?_
      rintro e w' ⟨rfl, rfl⟩
      clear HSM
      go_wp2_with fail
      refine HSC.out.mono ?_
      rintro e wb ⟨rfl, hbb⟩
      clear HSC c0 c1 c2 l0
      have HT1 : Hid (∀ W, Hid (Below wb.heap.size wb W) → Calls Try.prog 11 #[.slice a n cap] W fun e w' => ∃ a1 c1, e = .returned (.slice a1 n c1) ∧ Hid (Below wb.heap.size wb w') ∧ Hid (RdL (fun k => W.heap.size ≤ k ∧ k < w'.heap.size) w' a1 n c1 L ∧ Below W.heap.size W w' ∧ ∀ g, ZeroC W g → ZeroC w' g)) := by
        intro W hW
        have hs := hW.out.size
        refine (rtwin_any _ a n cap L W ((HR.out.below hbb).below hW.out) (by have := HSZ.out.1; unfold siz at this; omega)).mono ?_
        rintro e w' ⟨a1, c1, rfl, hf, hb⟩
        exact ⟨a1, c1, rfl, hW.out.trans (hb.mono hs), hf.rdl2 HWF.out.1, hb, fun g hz => hz.below hb⟩
      have HT2 : Hid (∀ W, Hid (Below wb.heap.size wb W) → Calls Try.prog 12 #[.agg #[.int .i64 p, .slice oa x oc, .slice na y nc]] W fun e w' => ∃ pa pc qa qc, e = .returned (.agg #[.int .i64 p, .slice pa x pc, .slice qa y qc]) ∧ Hid (Below wb.heap.size wb w') ∧ Hid (RdL (fun k => W.heap.size ≤ k ∧ k < w'.heap.size) w' pa x pc c.old ∧ RdL (fun k => W.heap.size ≤ k ∧ k < w'.heap.size) w' qa y qc c.now ∧ Below W.heap.size W w' ∧ ∀ g, ZeroC W g → ZeroC w' g)) := by
        intro W hW
        have hs := hW.out.size
        have h1 := (HO.out.below hbb).below hW.out
        have h2 := (HN.out.below hbb).below hW.out
        rw [← HX.out] at h1
        rw [← HY.out] at h2
        have h3 := rtwinC_any _ oa na oc nc c W h1 h2 HOK.out
        rw [HX.out, HY.out, HP.out] at h3
        refine h3.mono ?_
        rintro e w' hcp
        obtain ⟨pa, pc, qa, qc, rfl, r1, r2, hb⟩ := cop_rd (oa := none) HOK.out hcp
        rw [HX.out] at r1
        rw [HY.out] at r2
        exact ⟨pa, pc, qa, qc, by rw [HX.out, HY.out, HP.out], hW.out.trans (hb.mono hs), r1, r2, hb, fun g hz => hz.below hb⟩
      have HBB2 := Lib.hid hbb
      have KS : Hid (∀ W, Below wb.heap.size wb W → Below wb.heap.size wb W ∧ W.cell? ⟨b, 0, none⟩ = some (.int .i64 p) ∧ W.cell? ⟨b, 1, none⟩ = some (.slice oa x oc) ∧ W.cell? ⟨b, 2, none⟩ = some (.slice na y nc)) := fun W hW => by
        obtain ⟨q0, q1, q2, _⟩ := HC.out W (HBB2.out.trans (hW.mono HBB2.out.size))
        exact ⟨hW, q0, q1, q2⟩
      have l0 : b < wb.heap.size := (HC.out wb hbb).2.2.2
      have HR0 : Hid (Below wb.heap.size wb wb) := Below.refl _ _
      have HR1 : Hid (Below wb.heap.size wb wb.drew) := (Below.refl _ _).drew
      clear hbb
      go_upto_region 3 with fail
      go_cut [5, 6] (fun v5 v6 wx => ∃ g a1 c1, v5 = .slice a1 n c1 ∧ v6 = .pointer (some ⟨g, 0, none⟩) ∧ Hid (TwinSt wb g a1 c1 L c wx))
      case first =>
        go_region_held3 (fun w' => Below wb.heap.size wb w' ∧ w'.cell? ⟨b, 0, none⟩ = some (.int .i64 p) ∧ w'.cell? ⟨b, 1, none⟩ = some (.slice oa x oc) ∧ w'.cell? ⟨b, 2, none⟩ = some (.slice na y nc))
          (first
            | exact KS.out _ HR0.out
            | exact KS.out _ HR1.out
            | exact KS.out _ q1.out
            | exact KS.out _ q2.out
            | exact KS.out _ (HR1.out.alloc HR1.out.size _)
            | exact KS.out _ (q1.out.alloc q1.out.size _)
            | exact KS.out _ (q2.out.alloc q2.out.size _)
            | exact KS.out _ (HR0.out.alloc HR0.out.size _)
            | exact KS.out _ (HR0.out.alloc HR0.out.size _).drew
            | (refine KS.out _ (Below.setCell (Below.setCell (Below.setCell q1.out ?_ _) ?_ _) ?_ _) <;> first | exact Nat.le_refl _ | exact q1.out.size | exact q2.out.size)
            | (refine KS.out _ (Below.setCell (Below.setCell (Below.setCell q2.out ?_ _) ?_ _) ?_ _) <;> first | exact Nat.le_refl _ | exact q1.out.size | exact q2.out.size))
          (first
            | (go_at_call 11; (with_reducible refine (HT1.out _ (by first | exact HR0 | exact HR1 | exact q2 | exact Lib.hid (HR0.out.alloc HR0.out.size _).drew | exact Lib.hid (HR1.out.alloc HR1.out.size _) | exact Lib.hid (q2.out.alloc q2.out.size _))).mono ?_); rintro e1 w1 ⟨a1, m1, rfl, q1, p1⟩; (try (have hz1 : ZeroC w1 _ := (by first | with_reducible exact p1.out.2.2 _ (ZeroC.new _) | with_reducible exact p1.out.2.2 _ (ZeroC.new _).drew); obtain ⟨z10, z11, z12, z13, z14, z15, z16⟩ := hz1.facts)); (try (have hz1 : ZeroC w1 _ := p1.out.2.2 _ hz2; obtain ⟨z10, z11, z12, z13, z14, z15, z16⟩ := hz1.facts)))
            | (go_at_call 12; (with_reducible refine (HT2.out _ (by first | exact HR0 | exact HR1 | exact q1 | exact Lib.hid (HR0.out.alloc HR0.out.size _).drew | exact Lib.hid (HR1.out.alloc HR1.out.size _) | exact Lib.hid (q1.out.alloc q1.out.size _))).mono ?_); rintro e2 w2 ⟨pa, pc, qa, qc, rfl, q2, p2⟩; (try (have hz2 : ZeroC w2 _ := (by first | with_reducible exact p2.out.2.2.2 _ (ZeroC.new _) | with_reducible exact p2.out.2.2.2 _ (ZeroC.new _).drew); obtain ⟨z20, z21, z22, z23, z24, z25, z26⟩ := hz2.facts)); (try (have hz2 : ZeroC w2 _ := p2.out.2.2.2 _ hz1; obtain ⟨z20, z21, z22, z23, z24, z25, z26⟩ := hz2.facts))))
        all_goals
          go_wp2_with fail
          go_meet
          first
            | exact ⟨_, _, _, rfl, rfl, twin_new (w1 := wb) HP.out HX.out HY.out HL.out q2.out (p1.out.1.below p2.out.2.2.1) p2.out.1 p2.out.2.1⟩
            | exact ⟨_, _, _, rfl, rfl, twin_set hz2 q1.out.size (fun k hk => by have := hk.2; omega) (fun k hk => by have := hk.1; simp at this; omega) HP.out HX.out HY.out HL.out q2.out (p1.out.1.below (((Below.refl _ _).alloc (Nat.le_refl _) _).trans (p2.out.2.2.1.mono (by simp)))) p2.out.1 p2.out.2.1⟩
            | exact ⟨_, _, _, rfl, rfl, twin_set hz2 (Nat.le_refl _) (fun k hk => by have := hk.1; simp [World.drew] at this; omega) (fun k hk => by have := hk.1; have := p1.out.2.1.size; simp [World.drew] at this; omega) HP.out HX.out HY.out HL.out q2.out (p1.out.1.below p2.out.2.2.1) p2.out.1 p2.out.2.1⟩
      case rest =>
        obtain ⟨g, a1, m1, rfl, rfl, hst⟩ := hcut
        obtain ⟨hbc, ⟨F1, r1⟩, oa2, oc2, na2, nc2, hg, F2, r2, r3⟩ := hst.out
        rw [HP.out, HX.out, HY.out] at hg
        rw [HX.out] at r2
        rw [HY.out] at r3
        rw [HL.out] at r1
        obtain ⟨wq, hwq⟩ : ∃ x, x = wc := ⟨_, rfl⟩
        subst hwq
        have hb0q : Below w1.heap.size w1 wq := HBB2.out.trans (hbc.mono HBB2.out.size)
        have HBQ : Hid (Below w.heap.size w wq) := HB.out.trans (hb0q.mono HB.out.size)
        have HCQ : Hid (∀ W, Below wq.heap.size wq W → (W.cell? ⟨b, 0, none⟩ = some (.int .i64 p) ∧ W.cell? ⟨b, 1, none⟩ = some (.slice oa x oc) ∧ W.cell? ⟨b, 2, none⟩ = some (.slice na y nc)) ∧ (W.cell? ⟨g, 0, none⟩ = some (.int .i64 p) ∧ W.cell? ⟨g, 1, none⟩ = some (.slice oa2 x oc2) ∧ W.cell? ⟨g, 2, none⟩ = some (.slice na2 y nc2)) ∧ b < W.heap.size ∧ g < W.heap.size) := fun W hW => by
          obtain ⟨q0, q1, q2, q3⟩ := HC.out W (hb0q.trans (hW.mono hb0q.size))
          have h1 := (hW.block g (heap_lt hg)).trans hg
          exact ⟨⟨q0, q1, q2⟩, ⟨cell_row h1 0, cell_row h1 1, cell_row h1 2⟩, q3, heap_lt h1⟩
        have HQ : Hid (RdL F1 wq a1 n m1 L ∧ RdL F2 wq oa2 x oc2 c.old ∧ RdL F2 wq na2 y nc2 c.now ∧ RdL (fun k => k < w.heap.size) wq a n cap L ∧ RdL (fun k => k < w.heap.size) wq oa x oc c.old ∧ RdL (fun k => k < w.heap.size) wq na y nc c.now) := ⟨r1, r2, r3, HR.out.below hb0q, HO.out.below hb0q, HN.out.below hb0q⟩
        obtain ⟨D1, D2, hD⟩ : ∃ D1 D2, doC L c = (D1, D2) := ⟨_, _, rfl⟩
        have hdw := doC_wf (c := c) HWF.out.1 HWF.out.2.2
        have hds := doC_siz L c
        rw [hD] at hdw hds
        have HDW := Lib.hid hdw
        have HDS : Hid (siz D1 ≤ 6002) := by show _ ≤ _; have := HSZ.out; simp only at hds; omega
        have HD := Lib.hid hD
        obtain ⟨dl, hdl⟩ : ∃ dl, D1.length = dl := ⟨_, rfl⟩
        have HDL := Lib.hid hdl
        have hdl20 : dl ≤ 1048576 := by have h1 := size_count D1; have h2 := HDS.out; unfold siz at h2; omega
        have HDO : Hid (Calls Try.prog 13 #[.slice a1 n m1, .agg #[.int .i64 p, .slice oa2 x oc2, .slice na2 y nc2]] wq fun e w' => ∃ a' c', e = .returned (.tuple #[.slice a' dl c', .int .i64 D2]) ∧ Hid (RdL (fun k => wq.heap.size ≤ k ∧ k < w'.heap.size) w' a' dl c' D1 ∧ Below wq.heap.size wq w')) := by
          have h2 := HQ.out.2.1
          have h3 := HQ.out.2.2.1
          rw [← HX.out] at h2
          rw [← HY.out] at h3
          have := do_any _ _ a1 oa2 na2 n m1 oc2 nc2 L c wq HQ.out.1 h2 h3 HPB.out (by have := HSZ.out; unfold siz at this; omega)
          rw [HX.out, HY.out, HP.out, HD.out] at this
          simp only at this
          rw [hdl] at this
          refine this.mono ?_
          rintro e w' ⟨a', c', rfl, hf, hb⟩
          exact ⟨a', c', rfl, hf.rdl2 HDW.out, hb⟩
        have HRDO : Hid (∀ W, Hid (Below wq.heap.size wq W) → Calls Try.prog 14 #[.slice a n cap, .agg #[.int .i64 p, .slice oa x oc, .slice na y nc]] W fun e w' => ∃ a' c', e = .returned (.tuple #[.slice a' dl c', .int .i64 D2]) ∧ Hid (RdL (fun k => W.heap.size ≤ k) w' a' dl c' D1 ∧ Below W.heap.size W w')) := by
          intro W hW
          have h2 := HQ.out.2.2.2.2.1.below hW.out
          have h3 := HQ.out.2.2.2.2.2.below hW.out
          rw [← HX.out] at h2
          rw [← HY.out] at h3
          have := rdo_any _ _ a oa na n cap oc nc L c W (HQ.out.2.2.2.1.below hW.out) h2 h3 HPB.out (by have := HSZ.out; unfold siz at this; omega)
          rw [HX.out, HY.out, HP.out, HD.out] at this
          simp only at this
          rw [hdl] at this
          refine this.mono ?_
          rintro e w' ⟨a', c', rfl, hf, hb⟩
          exact ⟨a', c', rfl, hf.rdl HDW.out, hb⟩
        obtain ⟨⟨b0, b1, b2⟩, ⟨g0, g1, g2⟩, bl, gl⟩ := HCQ.out wq (Below.refl _ _)
        clear hst hbc r1 r2 r3 hg hb0q hD hdw hds hdl l0 HR0 HR1 KS HT1 HT2 HC HBB2
        go_wp2_with fail
        refine HDO.out.mono ?_
        rintro e w4 ⟨a4, c4, rfl, hq4⟩
        clear HDO b0 b1 b2 g0 g1 g2 bl gl
        obtain ⟨⟨b0, b1, b2⟩, -, bl, -⟩ := HCQ.out w4 hq4.out.2
        have HRD4 := Lib.hid (HRDO.out w4 hq4.out.2)
        go_wp2_with fail
        refine HRD4.out.mono ?_
        rintro e w5 ⟨a5, c5, rfl, hq5⟩
        clear HRD4 HRDO b0 b1 b2 bl
        have HB5 : Hid (Below wq.heap.size wq w5) := hq4.out.2.trans (hq5.out.2.mono hq4.out.2.size)
        have H45 : Hid (RdL (fun k => wq.heap.size ≤ k ∧ k < w4.heap.size) w5 a4 dl c4 D1 ∧ RdL (fun k => w4.heap.size ≤ k) w5 a5 dl c5 D1) := ⟨hq4.out.1.below hq5.out.2, hq5.out.1⟩
        clear hq4 hq5
        have UP : Hid (∀ W, Hid (Below w5.heap.size w5 W) → Below wq.heap.size wq W) := fun W hW => HB5.out.trans (hW.out.mono HB5.out.size)
        have HS1 : Hid (∀ W, Hid (Below w5.heap.size w5 W) → Calls Try.prog 15 #[.slice a4 dl c4, .slice a5 dl c5] W fun e w' => e = .returned (.bool true) ∧ Hid (Below w5.heap.size w5 w')) := by
          intro W hW
          refine (rsame_any _ _ a4 a5 dl dl c4 c5 D1 D1 W (H45.out.1.below hW.out) (H45.out.2.below hW.out)).mono ?_
          rintro e w' ⟨rfl, hb⟩
          exact ⟨by simp, hW.out.trans (hb.mono hW.out.size)⟩
        have HS2 : Hid (∀ W, Hid (Below w5.heap.size w5 W) → Calls Try.prog 15 #[.slice a1 n m1, .slice a n cap] W fun e w' => e = .returned (.bool true) ∧ Hid (Below w5.heap.size w5 w')) := by
          intro W hW
          refine (rsame_any _ _ a1 a n n m1 cap L L W (HQ.out.1.below (UP.out W hW)) (HQ.out.2.2.2.1.below (UP.out W hW))).mono ?_
          rintro e w' ⟨rfl, hb⟩
          exact ⟨by simp, hW.out.trans (hb.mono hW.out.size)⟩
        have HTN : Hid (∀ W, Hid (Below w5.heap.size w5 W) → Calls Try.prog 17 #[.agg #[.int .i64 p, .slice oa x oc, .slice na y nc]] W fun e w' => ∃ pa pc qa qc, e = .returned (.agg #[.int .i64 p, .slice pa y pc, .slice qa x qc]) ∧ Hid (Below w5.heap.size w5 w') ∧ Hid (Below W.heap.size W w' ∧ ∃ F, RdL F w' pa y pc c.now ∧ RdL F w' qa x qc c.old)) := by
          intro W hW
          have h2 := HQ.out.2.2.2.2.1.below (UP.out W hW)
          have h3 := HQ.out.2.2.2.2.2.below (UP.out W hW)
          rw [← HX.out] at h2
          rw [← HY.out] at h3
          have := turned_any _ oa na oc nc c W h2 h3 HOK.out
          rw [HX.out, HY.out, HP.out] at this
          refine this.mono ?_
          rintro e w' hcp
          obtain ⟨pa, pc, qa, qc, rfl, r1, r2, hb⟩ := cop_rd (oa := none) HOK.out.turn hcp
          refine ⟨pa, pc, qa, qc, ?_, hW.out.trans (hb.mono hW.out.size), hb, _, by rw [← HY.out]; exact r1, by rw [← HX.out]; exact r2⟩
          show Ending.returned (.agg #[.int .i64 c.pos, .slice pa c.now.length pc, .slice qa c.old.length qc]) = _
          rw [HX.out, HY.out, HP.out]
        have HTR : Hid (∀ W, Hid (Below w5.heap.size w5 W) → Calls Try.prog 18 #[.agg #[.int .i64 p, .slice oa x oc, .slice na y nc]] W fun e w' => ∃ pa pc qa qc, e = .returned (.agg #[.int .i64 p, .slice pa y pc, .slice qa x qc]) ∧ Hid (Below w5.heap.size w5 w') ∧ Hid (Below W.heap.size W w' ∧ ∃ F, RdL F w' pa y pc c.now ∧ RdL F w' qa x qc c.old)) := by
          intro W hW
          have h2 := HQ.out.2.2.2.2.1.below (UP.out W hW)
          have h3 := HQ.out.2.2.2.2.2.below (UP.out W hW)
          rw [← HX.out] at h2
          rw [← HY.out] at h3
          have := rturned_any _ oa na oc nc c W h2 h3 HOK.out
          rw [HX.out, HY.out, HP.out] at this
          refine this.mono ?_
          rintro e w' hcp
          obtain ⟨pa, pc, qa, qc, rfl, r1, r2, hb⟩ := cop_rd (oa := none) HOK.out.turn hcp
          refine ⟨pa, pc, qa, qc, ?_, hW.out.trans (hb.mono hW.out.size), hb, _, by rw [← HY.out]; exact r1, by rw [← HX.out]; exact r2⟩
          show Ending.returned (.agg #[.int .i64 c.pos, .slice pa c.now.length pc, .slice qa c.old.length qc]) = _
          rw [HX.out, HY.out, HP.out]
        have HSC : Hid (∀ pa pc qa qc pb pd qb qd V W, Hid (Below w5.heap.size w5 W) → Hid (Below w5.heap.size w5 V ∧ ∃ F, RdL F V pa y pc c.now ∧ RdL F V qa x qc c.old) → Hid (Below V.heap.size V W ∧ ∃ F, RdL F W pb y pd c.now ∧ RdL F W qb x qd c.old) → Calls Try.prog 16 #[.agg #[.int .i64 p, .slice pa y pc, .slice qa x qc], .agg #[.int .i64 p, .slice pb y pd, .slice qb x qd]] W fun e w' => e = .returned (.bool true) ∧ Hid (Below w5.heap.size w5 w')) := by
          rintro pa pc qa qc pb pd qb qd V W hW ⟨hV, F, s1, s2⟩ ⟨hVW, G, s3, s4⟩
          have s1 := s1.below hVW
          have s2 := s2.below hVW
          rw [← HY.out] at s1 s3
          rw [← HX.out] at s2 s4
          have := rsameC_any F G pa qa pb qb pc qc pd qd (turnC c) (turnC c) W s1 s2 s3 s4
          have e1 : (turnC c).old.length = y := HY.out
          have e2 : (turnC c).now.length = x := HX.out
          have e3 : (turnC c).pos = p := HP.out
          rw [e1, e2, e3] at this
          refine this.mono ?_
          rintro e w' ⟨rfl, hb⟩
          exact ⟨by simp, hW.out.trans (hb.mono hW.out.size)⟩
        have HS3 : Hid (∀ W, Hid (Below w5.heap.size w5 W) → Calls Try.prog 16 #[.agg #[.int .i64 p, .slice oa2 x oc2, .slice na2 y nc2], .agg #[.int .i64 p, .slice oa x oc, .slice na y nc]] W fun e w' => e = .returned (.bool true) ∧ Hid (Below w5.heap.size w5 w')) := by
          intro W hW
          have s1 := HQ.out.2.1.below (UP.out W hW)
          have s2 := HQ.out.2.2.1.below (UP.out W hW)
          have s3 := HQ.out.2.2.2.2.1.below (UP.out W hW)
          have s4 := HQ.out.2.2.2.2.2.below (UP.out W hW)
          rw [← HX.out] at s1 s3
          rw [← HY.out] at s2 s4
          have := rsameC_any _ _ oa2 na2 oa na oc2 nc2 oc nc c c W s1 s2 s3 s4
          rw [HX.out, HY.out, HP.out] at this
          refine this.mono ?_
          rintro e w' ⟨rfl, hb⟩
          exact ⟨by simp, hW.out.trans (hb.mono hW.out.size)⟩
        have KS : Hid (∀ W, Hid (Below w5.heap.size w5 W) → Hid (Below w5.heap.size w5 W) ∧ (W.cell? ⟨b, 0, none⟩ = some (.int .i64 p) ∧ W.cell? ⟨b, 1, none⟩ = some (.slice oa x oc) ∧ W.cell? ⟨b, 2, none⟩ = some (.slice na y nc)) ∧ (W.cell? ⟨g, 0, none⟩ = some (.int .i64 p) ∧ W.cell? ⟨g, 1, none⟩ = some (.slice oa2 x oc2) ∧ W.cell? ⟨g, 2, none⟩ = some (.slice na2 y nc2))) := fun W hW => ⟨hW, (HCQ.out W (UP.out W hW)).1, (HCQ.out W (UP.out W hW)).2.1⟩
        have HR0 : Hid (Below w5.heap.size w5 w5) := Below.refl _ _
        have HR1 : Hid (Below w5.heap.size w5 w5.drew) := (Below.refl _ _).drew
        have dd : (D2 != D2) = false := by simp
        obtain ⟨-, -, bl, gl⟩ := HCQ.out w5 HB5.out
        go_upto_region 6 with fail
        go_cut [65] (fun v wx => v = .bool false ∧ Hid (Below w5.heap.size w5 wx))
        case first =>
          go_region_held3 (fun w' => Hid (Below w5.heap.size w5 w') ∧ (w'.cell? ⟨b, 0, none⟩ = some (.int .i64 p) ∧ w'.cell? ⟨b, 1, none⟩ = some (.slice oa x oc) ∧ w'.cell? ⟨b, 2, none⟩ = some (.slice na y nc)) ∧ (w'.cell? ⟨g, 0, none⟩ = some (.int .i64 p) ∧ w'.cell? ⟨g, 1, none⟩ = some (.slice oa2 x oc2) ∧ w'.cell? ⟨g, 2, none⟩ = some (.slice na2 y nc2)))
            (first
              | exact KS.out _ HR0
              | exact KS.out _ HR1
              | exact KS.out _ q1
              | exact KS.out _ q2
              | exact KS.out _ q3
              | exact KS.out _ q4
              | exact KS.out _ q5
              | exact KS.out _ q6)
            (first
              | (go_at_call 15; (with_reducible refine (HS1.out _ (by first | exact HR0 | exact HR1)).mono ?_); rintro e1 v1 ⟨rfl, q1⟩)
              | (go_at_call 17; (with_reducible refine (HTN.out _ q1).mono ?_); rintro e2 v2 ⟨pa, pc, qa, qc, rfl, q2, s2⟩)
              | (go_at_call 18; (with_reducible refine (HTR.out _ q2).mono ?_); rintro e3 v3 ⟨pb, pd, qb, qd, rfl, q3, s3⟩)
              | (go_at_call 16; (with_reducible refine (HSC.out _ _ _ _ _ _ _ _ _ _ q3 (Lib.hid ⟨q2.out, s2.out.2⟩) s3).mono ?_); rintro e4 v4 ⟨rfl, q4⟩)
              | (go_at_call 15; (with_reducible refine (HS2.out _ q4).mono ?_); rintro e5 v5 ⟨rfl, q5⟩)
              | (go_at_call 16; (with_reducible refine (HS3.out _ q5).mono ?_); rintro e6 v6 ⟨rfl, q6⟩))
          all_goals
            go_wp2_with fail
            go_meet
            exact ⟨rfl, by first | exact q6 | exact q5⟩
        case rest =>
          obtain ⟨rfl, hq6⟩ := hcut
          obtain ⟨w6, hw6⟩ : ∃ x, x = wc := ⟨_, rfl⟩
          subst hw6
          have HB6 : Hid (Below wq.heap.size wq w6) := UP.out _ hq6
          have HBW6 : Hid (Below w.heap.size w w6) := HBQ.out.trans (HB6.out.mono HBQ.out.size)
          clear HR0 HR1 dd bl gl HS1 HS2 HTR HSC HS3 KS
          by_cases hD2 : D2 = 0 ∧ ¬ (n : Int) = 0
          · obtain ⟨rfl, hn0⟩ := hD2
            have hn1 : ((n : Int) == 0) = false := by simpa using hn0
            have HT : Hid (Calls Try.prog 17 #[.agg #[.int .i64 p, .slice oa x oc, .slice na y nc]] w6 fun e w' => ∃ pa pc qa qc, e = .returned (.agg #[.int .i64 p, .slice pa y pc, .slice qa x qc]) ∧ Hid (Below wq.heap.size wq w') ∧
                Hid (Calls Try.prog 13 #[.slice a4 dl c4, .agg #[.int .i64 p, .slice pa y pc, .slice qa x qc]] w' fun e w'' => ∃ a' c', e = .returned (.tuple #[.slice a' n c', .int .i64 0]) ∧ Hid (Below wq.heap.size wq w'') ∧
                  Hid (Calls Try.prog 15 #[.slice a' n c', .slice a n cap] w'' fun e w3 => e = .returned (.bool true) ∧ Hid (Below wq.heap.size wq w3)))) := by
              refine (HTN.out w6 hq6).mono ?_
              rintro e w' ⟨pa, pc, qa, qc, rfl, t1, t2, F, t3, t4⟩
              have hq' : Below wq.heap.size wq w' := UP.out _ t1
              refine ⟨pa, pc, qa, qc, rfl, hq', ?_⟩
              have hLne : L ≠ [] := fun e => by have := HL.out; rw [e] at this; simp at this; omega
              have hdt := do_turned HD.out hLne
              rw [← HY.out] at t3
              rw [← HX.out] at t4
              have := do_any _ F a4 pa qa dl c4 pc qc D1 (turnC c) w' (H45.out.1.below t1.out) t3 t4 HPB.out (by
                have h1 := HDS.out
                have h2 := HSZ.out.2.1
                show sizeN (lens D1) + sizeN (lens c.old) ≤ 1048576
                unfold siz at h1 h2
                omega)
              have e1 : (turnC c).old.length = y := HY.out
              have e2 : (turnC c).now.length = x := HX.out
              have e3 : (turnC c).pos = p := HP.out
              rw [e1, e2, e3, hdt] at this
              simp only at this
              rw [HL.out] at this
              refine this.mono ?_
              rintro e w'' ⟨a', c', rfl, hf, hb⟩
              have hq'' := hq'.trans (hb.mono hq'.size)
              refine ⟨a', c', rfl, hq'', (rsame_any _ _ a' a n n c' cap L L w'' (hf.rdl2 HWF.out.1) (HQ.out.2.2.2.1.below hq'')).mono ?_⟩
              rintro e w3 ⟨rfl, hb3⟩
              exact ⟨by simp, hq''.trans (hb3.mono hq''.size)⟩
            obtain ⟨⟨b0, b1, b2⟩, -, bl, -⟩ := HCQ.out w6 HB6.out
            clear hn0
            go_wp2_with fail
            refine HT.out.mono ?_
            rintro e w7 ⟨pa, pc, qa, qc, rfl, hq7, HDO2⟩
            clear HT b0 b1 b2 bl
            go_wp2_with fail
            refine HDO2.out.mono ?_
            rintro e w8 ⟨a8, c8, rfl, hq8, HSM2⟩
            clear HDO2
            go_wp2_with fail
            refine HSM2.out.mono ?_
            rintro e w9 ⟨rfl, hq9⟩
            clear HSM2
            go_wp2_with fail
            refine (awake_any w9).mono ?_
            rintro e w10 ⟨rfl, hb10⟩
            have HB10 : Hid (Below w.heap.size w w10) := (HBQ.out.trans (hq9.out.mono HBQ.out.size)).trans (hb10.mono (Nat.le_trans HBQ.out.size hq9.out.size))
            clear hb10
            go_wp2_with fail
            go_ret
            exact ⟨rfl, HB10.out⟩
          · by_cases hz : D2 = 0
            · have hn0 : (n : Int) = 0 := by
                by_cases e : (n : Int) = 0
                · exact e
                · exact absurd ⟨hz, e⟩ hD2
              have hn1 : ((n : Int) == 0) = true := by simpa using hn0
              subst hz
              clear hD2 hn0
              go_wp2_with fail
              refine (awake_any w6).mono ?_
              rintro e w10 ⟨rfl, hb10⟩
              have HB10 : Hid (Below w.heap.size w w10) := HBW6.out.trans (hb10.mono HBW6.out.size)
              clear hb10
              go_wp2_with fail
              go_ret
              exact ⟨rfl, HB10.out⟩
            · have hz1 : (D2 != 0) = true := by simpa using hz
              clear hD2 hz
              go_wp2_with fail
              refine (awake_any w6).mono ?_
              rintro e w10 ⟨rfl, hb10⟩
              have HB10 : Hid (Below w.heap.size w w10) := HBW6.out.trans (hb10.mono HBW6.out.size)
              clear hb10
              go_wp2_with fail
              go_ret
              exact ⟨rfl, HB10.out⟩
end Go.Proofs.Ytalhiedbhcklgaa.U
