/-
  The document's whole: lines put in, the walk.
-/
import Derived.Test.YtfldjoiohejilaaKPasP
namespace Go.Proofs.Ytfldjoiohejilaa.U
open Go.RowKit
set_option linter.unusedVariables false
set_option linter.unusedSimpArgs false
set_option maxRecDepth 100000

set_option maxHeartbeats 4000000 in
theorem rwhole_any (F G : Nat → Prop) (a : Option Addr) (n c : Nat) (L : List (List Int)) (ga : Option Addr) (gn gc : Nat) (GL : List (List Int)) (p1 p2 : Nat) (k : Int) (bh : Bool) (m A : Nat) (w : World) (h : RdL F w a n c L) (hs : sizeN (lens L) ≤ 1048576) (hg : RdL G w ga gn gc GL) (hgs : sizeN (lens GL) ≤ 1048576) (hp : p1 < n) (hA : A = if bh then p1 + 1 else p1) (hm : 1 ≤ m) (hg0 : 0 < gn) (hmg : m * gn ≤ 1048576) :
    Calls Try.prog 59 #[.slice a n c, .agg #[.int .i64 (p1 : Nat), .int .i64 (p2 : Nat)], rgV k ga gn gc, .bool bh, .int .i64 (m : Nat)] w fun e w' => ∃ ra rc, e = .returned (.tuple #[.slice ra (wholeL L A GL m).length rc, plV (wholeQ L A GL m)]) ∧ RdL (fun x => w.heap.size ≤ x) w' ra (wholeL L A GL m).length rc (wholeL L A GL m) ∧ Below w.heap.size w w' := by
  unfold rgV
  have hl := h.len
  have hgl := hg.len
  have hsm := h.small
  have hnc : n ≤ c ∧ c ≤ 9223372036854775807 := by obtain ⟨vs, h1, _⟩ := h; have := h1.2.1; have := h1.2.2.1; unfold maxLen at this; exact ⟨by omega, by omega⟩
  obtain ⟨hnc, hcs⟩ := hnc
  have hn1 : n ≤ 1048576 := by have := size_count L; omega
  have hAn : A ≤ n := by rw [hA]; split <;> omega
  have hAc : A ≤ c := by omega
  obtain ⟨lb, lo, rfl, hlb, -⟩ := h.at_ (by omega)
  obtain ⟨wb, hwb⟩ : ∃ wb, ((w.alloc (.cells #[.int .i64 (p1 : Nat), .int .i64 (p2 : Nat)] 24)).alloc (.cells #[.int .i64 k, .slice ga gn gc] 30)).alloc (.cells #[.int .i64 0, .int .i64 0] 24) = wb := ⟨_, rfl⟩
  have hsz : wb.heap.size = w.heap.size + 3 := by rw [← hwb]; simp
  have hB : Below w.heap.size w wb := by rw [← hwb]; exact (((Below.refl _ _).alloc (Nat.le_refl _) _).alloc (by simp) _).alloc (by simp; omega) _
  obtain ⟨g1, g2, g3⟩ := three_new w _ _ _ _ _ _ wb (by rw [← hwb]; exact Below.refl _ _)
  obtain ⟨b, hbe⟩ : ∃ b, w.heap.size = b := ⟨_, rfl⟩
  have HBE := Lib.hid hbe
  rw [hbe] at g1 g2 g3 hsz
  have x0 := cell_row g1 0
  have x1 := cell_row g1 1
  have x2 := heap_lt g1
  have hup : ∀ W, Below (b + 2) wb W → Below w.heap.size w W := fun W hW => hB.trans (hW.mono (by omega))
  have hMl : wholeL L A GL m = L.take A ++ repLL m GL ++ L.drop A := rfl
  have hm2 : m ≤ 1048576 := Nat.le_trans (Nat.le_mul_of_pos_right m hg0) hmg
  have hmg1 : gn ≤ m * gn := Nat.le_mul_of_pos_left gn (by omega)
  have hlt : A < (wholeL L A GL m).length := by rw [hMl]; simp only [List.length_append, List.length_take, repLL_len, List.length_drop, hl, hgl]; omega
  obtain ⟨x, hx⟩ : ∃ x, (wholeL L A GL m)[A]? = some x := ⟨_, List.getElem?_eq_getElem hlt⟩
  obtain ⟨FX, hFX⟩ : ∃ FX, firstR x = FX := ⟨_, rfl⟩
  have hQ : wholeQ L A GL m = (A, FX) := by unfold wholeQ; rw [lnL_of hx, hFX]
  have hwf : ∀ x ∈ wholeL L A GL m, ∀ y ∈ x, (Lit.int .i32 y).wf = true := by
    intro y hy
    rw [hMl] at hy
    rcases List.mem_append.1 hy with hy | hy
    · rcases List.mem_append.1 hy with hy | hy
      · exact lines_wf (rdl_wf h) y (List.mem_of_mem_take hy)
      · exact lines_wf (rdl_wf hg) y (repLL_mem hy)
    · exact lines_wf (rdl_wf h) y (List.mem_of_mem_drop hy)
  have HT1 : Hid (∀ W, W = wb → Calls Try.prog 12 #[.slice (some ⟨lb, lo, none⟩) A c] W fun e w' => ∃ ta tc, e = .returned (.slice ta A tc) ∧ Hid (JoE wb (b + 2) ta A tc (L.take A ++ repLL 0 GL) w')) := by
    rintro W rfl
    refine (rtwin_any F _ A c (L.take A) W ((h.below hB).take A hAn) (by have := size_take_le L A; omega)).mono ?_
    rintro e w' ⟨ta, tc, rfl, hf, hb5⟩
    have := hb5.size
    have hnil : L.take A ++ repLL 0 GL = L.take A := by simp [repLL]
    rw [hnil]
    exact ⟨ta, tc, rfl, (hb5.block _ (by omega)).trans g3, hf.my (by omega), hb5.mono (by omega), by omega⟩
  have HTG : Hid (∀ (W : World) (ra : Option Addr) (q rc : Nat) (O : List (List Int)), Hid (JoE wb (b + 2) ra q rc O W ∧ q ≤ 549755813888) → Calls Try.prog 12 #[.slice ga gn gc] W fun e w' => ∃ ta tc, e = .returned (.slice ta gn tc) ∧ ∃ a' c' W', Hid (∀ ty, (Builtin.append_ #[22, 22] ty #[.slice ra q rc, .slice ta gn tc]).run Try.prog w' = .ok (.slice a' (q + gn) c') W') ∧ Hid (JoE wb (b + 2) a' (q + gn) c' (O ++ GL) W')) :=
    fun W ra q rc O hW => hW.out.1.twin G (hg.below (hup W hW.out.1.hb)) hgs hW.out.2
  have HCG : Hid (∀ W, Below (b + 2) wb W → W.cell? ⟨b + 1, 1, none⟩ = some (.slice ga gn gc) ∧ b + 1 < W.heap.size) := fun W hW => by
    have hg2 := (hW.block (b + 1) (by omega)).trans g2
    exact ⟨cell_row hg2 1, heap_lt hg2⟩
  obtain ⟨da, hda, HRD⟩ : ∃ da, (if c = A then some (⟨lb, lo, none⟩ : Addr) else (some (⟨lb, lo, none⟩ : Addr)).map (·.add (A * 1))) = da ∧ Hid (∀ W, Below w.heap.size w W → RdL F W da (n - A) (c - A) (L.drop A)) := ⟨_, rfl, fun W hW => (h.below hW).drop A hAn⟩
  have HT2 : Hid (∀ (W : World) (ra : Option Addr) (q rc : Nat), Hid (JoE wb (b + 2) ra q rc (L.take A ++ repLL m GL) W ∧ q = A + m * gn ∧ q ≤ 549755813888) → Calls Try.prog 12 #[.slice da (n - A) (c - A)] W fun e w' => ∃ ta tc, e = .returned (.slice ta (n - A) tc) ∧ ∃ a' c' W', Hid (∀ ty, (Builtin.append_ #[22, 22] ty #[.slice ra q rc, .slice ta (n - A) tc]).run Try.prog w' = .ok (.slice a' (q + (n - A)) c') W') ∧ JoZ (b + 2) W' ∧ Hid (JoE wb (b + 2) a' (q + (n - A)) c' (wholeL L A GL m) W') ∧ ∃ ob oo xa xn xc, a' = some ⟨ob, oo, none⟩ ∧ ob < W'.heap.size ∧ W'.cell? ⟨ob, oo + A, none⟩ = some (.slice xa xn xc) ∧ Hid (Rd .i32 W' xa xn xc x)) := by
    intro W ra q rc hW
    refine (hW.out.1.twin F (HRD.out W (hup W hW.out.1.hb)) (by rw [lens_drop]; have := sizeN_drop_le2 (lens L) A; omega) hW.out.2.2).mono ?_
    rintro e w' ⟨ta, tc, rfl, a', c', W', h1, h2⟩
    rw [← hMl] at h2
    obtain ⟨ob, oo, xa, xc, rfl, hob, _, hoc, hxr, _, _⟩ := (h2.out.out.rdl hwf).get (Below.refl _ _) hx
    exact ⟨ta, tc, rfl, _, c', W', h1, h2.out.cells, h2, ob, oo, xa, x.length, xc, rfl, hob, hoc, hxr⟩
  have HFI : Hid (∀ (W : World) (xa : Option Addr) (xn xc : Nat), Hid (Rd .i32 W xa xn xc x) → Calls Try.prog 50 #[.slice xa xn xc] W fun e w' => e = .returned (.int .i64 (FX : Nat)) ∧ w' = W) := fun W xa xn xc hr => by rw [← hFX]; exact rfirst_any xa xn xc x W hr.out
  have HEND : Hid (∀ (W : World) (a' : Option Addr) (m' c' : Nat), Hid (JoE wb (b + 2) a' m' c' (wholeL L A GL m) W) → ∀ u v, ∃ ra rc, Ending.returned (.tuple #[.slice a' m' c', plV (A, FX)]) = Ending.returned (.tuple #[.slice ra (wholeL L A GL m).length rc, plV (wholeQ L A GL m)]) ∧ RdL (fun x => b ≤ x) ((W.setCell ⟨b + 2, 0, none⟩ u).setCell ⟨b + 2, 1, none⟩ v) ra (wholeL L A GL m).length rc (wholeL L A GL m) ∧ Below b w ((W.setCell ⟨b + 2, 0, none⟩ u).setCell ⟨b + 2, 1, none⟩ v)) := by
    intro W a' m' c' hE u v
    have hl := hE.out.out.len
    obtain ⟨ra, rc, -, h2, h3⟩ := hE.out.fin hwf (A, FX) u v
    have hfr : Fr (fun k => k = b + 2) W ((W.setCell ⟨b + 2, 0, none⟩ u).setCell ⟨b + 2, 1, none⟩ v) := ((Fr.refl (fun k => k = b + 2) W).setCell ⟨b + 2, 0, none⟩ _ (fun _ => rfl)).setCell ⟨b + 2, 1, none⟩ _ (fun _ => rfl)
    rw [hQ]
    refine ⟨a', c', by rw [hl], ?_, by have h4 := hup _ h3; rw [hbe] at h4; exact h4⟩
    rw [hl]
    exact ((hE.out.out.rdl hwf).frF hfr (fun k h1 h2 => by omega)).mono (fun k hk => by omega)
  have HW := Lib.hid hwb
  have HX := Lib.hid hl
  rw [hbe]
  clear hwb hB h hg g1 g2 g3 hup hMl hlt hx hFX hQ hwf hl hgl hbe hs hgs hmg1
  cases bh
  · have hA' : A = p1 := hA
    subst hA'
    clear hA
    go_enter Try.func59, Try.ntmps59
    go_upto_region 1 with fail
    rw [HBE.out, HW.out]
    go_upto_region 6 with (go_at_call 12; (refine (HT1.out _ rfl).mono ?_); rintro e w5 ⟨ta, tc, rfl, HS⟩)
    clear x0 x1 x2 HT1
    go_loopw [13, 14] (fun v13 v14 wr => ∃ (i q : Nat) (ra : Option Addr) (rc : Nat), v13 = .slice ra q rc ∧ v14 = .int .i64 (i : Nat) ∧ i ≤ m ∧ q ≤ 4194304 ∧ Hid (q = A + i * gn ∧ JoE wb (b + 2) ra q rc (L.take A ++ repLL i GL) wr)) (fun _ v14 _ => m - (intOf v14).toNat)
    case atStart => exact ⟨0, A, ta, tc, rfl, rfl, by omega, by omega, by show A = _; omega, HS.out⟩
    case round =>
      obtain ⟨i, q, ra, rc, rfl, rfl, him, hq, hst⟩ := hrel
      clear HS
      by_cases hlt : i < m
      · have HE1 : Hid (JoE wb (b + 2) ra q rc (L.take A ++ repLL i GL) wr ∧ q ≤ 549755813888) := ⟨hst.out.2, by omega⟩
        have hc1 := HCG.out wr hst.out.2.hb
        obtain ⟨hc1, hc2⟩ := hc1
        have HQ1 := Lib.hid hst.out.1
        have HRE := Lib.hid (repLL_succ i GL)
        clear hst
        go_wp2_with (first
          | (at_builtin; go_must (with_reducible refine Lib.wpList_append_run _ rfl (.tmp 29) (.tmp 32) _ _ rfl _ _ rfl rfl _ _ (HRUN3.out _) ?_))
          | (go_at_call 12; (refine (HTG.out _ _ _ _ _ HE1).mono ?_); rintro e w6 ⟨t5, t6, rfl, a4, c4, w7, HRUN3, HN⟩))
        have hq2 : q + gn ≤ 4194304 := by
          have h1 := HQ1.out
          have h2 : i * gn + gn = (i + 1) * gn := by rw [Nat.add_mul, Nat.one_mul]
          have h3 : (i + 1) * gn ≤ m * gn := Nat.mul_le_mul_right _ (by omega)
          omega
        go_roundw
        case rel => exact ⟨i + 1, q + gn, a4, c4, rfl, by go_num, by omega, hq2, by have h1 := HQ1.out; rw [Nat.add_mul, Nat.one_mul]; omega, by rw [HRE.out, ← List.append_assoc]; exact HN.out⟩
        case measure => simp [intOf]; omega
      · obtain rfl : i = m := by omega
        have hgm : gn ≤ i * gn := Nat.le_mul_of_pos_left gn (by omega)
        have hAq : A < q := by have := hst.out.1; omega
        have hAq2 : A < q + (n - A) := by omega
        clear hgm
        have HE3 : Hid (JoE wb (b + 2) ra q rc (L.take A ++ repLL i GL) wr ∧ q = A + i * gn ∧ q ≤ 549755813888) := ⟨hst.out.2, hst.out.1, by omega⟩
        have hz := hst.out.2.cells
        obtain ⟨z0, z1, z2, z3, zl⟩ := hz
        clear hst
        by_cases hcn : c = A
        · omega
        · rw [if_neg hcn] at hda
          simp only [Option.map_some, Nat.mul_one] at hda
          subst hda
          have hadd : (⟨lb, lo, none⟩ : Addr).add A = ⟨lb, lo + A, none⟩ := by rw [add_lit]
          rw [hadd] at HT2
          go_wp2_with (first
            | (at_builtin; go_must (with_reducible refine Lib.wpList_append_run _ rfl (.tmp 34) (.tmp 38) _ _ rfl _ _ rfl rfl _ _ (HRUN4.out _) ?_))
            | (go_at_call 50; (refine (HFI.out _ _ _ _ HX8).mono ?_); rintro e wq ⟨rfl, hwq⟩; subst hwq)
            | (go_at_call 12; (refine (HT2.out _ _ _ _ HE3).mono ?_); rintro e w7 ⟨t5, t6, rfl, a4, c4, w8, HRUN4, ⟨n0, n1, ny0, ny1, nl⟩, HE4, ob, oo, xa, xn, xc, rfl, hob, hoc, HX8⟩))
          refine bodyPost_ret (v := .tuple #[.slice (some ⟨ob, oo, none⟩) (q + (n - A)) c4, plV (A, FX)]) ?_ rfl ?_
          · rw [results_tc rfl]
            go_simp
            first | rfl | done
          · exact HEND.out _ _ _ _ HE4 _ _
  · have hA' : p1 + 1 = A := by rw [hA]; rfl
    have HAE := Lib.hid hA'
    have hAi : (p1 : Int) + 1 = (A : Int) := by omega
    clear hA hA'
    go_enter Try.func59, Try.ntmps59
    go_upto_region 1 with fail
    rw [HBE.out, HW.out]
    go_upto_region 6 with (go_at_call 12; (refine (HT1.out _ rfl).mono ?_); rintro e w5 ⟨ta, tc, rfl, HS⟩)
    clear x0 x1 x2 HT1
    go_loopw [13, 14] (fun v13 v14 wr => ∃ (i q : Nat) (ra : Option Addr) (rc : Nat), v13 = .slice ra q rc ∧ v14 = .int .i64 (i : Nat) ∧ i ≤ m ∧ q ≤ 4194304 ∧ Hid (q = A + i * gn ∧ JoE wb (b + 2) ra q rc (L.take A ++ repLL i GL) wr)) (fun _ v14 _ => m - (intOf v14).toNat)
    case atStart => exact ⟨0, A, ta, tc, rfl, rfl, by omega, by omega, by show A = _; omega, HS.out⟩
    case round =>
      obtain ⟨i, q, ra, rc, rfl, rfl, him, hq, hst⟩ := hrel
      clear HS
      by_cases hlt : i < m
      · have HE1 : Hid (JoE wb (b + 2) ra q rc (L.take A ++ repLL i GL) wr ∧ q ≤ 549755813888) := ⟨hst.out.2, by omega⟩
        have hc1 := HCG.out wr hst.out.2.hb
        obtain ⟨hc1, hc2⟩ := hc1
        have HQ1 := Lib.hid hst.out.1
        have HRE := Lib.hid (repLL_succ i GL)
        clear hst
        go_wp2_with (first
          | (at_builtin; go_must (with_reducible refine Lib.wpList_append_run _ rfl (.tmp 29) (.tmp 32) _ _ rfl _ _ rfl rfl _ _ (HRUN3.out _) ?_))
          | (go_at_call 12; (refine (HTG.out _ _ _ _ _ HE1).mono ?_); rintro e w6 ⟨t5, t6, rfl, a4, c4, w7, HRUN3, HN⟩))
        have hq2 : q + gn ≤ 4194304 := by
          have h1 := HQ1.out
          have h2 : i * gn + gn = (i + 1) * gn := by rw [Nat.add_mul, Nat.one_mul]
          have h3 : (i + 1) * gn ≤ m * gn := Nat.mul_le_mul_right _ (by omega)
          omega
        go_roundw
        case rel => exact ⟨i + 1, q + gn, a4, c4, rfl, by go_num, by omega, hq2, by have h1 := HQ1.out; rw [Nat.add_mul, Nat.one_mul]; omega, by rw [HRE.out, ← List.append_assoc]; exact HN.out⟩
        case measure => simp [intOf]; omega
      · obtain rfl : i = m := by omega
        have hgm : gn ≤ i * gn := Nat.le_mul_of_pos_left gn (by omega)
        have hAq : A < q := by have := hst.out.1; omega
        have hAq2 : A < q + (n - A) := by omega
        clear hgm
        have HE3 : Hid (JoE wb (b + 2) ra q rc (L.take A ++ repLL i GL) wr ∧ q = A + i * gn ∧ q ≤ 549755813888) := ⟨hst.out.2, hst.out.1, by omega⟩
        have hz := hst.out.2.cells
        obtain ⟨z0, z1, z2, z3, zl⟩ := hz
        clear hst
        by_cases hcn : c = A
        · rw [if_pos hcn] at hda
          subst hda
          have hnn : A = n := by omega
          have hcn' := hcn.symm
          clear hcn
          subst hcn'
          subst hnn
          simp only [Nat.sub_self, Nat.add_zero] at HT2
          go_wp2_with (first
            | (at_builtin; go_must (with_reducible refine Lib.wpList_append_run _ rfl (.tmp 34) (.tmp 38) _ _ rfl _ _ rfl rfl _ _ (HRUN4.out _) ?_))
            | (go_at_call 50; (refine (HFI.out _ _ _ _ HX8).mono ?_); rintro e wq ⟨rfl, hwq⟩; subst hwq)
            | (go_at_call 12; (refine (HT2.out _ _ _ _ HE3).mono ?_); rintro e w7 ⟨t5, t6, rfl, a4, c4, w8, HRUN4, ⟨n0, n1, ny0, ny1, nl⟩, HE4, ob, oo, xa, xn, xc, rfl, hob, hoc, HX8⟩))
          refine bodyPost_ret (v := .tuple #[.slice (some ⟨ob, oo, none⟩) (q) c4, plV (A, FX)]) ?_ rfl ?_
          · rw [results_tc rfl]
            go_simp
            first | rfl | done
          · exact HEND.out _ _ _ _ HE4 _ _
        · rw [if_neg hcn] at hda
          simp only [Option.map_some, Nat.mul_one] at hda
          subst hda
          have hadd : (⟨lb, lo, none⟩ : Addr).add A = ⟨lb, lo + A, none⟩ := by rw [add_lit]
          rw [hadd] at HT2
          go_wp2_with (first
            | (at_builtin; go_must (with_reducible refine Lib.wpList_append_run _ rfl (.tmp 34) (.tmp 38) _ _ rfl _ _ rfl rfl _ _ (HRUN4.out _) ?_))
            | (go_at_call 50; (refine (HFI.out _ _ _ _ HX8).mono ?_); rintro e wq ⟨rfl, hwq⟩; subst hwq)
            | (go_at_call 12; (refine (HT2.out _ _ _ _ HE3).mono ?_); rintro e w7 ⟨t5, t6, rfl, a4, c4, w8, HRUN4, ⟨n0, n1, ny0, ny1, nl⟩, HE4, ob, oo, xa, xn, xc, rfl, hob, hoc, HX8⟩))
          refine bodyPost_ret (v := .tuple #[.slice (some ⟨ob, oo, none⟩) (q + (n - A)) c4, plV (A, FX)]) ?_ rfl ?_
          · rw [results_tc rfl]
            go_simp
            first | rfl | done
          · exact HEND.out _ _ _ _ HE4 _ _
end Go.Proofs.Ytfldjoiohejilaa.U
