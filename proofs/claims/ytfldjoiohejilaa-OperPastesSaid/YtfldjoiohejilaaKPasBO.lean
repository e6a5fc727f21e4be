/-
  The program's pasteBlock, where there is room.
-/
import Derived.Test.YtfldjoiohejilaaKPasBS
namespace Go.Proofs.Ytfldjoiohejilaa.U
open Go.RowKit
set_option linter.unusedVariables false
set_option linter.unusedSimpArgs false
set_option maxRecDepth 100000

set_option maxHeartbeats 4000000 in
theorem kpblock_ok (F G : Nat → Prop) (a : Option Addr) (n c : Nat) (L : List (List Int)) (ga : Option Addr) (gn gc : Nat) (GL : List (List Int)) (q1 col m M : Nat) (w : World) (h : RdL F w a n c L) (hs : sizeN (lens L) ≤ 65536) (hg : RdL G w ga gn gc GL) (hgs : sizeN (lens GL) ≤ 65536) (hq : q1 < n) (hcol : col ≤ 1048576) (hm1 : 1 ≤ m) (hm9 : m ≤ 9223372036854775807) (hM : M = if widestR GL * GL.length = 0 then 1 else m) (hR : sizeN (lens L) + lackR L q1 col GL.length + M * (widestR GL * GL.length) ≤ 65537) (hL0 : L ≠ []) (hg0 : GL ≠ []) :
    Calls Try.prog 55 #[.slice a n c, plV (q1, col), .slice ga gn gc, .int .i64 (m : Nat)] w fun e w' => ∃ ra rm rc, e = .returned (.tuple #[.slice ra rm rc, plV (clipP (blockL L q1 GL col M GL.length) (q1 : Int) (col : Int)), .int .i64 0]) ∧ RdL (fun x => w.heap.size ≤ x) w' ra rm rc (blockL L q1 GL col M GL.length) ∧ Below w.heap.size w w' := by
  have hl := h.len
  have hgl := hg.len
  have hLc := size_count L
  have hGc := size_count GL
  have hwid : widestR GL ≤ 65536 := by
    refine widest_le GL 65536 (fun x hx => ?_)
    have := sizeN_mem (List.mem_map.2 ⟨x, hx, rfl⟩ : List.length x ∈ List.map List.length GL)
    unfold lens at hgs
    omega
  obtain ⟨BL, hBL⟩ : ∃ BL, blockL L q1 GL col M GL.length = BL := ⟨_, rfl⟩
  rw [hBL]
  obtain ⟨⟨z1, z2⟩, hQ⟩ : ∃ Q, clipP BL (q1 : Int) (col : Int) = Q := ⟨_, rfl⟩
  rw [hQ]
  have hGwf : ∀ i, ∀ z ∈ lnL GL i, (Lit.int .i32 z).wf = true := by
    intro i z hz
    unfold lnL at hz
    rw [List.getD_eq_getElem?_getD] at hz
    cases hi : GL[i]? with
    | none => rw [hi] at hz; simp at hz
    | some x => rw [hi] at hz; exact lines_wf (rdl_wf hg) x (List.mem_of_getElem? hi) z hz
  unfold plV
  simp only
  obtain ⟨wb, hwb⟩ : ∃ wb, (w.alloc (.cells #[.int .i64 (q1 : Nat), .int .i64 (col : Nat)] 24)).alloc (.cells #[.int .i64 0, .int .i64 0] 24) = wb := ⟨_, rfl⟩
  have hP := pfs_new w (q1, col)
  simp only at hP
  rw [hwb] at hP
  obtain ⟨b, hbe⟩ : ∃ b, w.heap.size = b := ⟨_, rfl⟩
  rw [hbe] at hP
  obtain ⟨bz, hbz⟩ : ∃ bz, b + 1 = bz := ⟨_, rfl⟩
  have hlk : lackR L q1 col gn ≤ 1099512676352 := Nat.le_trans (lackR_le L q1 col gn) (Nat.le_trans (Nat.mul_le_mul (by omega : gn ≤ 1048576) (by omega : col + 1 ≤ 1048577)) (by decide))
  rw [hgl] at hM hR
  obtain ⟨wd, hwd⟩ : ∃ wd, widestR GL = wd := ⟨_, rfl⟩
  rw [hwd] at hM hR hwid
  obtain ⟨E, hE⟩ : ∃ E, wd * gn = E := ⟨_, rfl⟩
  have hEi : (wd : Int) * (gn : Int) = (E : Int) := by rw [← hE]; push_cast; rfl
  have hEb : E ≤ 4294967296 := by rw [← hE]; exact Nat.le_trans (Nat.mul_le_mul hwid (by omega : gn ≤ 65536)) (by decide)
  rw [hE] at hM hR
  obtain ⟨lk, hlke⟩ : ∃ lk, lackR L q1 col gn = lk := ⟨_, rfl⟩
  rw [hlke] at hR hlk
  obtain ⟨r, hr⟩ : ∃ r : Int, 65537 - (sizeN (lens L) : Int) = r := ⟨_, rfl⟩
  have hrb : 0 ≤ r ∧ r ≤ 65537 := by omega
  obtain ⟨r2, hr2⟩ : ∃ r2 : Int, r - (lk : Int) = r2 := ⟨_, rfl⟩
  have HLO : Hid (∀ W, Hid (PfS w b (q1, col) W) → Calls Try.prog 87 #[.slice ga gn gc] W fun e w' => e = .returned (.int .i64 (wd : Nat)) ∧ W = w') := by
    intro W hW
    have hb1 := hW.out.1
    rw [← hbe] at hb1
    rw [← hwd]
    exact (klongest_any G ga gn gc GL W (hg.below hb1)).mono fun _ _ h => ⟨h.1, h.2.symm⟩
  have HRO : Hid (∀ W, Hid (PfS w b (q1, col) W) → Calls Try.prog 61 #[.slice a n c] W fun e w' => e = .returned (.int .i64 r) ∧ (w'.cell? ⟨b, 0, none⟩ = some (.int .i64 (q1 : Nat)) ∧ w'.cell? ⟨b, 1, none⟩ = some (.int .i64 (col : Nat))) ∧ Hid (PfS w b (q1, col) w') ∧ Hid (PfS w b (q1, col) w'.drew)) := by
    intro W hW
    have hb1 := hW.out.1
    rw [← hbe] at hb1
    refine (kroom_any F a n c L W (h.below hb1) (by omega)).mono ?_
    rintro e w' ⟨rfl, rfl⟩
    exact ⟨by rw [hr], hW.out.cells, hW.out, hW.out.below hbe (Below.refl _ _).drew⟩
  have HLK : Hid (∀ W, Hid (PfS w b (q1, col) W) → Calls Try.prog 88 #[.slice a n c, .agg #[.int .i64 (q1 : Nat), .int .i64 (col : Nat)], .int .i64 (gn : Nat)] W fun e w' => e = .returned (.int .i64 (lk : Nat)) ∧ (w'.cell? ⟨b, 0, none⟩ = some (.int .i64 (q1 : Nat)) ∧ w'.cell? ⟨b, 1, none⟩ = some (.int .i64 (col : Nat))) ∧ Hid (PfS w b (q1, col) w') ∧ Hid (PfS w b (q1, col) w'.drew)) := by
    intro W hW
    have hb1 := hW.out.1
    rw [← hbe] at hb1
    refine (klack_any F a n c L q1 col gn W (h.below hb1) hq (by omega) hcol (by omega)).mono ?_
    rintro e w' ⟨rfl, hb⟩
    have h2 := hW.out.below hbe hb
    exact ⟨by rw [hlke], h2.cells, h2, h2.below hbe (Below.refl _ _).drew⟩
  have HTI : Hid (∀ W, Hid (PfS w b (q1, col) W) → Calls Try.prog 85 #[.int .i64 r2, .int .i64 (E : Nat), .int .i64 (m : Nat)] W fun e w' => e = .returned (.tuple #[.int .i64 (M : Nat), .bool true]) ∧ (w'.cell? ⟨b, 0, none⟩ = some (.int .i64 (q1 : Nat)) ∧ w'.cell? ⟨b, 1, none⟩ = some (.int .i64 (col : Nat))) ∧ Hid (PfS w b (q1, col) w') ∧ Hid (PfS w b (q1, col) w'.drew)) := by
    intro W hW
    refine (ktimes_any r2 E m M W hM ⟨by omega, by omega⟩ (by omega) hm1 hm9).mono ?_
    rintro e w' ⟨rfl, hb⟩
    have h2 := hW.out.below hbe hb
    exact ⟨by rw [decide_eq_true (by omega)], h2.cells, h2, h2.below hbe (Below.refl _ _).drew⟩
  have hwr : IntKind.i64.wrap r2 = r2 := by rw [IntKind.wrap_i64]; omega
  have hwE : IntKind.i64.wrap (E : Int) = (E : Int) := by rw [IntKind.wrap_i64]; omega
  have HBE := Lib.hid hbe
  have HBZ := Lib.hid hbz
  have HW := Lib.hid hwb
  have HP := Lib.hid hP
  have hc0 := hP.cells
  simp only at hc0
  rw [hbe]
  have hMb : M ≤ 65537 ∧ 1 ≤ M := by
    rw [hM] at hR ⊢
    split
    · omega
    · rename_i h0
      rw [if_neg h0] at hR
      have : m ≤ m * E := Nat.le_mul_of_pos_right m (by omega)
      omega
  have hgp : 0 < gn := by have := List.length_pos_iff.2 hg0; omega
  have hMw : M * wd ≤ 65537 := by
    have h1 : wd ≤ E := by rw [← hE]; exact Nat.le_mul_of_pos_right wd hgp
    have h2 : M * wd ≤ M * E := Nat.mul_le_mul_left M h1
    omega
  obtain ⟨hM1, hM2⟩ := hMb
  obtain ⟨gb, go_, rfl, hgb, -, hgrow⟩ := hg.at_ hgp
  obtain ⟨lb, lo, rfl, hlb, -, hrow⟩ := h.at_ (by omega)
  have HH := Lib.hid (And.intro h (And.intro hg (And.intro hl (And.intro hgl (And.intro hs hgs)))))
  have HROW := Lib.hid hrow
  have HGROW := Lib.hid hgrow
  have HWD := Lib.hid hwd
  have HQ0 := Lib.hid hQ
  have HGW := Lib.hid hGwf
  have HL0 := Lib.hid hL0
  have HQN := Lib.hid hq
  have HBL := Lib.hid hBL
  have hgn6 : gn ≤ 65536 := by omega
  have hmk : ∀ W, (Instr.makeSlice 22 (.int .i64 0) (.int .i64 (gn : Nat))).run Try.prog W = .ok (.slice (some ⟨W.heap.size, 0, none⟩) 0 gn) (W.alloc (.cells (madeCells #[.slice none 0 0] gn) 35)) := fun W => makeLc W 0 gn (Nat.zero_le _) (by omega)
  have hn6 : n ≤ 65536 := by omega
  clear hrow hgrow hQ hGwf hL0 hg0 hBL
  clear h hg hwb hP hbe hbz hR hM hs hgs hwd hE hlke hr hl hgl hLc hGc hq
  go_enter Try.func55, Try.ntmps55
  go_upto_region 1 with fail
  rw [HBE.out, HW.out, HBZ.out]
  go_upto_region 2 with (go_at_call 87; (refine (HLO.out _ HP).mono ?_); rintro e wq ⟨rfl, hwq⟩; subst hwq)
  have HPD : Hid (PfS w b (q1, col) wb.drew) := HP.out.below HBE.out (Below.refl _ _).drew
  go_cut [3, 12] (fun v3 v12 W => v3 = .int .i64 (M : Nat) ∧ v12 = .bool true ∧ Hid (PfS w b (q1, col) W))
  case first =>
    go_region_held3 (fun W => W.cell? ⟨b, 0, none⟩ = some (.int .i64 (q1 : Nat)) ∧ W.cell? ⟨b, 1, none⟩ = some (.int .i64 (col : Nat)))
      (first | exact hc0 | exact HQ)
      (first
        | (go_at_call 61; (with_reducible first | refine (HRO.out _ HP).mono ?_ | refine (HRO.out _ HPD).mono ?_); rintro e w4 ⟨rfl, HQ, HP, HPD⟩)
        | (go_at_call 88; (with_reducible first | refine (HLK.out _ HP).mono ?_ | refine (HLK.out _ HPD).mono ?_); rintro e w4 ⟨rfl, HQ, HP, HPD⟩)
        | (go_at_call 85; (with_reducible first | refine (HTI.out _ HP).mono ?_ | refine (HTI.out _ HPD).mono ?_); rintro e w4 ⟨rfl, HQ, HP, HPD⟩))
    all_goals
      go_wp2_with fail
      go_meet
      exact ⟨rfl, rfl, HP⟩
  case rest =>
    obtain ⟨rfl, rfl, HP2⟩ := hcut
    clear hc0 HP HPD HLO HRO HLK HTI
    obtain ⟨wq, hwq⟩ : ∃ wq, wq = wc := ⟨_, rfl⟩
    subst hwq
    have HST : Hid (BkS w b (q1, col) (intoL L q1 GL col M 0) (some ⟨wq.heap.size, 0, none⟩) 0 gn (wq.alloc (.cells (madeCells #[.slice none 0 0] gn) 35))) := BkS.start HP2.out HBE.out gn (by omega)
    clear HP2
    go_wp2_with fail
    go_loopw [13, 46] (fun v13 v46 wr => ∃ (i : Nat) (ra : Option Addr) (rc : Nat), v13 = .slice ra i rc ∧ v46 = .int .i64 (i : Nat) ∧ i ≤ gn ∧ Hid (BkS w b (q1, col) (intoL L q1 GL col M i) ra i rc wr)) (fun _ v46 _ => gn - (intOf v46).toNat)
    case atStart => exact ⟨0, _, _, rfl, rfl, by omega, HST⟩
    case round =>
      obtain ⟨i, ra, rc, rfl, rfl, hig, hst⟩ := hrel
      clear HST hmk
      by_cases hlt : i < gn
      · obtain ⟨y, hy⟩ : ∃ y, GL[i]? = some y := ⟨_, List.getElem?_eq_getElem (by have := HH.out.2.2.2.1; omega)⟩
        obtain ⟨sa, sc, hcy, hry, -⟩ := HGROW.out i y hy
        have hbr : Below w.heap.size w wr := by rw [HBE.out]; exact hst.out.pf.1
        have hcy2 := (hbr.cell (p := ⟨gb, go_ + i, none⟩) hgb).trans hcy
        have hyw : y.length ≤ wd := by rw [← HWD.out]; exact widest_ge (List.mem_of_getElem? hy)
        have hyl : lnL GL i = y := lnL_of hy
        have hgbr : gb < wr.heap.size := by have := hbr.size; omega
        obtain ⟨p0, p1⟩ := hst.out.pf.cells
        simp only at p0 p1
        have hpl : b < wr.heap.size := by have := hst.out.l; omega
        obtain ⟨ny, hny⟩ : ∃ ny, y.length = ny := ⟨_, rfl⟩
        rw [hny] at hcy2 hry hyw
        have hY := Lib.hid (And.intro hry (And.intro hyl hny))
        have hii : (i : Int) < (gn : Int) := by omega
        have hi0 : (0 : Int) ≤ (i : Int) := by omega
        clear hy hcy hry hyl hny hbr
        obtain ⟨x, hxe⟩ : ∃ x, lnL L (q1 + i) = x := ⟨_, rfl⟩
        obtain ⟨xa, nx, xc, hrx⟩ : ∃ xa nx xc, (if q1 + i < n then w.cell? ⟨lb, lo + (q1 + i), none⟩ = some (.slice xa nx xc) else xa = none ∧ nx = 0 ∧ xc = 0) ∧ Rd .i32 w xa nx xc x ∧ nx ≤ 65536 := by
          by_cases hq2 : q1 + i < n
          · obtain ⟨x', hx'⟩ : ∃ x', L[q1 + i]? = some x' := ⟨_, List.getElem?_eq_getElem (by have := HH.out.2.2.1; omega)⟩
            obtain ⟨xa, xc, e1, e2, -⟩ := HROW.out _ _ hx'
            have e3 : x = x' := by rw [← hxe]; exact lnL_of hx'
            subst e3
            refine ⟨xa, x.length, xc, by rw [if_pos hq2]; exact e1, e2, ?_⟩
            have := sizeN_mem (List.mem_map.2 ⟨x, List.mem_of_getElem? hx', rfl⟩ : List.length x ∈ List.map List.length L)
            have h5 := HH.out.2.2.2.2.1
            unfold lens at h5
            omega
          · refine ⟨none, 0, 0, by rw [if_neg hq2]; exact ⟨rfl, rfl, rfl⟩, ?_, by omega⟩
            have e4 : x = [] := by rw [← hxe]; unfold lnL; rw [List.getD_eq_getElem?_getD, List.getElem?_eq_none (by have := HH.out.2.2.1; omega)]; rfl
            rw [e4]
            exact Rd.none0 _ _
        obtain ⟨hcx, hrx, hnx⟩ := hrx
        obtain ⟨X, hX⟩ : ∃ X, filledR x col = X := ⟨_, rfl⟩
        obtain ⟨fl, hfl⟩ : ∃ fl, X.length = fl := ⟨_, rfl⟩
        have hflc : col ≤ fl ∧ fl ≤ 1048576 := by
          have h1 := filled_len x col
          have h2 := hrx.1
          rw [hX, hfl] at h1
          omega
        obtain ⟨tl, htl⟩ : ∃ tl, M * wd = tl := ⟨_, rfl⟩
        have HF1 : Hid (∀ W, W = wr → Calls Try.prog 89 #[.slice xa nx xc, .int .i64 (col : Nat)] W fun e w' => ∃ fa fc, e = .returned (.slice fa fl fc) ∧ w'.cell? ⟨gb, go_ + i, none⟩ = some (.slice sa ny sc) ∧ Hid (BkS w b (q1, col) (intoL L q1 GL col M i) ra i rc w' ∧ Rd .i32 w' fa fl fc X)) := by
          rintro W rfl
          have hbW : Below w.heap.size w W := by rw [HBE.out]; exact hst.out.pf.1
          refine (hst.out.fill HBE.out (hrx.below hbW) (by omega) col fl hcol (by rw [hX, hfl])).mono ?_
          rintro e w' ⟨fa, fc, rfl, h1, h2, h3⟩
          rw [hX] at h2
          exact ⟨fa, fc, rfl, (h3.cell (p := ⟨gb, go_ + i, none⟩) hgbr).trans hcy2, h1, h2⟩
        have HF2 : Hid (∀ W fa fc, Hid (BkS w b (q1, col) (intoL L q1 GL col M i) ra i rc W ∧ Rd .i32 W fa fl fc X) → Calls Try.prog 89 #[.slice sa ny sc, .int .i64 (wd : Nat)] W fun e w' => ∃ la lc, e = .returned (.slice la wd lc) ∧ Hid (BkS w b (q1, col) (intoL L q1 GL col M i) ra i rc w' ∧ Rd .i32 w' fa fl fc X ∧ Rd .i32 w' la wd lc (filledR y wd))) := by
          intro W fa fc hS
          have hbW : Below w.heap.size w W := by rw [HBE.out]; exact hS.out.1.pf.1
          refine (hS.out.1.fill HBE.out (hY.out.1.below hbW) (by omega) wd wd (by omega) (by rw [filled_len]; have := hY.out.2.2; omega)).mono ?_
          rintro e w' ⟨la, lc, rfl, h1, h2, h3⟩
          exact ⟨la, lc, rfl, h1, hS.out.2.below h3, h2⟩
        have HRP : Hid (∀ W fa fc la lc, Hid (BkS w b (q1, col) (intoL L q1 GL col M i) ra i rc W ∧ Rd .i32 W fa fl fc X ∧ Rd .i32 W la wd lc (filledR y wd)) → Calls Try.prog 74 #[.slice la wd lc, .int .i64 (M : Nat)] W fun e w' => ∃ ta tc, e = .returned (.slice ta tl tc) ∧ w'.cell? ⟨b, 1, none⟩ = some (.int .i64 (col : Nat)) ∧ b < w'.heap.size ∧ Hid (BkS w b (q1, col) (intoL L q1 GL col M i) ra i rc w' ∧ Rd .i32 w' fa fl fc X ∧ Rd .i32 w' ta tl tc (repL M (filledR y wd)))) := by
          intro W fa fc la lc hS
          refine (hS.out.1.rpt HBE.out hS.out.2.2 M tl hM2 (by omega) (by omega) htl).mono ?_
          rintro e w' ⟨ta, tc, rfl, h1, h2, h3⟩
          exact ⟨ta, tc, rfl, h1.pf.cells.2, by have := h1.l; omega, h1, hS.out.2.1.below h3, h2⟩
        have HXX := Lib.hid (And.intro hxe (And.intro hX hfl))
        have HTL := Lib.hid htl
        have hbr : Below w.heap.size w wr := by rw [HBE.out]; exact hst.out.pf.1
        obtain ⟨hcf, hff⟩ := hflc
        have hlbr : lb < wr.heap.size := by have := hbr.size; omega
        have hq10 : (0 : Int) ≤ ((q1 + i : Nat) : Int) := by omega
        obtain ⟨qi, hqi⟩ : ∃ qi, q1 + i = qi := ⟨_, rfl⟩
        have hqii : (q1 : Int) + (i : Int) = (qi : Int) := by omega
        have hqb : q1 + i ≤ 131072 := by have := HQN.out; omega
        rw [hqi] at hcx hq10 hqb
        have HQI := Lib.hid hqi
        clear hqi htl hxe hX hfl hrx hst
        by_cases hq2 : qi < n
        · rw [if_pos hq2] at hcx
          have hcx2 := (hbr.cell (p := ⟨lb, lo + qi, none⟩) hlb).trans hcx
          have hq2i : (qi : Int) < (n : Int) := by omega
          clear hcx hbr
          go_upto_region 14 with (first
            | (go_at_call 74; (refine (HRP.out _ _ _ _ _ HS2).mono ?_); rintro e w3 ⟨ta, tc, rfl, r1, rl, HS3⟩)
            | (go_at_call 89; (with_reducible refine (HF2.out _ _ _ HS1).mono ?_); rintro e w2 ⟨la, lc, rfl, HS2⟩)
            | (go_at_call 89; (refine (HF1.out _ rfl).mono ?_); rintro e w1 ⟨fa, fc, rfl, hcy3, HS1⟩))
          have hff2 : fl ≤ fc := HS3.out.2.1.2.1
          have hcfc : col ≤ fc := by omega
          have hfnone : fa = none → fc = 0 := HS3.out.2.1.2.2.2.2.1
          have HC : Hid (∀ a1 a3, a1 = fa → a3 = (if fc = col then fa else fa.map (·.add (col * 1))) → ∀ W2, (W2 = w3.alloc (.cells #[.slice a1 col fc, .slice ta tl tc, .slice a3 (fl - col) (fc - col)] 35) ∨ W2 = (w3.alloc (.cells #[.slice a1 col fc, .slice ta tl tc, .slice a3 (fl - col) (fc - col)] 35)).drew) → Calls Try.prog 46 #[.slice (some ⟨w3.heap.size, 0, none⟩) 3 3] W2 fun e w5 => ∃ a' n' c', e = .returned (.slice a' n' c') ∧
              ∃ a4 c4 w4, Hid (∀ ty, (Builtin.append_ #[22, 22] ty #[.slice ra i rc, .slice (some ⟨w5.heap.size, 0, none⟩) 1 1]).run Try.prog (w5.alloc (.cells #[.slice a' n' c'] 35)) = .ok (.slice a4 (i + 1) c4) w4) ∧ Hid (BkS w b (q1, col) (intoL L q1 GL col M (i + 1)) a4 (i + 1) c4 w4)) := by
            rintro a1 a3 rfl rfl W2 hW2
            have htl6 : tl ≤ 65537 := by have := HTL.out; omega
            refine (HS3.out.1.cat HBE.out (by omega) _ _ _ col fc tl tc (fl - col) (fc - col) _ _ _ (HS3.out.2.1.take col hcf) HS3.out.2.2 (HS3.out.2.1.drop col hcf) (by omega) W2 hW2).mono ?_
            rintro e w5 ⟨a', c', rfl, a4, c4, w4, h1, h2⟩
            refine ⟨a', _, c', rfl, a4, c4, w4, h1, ?_⟩
            have e1 : blockX (lnL L (q1 + i)) col M (widestR GL) (lnL GL i) = X.take col ++ repL M (filledR y wd) ++ X.drop col := by
              unfold blockX
              rw [HXX.out.1, HXX.out.2.1, HWD.out, hY.out.2.1]
            rw [intoL_succ, e1]
            exact h2
          clear HS3 HF1 HF2 HRP
          cases fa with
          | none =>
            obtain rfl := hfnone rfl
            obtain rfl : fl = 0 := by omega
            obtain rfl : col = 0 := by omega
            simp only [Nat.sub_self] at HC
            go_region_law (first
              | (go_simp; go_at_call 46; (first | refine (HC.out none none rfl rfl _ (Or.inl rfl)).mono ?_ | refine (HC.out none none rfl rfl _ (Or.inr rfl)).mono ?_); rintro e w5 ⟨a', n', c', rfl, a4, c4, w4, HRUN, HN⟩)
              | (refine step_append_run rfl (.tmp 74) (.tmp 86) _ _ rfl _ _ (by simp [Act.eval, Act.put]) (by simp [Act.eval, Act.put]) (HRUN.out _) ?_))
            all_goals
              go_wp2_with fail
              go_roundw
              case rel => first | exact ⟨i + 1, a4, c4, rfl, by go_num, by omega, HN⟩ | ((repeat apply Exists.intro); refine And.intro ?_ ?_; rotate_left; (repeat' (first | exact rfl | apply And.intro)); exact ⟨i + 1, a4, c4, rfl, by go_num, by omega, HN⟩)
              case measure => simp [intOf]; omega
          | some ad =>
            by_cases hxk : fc = col
            · subst hxk
              obtain rfl : fl = fc := by omega
              simp only [Nat.sub_self, if_true] at HC
              go_region_law (first
                | (go_simp; go_at_call 46; (first | refine (HC.out (some ad) (some ad) rfl rfl _ (Or.inl rfl)).mono ?_ | refine (HC.out (some ad) (some ad) rfl rfl _ (Or.inr rfl)).mono ?_); rintro e w5 ⟨a', n', c', rfl, a4, c4, w4, HRUN, HN⟩)
                | (refine step_append_run rfl (.tmp 74) (.tmp 86) _ _ rfl _ _ (by simp [Act.eval, Act.put]) (by simp [Act.eval, Act.put]) (HRUN.out _) ?_))
              all_goals
                go_wp2_with fail
                go_roundw
                case rel => first | exact ⟨i + 1, a4, c4, rfl, by go_num, by omega, HN⟩ | ((repeat apply Exists.intro); refine And.intro ?_ ?_; rotate_left; (repeat' (first | exact rfl | apply And.intro)); exact ⟨i + 1, a4, c4, rfl, by go_num, by omega, HN⟩)
                case measure => simp [intOf]; omega
            · rw [if_neg hxk] at HC
              simp only [Option.map_some, Nat.mul_one] at HC
              go_region_law (first
                | (go_simp; go_at_call 46; (first | refine (HC.out (some ad) (some (ad.add col)) rfl rfl _ (Or.inl rfl)).mono ?_ | refine (HC.out (some ad) (some (ad.add col)) rfl rfl _ (Or.inr rfl)).mono ?_); rintro e w5 ⟨a', n', c', rfl, a4, c4, w4, HRUN, HN⟩)
                | (refine step_append_run rfl (.tmp 74) (.tmp 86) _ _ rfl _ _ (by simp [Act.eval, Act.put]) (by simp [Act.eval, Act.put]) (HRUN.out _) ?_))
              all_goals
                go_wp2_with fail
                go_roundw
                case rel => first | exact ⟨i + 1, a4, c4, rfl, by go_num, by omega, HN⟩ | ((repeat apply Exists.intro); refine And.intro ?_ ?_; rotate_left; (repeat' (first | exact rfl | apply And.intro)); exact ⟨i + 1, a4, c4, rfl, by go_num, by omega, HN⟩)
                case measure => simp [intOf]; omega
        · rw [if_neg hq2] at hcx
          obtain ⟨e1, e2, e3⟩ := hcx
          subst e1
          subst e2
          subst e3
          have hq2i : ¬ (qi : Int) < (n : Int) := by omega
          have hq2d : decide ((qi : Int) < (n : Int)) = false := decide_eq_false hq2i
          have hq2e : decide (qi < n) = false := decide_eq_false hq2
          clear hbr
          go_upto_region 14 with (first
            | (go_at_call 74; (refine (HRP.out _ _ _ _ _ HS2).mono ?_); rintro e w3 ⟨ta, tc, rfl, r1, rl, HS3⟩)
            | (go_at_call 89; (with_reducible refine (HF2.out _ _ _ HS1).mono ?_); rintro e w2 ⟨la, lc, rfl, HS2⟩)
            | (go_at_call 89; (refine (HF1.out _ rfl).mono ?_); rintro e w1 ⟨fa, fc, rfl, hcy3, HS1⟩))
          have hff2 : fl ≤ fc := HS3.out.2.1.2.1
          have hcfc : col ≤ fc := by omega
          have hfnone : fa = none → fc = 0 := HS3.out.2.1.2.2.2.2.1
          have HC : Hid (∀ a1 a3, a1 = fa → a3 = (if fc = col then fa else fa.map (·.add (col * 1))) → ∀ W2, (W2 = w3.alloc (.cells #[.slice a1 col fc, .slice ta tl tc, .slice a3 (fl - col) (fc - col)] 35) ∨ W2 = (w3.alloc (.cells #[.slice a1 col fc, .slice ta tl tc, .slice a3 (fl - col) (fc - col)] 35)).drew) → Calls Try.prog 46 #[.slice (some ⟨w3.heap.size, 0, none⟩) 3 3] W2 fun e w5 => ∃ a' n' c', e = .returned (.slice a' n' c') ∧
              ∃ a4 c4 w4, Hid (∀ ty, (Builtin.append_ #[22, 22] ty #[.slice ra i rc, .slice (some ⟨w5.heap.size, 0, none⟩) 1 1]).run Try.prog (w5.alloc (.cells #[.slice a' n' c'] 35)) = .ok (.slice a4 (i + 1) c4) w4) ∧ Hid (BkS w b (q1, col) (intoL L q1 GL col M (i + 1)) a4 (i + 1) c4 w4)) := by
            rintro a1 a3 rfl rfl W2 hW2
            have htl6 : tl ≤ 65537 := by have := HTL.out; omega
            refine (HS3.out.1.cat HBE.out (by omega) _ _ _ col fc tl tc (fl - col) (fc - col) _ _ _ (HS3.out.2.1.take col hcf) HS3.out.2.2 (HS3.out.2.1.drop col hcf) (by omega) W2 hW2).mono ?_
            rintro e w5 ⟨a', c', rfl, a4, c4, w4, h1, h2⟩
            refine ⟨a', _, c', rfl, a4, c4, w4, h1, ?_⟩
            have e1 : blockX (lnL L (q1 + i)) col M (widestR GL) (lnL GL i) = X.take col ++ repL M (filledR y wd) ++ X.drop col := by
              unfold blockX
              rw [HXX.out.1, HXX.out.2.1, HWD.out, hY.out.2.1]
            rw [intoL_succ, e1]
            exact h2
          clear HS3 HF1 HF2 HRP
          cases fa with
          | none =>
            obtain rfl := hfnone rfl
            obtain rfl : fl = 0 := by omega
            obtain rfl : col = 0 := by omega
            simp only [Nat.sub_self] at HC
            go_region_law (first
              | (go_simp; go_at_call 46; (first | refine (HC.out none none rfl rfl _ (Or.inl rfl)).mono ?_ | refine (HC.out none none rfl rfl _ (Or.inr rfl)).mono ?_); rintro e w5 ⟨a', n', c', rfl, a4, c4, w4, HRUN, HN⟩)
              | (refine step_append_run rfl (.tmp 74) (.tmp 86) _ _ rfl _ _ (by simp [Act.eval, Act.put]) (by simp [Act.eval, Act.put]) (HRUN.out _) ?_))
            all_goals
              go_wp2_with fail
              go_roundw
              case rel => first | exact ⟨i + 1, a4, c4, rfl, by go_num, by omega, HN⟩ | ((repeat apply Exists.intro); refine And.intro ?_ ?_; rotate_left; (repeat' (first | exact rfl | apply And.intro)); exact ⟨i + 1, a4, c4, rfl, by go_num, by omega, HN⟩)
              case measure => simp [intOf]; omega
          | some ad =>
            by_cases hxk : fc = col
            · subst hxk
              obtain rfl : fl = fc := by omega
              simp only [Nat.sub_self, if_true] at HC
              go_region_law (first
                | (go_simp; go_at_call 46; (first | refine (HC.out (some ad) (some ad) rfl rfl _ (Or.inl rfl)).mono ?_ | refine (HC.out (some ad) (some ad) rfl rfl _ (Or.inr rfl)).mono ?_); rintro e w5 ⟨a', n', c', rfl, a4, c4, w4, HRUN, HN⟩)
                | (refine step_append_run rfl (.tmp 74) (.tmp 86) _ _ rfl _ _ (by simp [Act.eval, Act.put]) (by simp [Act.eval, Act.put]) (HRUN.out _) ?_))
              all_goals
                go_wp2_with fail
                go_roundw
                case rel => first | exact ⟨i + 1, a4, c4, rfl, by go_num, by omega, HN⟩ | ((repeat apply Exists.intro); refine And.intro ?_ ?_; rotate_left; (repeat' (first | exact rfl | apply And.intro)); exact ⟨i + 1, a4, c4, rfl, by go_num, by omega, HN⟩)
                case measure => simp [intOf]; omega
            · rw [if_neg hxk] at HC
              simp only [Option.map_some, Nat.mul_one] at HC
              go_region_law (first
                | (go_simp; go_at_call 46; (first | refine (HC.out (some ad) (some (ad.add col)) rfl rfl _ (Or.inl rfl)).mono ?_ | refine (HC.out (some ad) (some (ad.add col)) rfl rfl _ (Or.inr rfl)).mono ?_); rintro e w5 ⟨a', n', c', rfl, a4, c4, w4, HRUN, HN⟩)
                | (refine step_append_run rfl (.tmp 74) (.tmp 86) _ _ rfl _ _ (by simp [Act.eval, Act.put]) (by simp [Act.eval, Act.put]) (HRUN.out _) ?_))
              all_goals
                go_wp2_with fail
                go_roundw
                case rel => first | exact ⟨i + 1, a4, c4, rfl, by go_num, by omega, HN⟩ | ((repeat apply Exists.intro); refine And.intro ?_ ?_; rotate_left; (repeat' (first | exact rfl | apply And.intro)); exact ⟨i + 1, a4, c4, rfl, by go_num, by omega, HN⟩)
                case measure => simp [intOf]; omega
      · obtain rfl : i = gn := by omega
        obtain ⟨t, ht⟩ : ∃ t, min (q1 + i) n = t := ⟨_, rfl⟩
        have hgL : GL.length = i := HH.out.2.2.2.1
        have hLn : L.length = n := HH.out.2.2.1
        have hqn : q1 < n := HQN.out
        have hparts : L.take q1 ++ intoL L q1 GL col M i ++ L.drop t = BL := by
          rw [← HBL.out, hgL, blockL_parts (by omega)]
          congr 1
          rw [← ht]
          by_cases hle : q1 + i ≤ n
          · rw [Nat.min_eq_left hle]
          · rw [Nat.min_eq_right (by omega), List.drop_of_length_le (by omega), List.drop_of_length_le (by omega)]
        have hQ1 := HQ0.out
        have HREP : Hid (∀ W ra rc, Hid (BkS w b (q1, col) (intoL L q1 GL col M i) ra i rc W) → Calls Try.prog 47 #[.slice (some ⟨lb, lo, none⟩) n c, .int .i64 (q1 : Nat), .int .i64 (t : Nat), .slice ra i rc] W fun e w' => ∃ (va : Option Addr) (vn vc : Nat), e = .returned (.slice va vn vc) ∧ w'.cell? ⟨b, 0, none⟩ = some (.int .i64 (q1 : Nat)) ∧ w'.cell? ⟨b, 1, none⟩ = some (.int .i64 (col : Nat)) ∧ b < w'.heap.size ∧ Hid (RdL (fun x => b + 2 ≤ x) w' va vn vc BL ∧ PfS w b (q1, col) w')) := by
          intro W ra rc hW
          have hbW : Below w.heap.size w W := by rw [HBE.out]; exact hW.out.pf.1
          have hl := hW.out.l
          have hMr := hW.out.fr.rdl (by
            intro x hx z hz
            unfold intoL at hx
            obtain ⟨j, hj, rfl⟩ := List.mem_map.1 hx
            unfold blockX at hz
            have hLw := lines_wf (rdl_wf HH.out.1)
            have hx2 : ∀ z ∈ filledR (lnL L (q1 + j)) col, (Lit.int .i32 z).wf = true := filled_wf (ln_wf HH.out.1 _) col
            rcases List.mem_append.1 hz with hz | hz
            · rcases List.mem_append.1 hz with hz | hz
              · exact hx2 z (List.mem_of_mem_take hz)
              · unfold repL at hz
                obtain ⟨u, hu, hz2⟩ := List.mem_flatten.1 hz
                rw [List.eq_of_mem_replicate hu] at hz2
                exact filled_wf (HGW.out j) _ z hz2
            · exact hx2 z (List.mem_of_mem_drop hz))
          refine (kreplaced_any F _ (some ⟨lb, lo, none⟩) n c L ra i rc _ q1 t W (HH.out.1.below hbW) hMr (by have := HH.out.2.2.2.2.1; omega) (by omega) (by omega) (by omega) (by omega)).mono ?_
          rintro e w' ⟨va, vc, rfl, hr2, hb⟩
          rw [hparts] at hr2
          have h2 := hW.out.pf.below HBE.out hb
          exact ⟨va, _, vc, rfl, h2.cells.1, h2.cells.2, by have := hb.size; omega, hr2.mono (fun k hk => by rcases hk with hk | hk <;> omega), h2⟩
        have HCL : Hid (∀ W va vn vc, Hid (RdL (fun x => b + 2 ≤ x) W va vn vc BL ∧ PfS w b (q1, col) W) → Calls Try.prog 53 #[.slice va vn vc, .agg #[.int .i64 (q1 : Nat), .int .i64 (col : Nat)]] W fun e w' => e = .returned (.agg #[.int .i64 (z1 : Nat), .int .i64 (z2 : Nat)]) ∧ ArP bz w' ∧ Hid (RdL (fun x => b + 2 ≤ x) w' va vn vc BL ∧ Below b w w')) := by
          intro W va vn vc hW
          refine (wclip_any _ va vn vc BL ⟨(q1 : Int), (col : Int)⟩ W hW.out.1 ⟨⟨by show _ ≤ (q1 : Int); omega, by show (q1 : Int) ≤ _; omega⟩, ⟨by show _ ≤ (col : Int); omega, by show (col : Int) ≤ _; omega⟩⟩).mono ?_
          rintro e w' ⟨rfl, hb⟩
          have h2 := hW.out.2.below HBE.out hb
          refine ⟨?_, ?_, hW.out.1.below hb, h2.1⟩
          · simp only [hQ1]; rfl
          · rw [← HBZ.out]; exact ArP.of h2.2.2
        obtain ⟨p0, p1⟩ := hst.out.pf.cells
        simp only at p0 p1
        have hpl : b < wr.heap.size := by have := hst.out.l; omega
        have hti : min ((q1 : Int) + (i : Int)) (n : Int) = (t : Int) := by rw [← ht]; omega
        obtain ⟨qi, hqi⟩ : ∃ qi, q1 + i = qi := ⟨_, rfl⟩
        have hqii : (q1 : Int) + (i : Int) = (qi : Int) := by omega
        have hti2 : min (qi : Int) (n : Int) = (t : Int) := by omega
        have hqis : qi ≤ 131072 := by omega
        have HT := Lib.hid hst.out
        clear hst ht hparts hQ1 hgL hLn hqn HROW HGROW HH hqi
        go_upto_region 17 with (go_at_call 47; (refine (HREP.out _ _ _ HT).mono ?_); rintro e w9 ⟨va, vn, vc, rfl, d0, d1, dl, HR9⟩)
        go_cut [8, 10] (fun v8 v10 W => v8 = .slice va vn vc ∧ v10 = .int .i64 0 ∧ W.cell? ⟨bz, 0, none⟩ = some (.int .i64 (z1 : Nat)) ∧ W.cell? ⟨bz, 1, none⟩ = some (.int .i64 (z2 : Nat)) ∧ bz < W.heap.size ∧ Hid (∃ w10, W = (w10.setCell ⟨bz, 0, none⟩ (.int .i64 (z1 : Nat))).setCell ⟨bz, 1, none⟩ (.int .i64 (z2 : Nat)) ∧ RdL (fun x => b + 2 ≤ x) w10 va vn vc BL ∧ Below b w w10))
        case first =>
          go_wp2_with (go_at_call 53; (refine (HCL.out _ _ _ _ HR9).mono ?_); rintro e w10 ⟨rfl, ⟨u0, u1, u2, u3, u4⟩, HR11⟩)
          go_meet
          exact ⟨rfl, rfl, by go_simp, by go_simp, by go_simp, ⟨w10, rfl, HR11.out⟩⟩
        case rest =>
          obtain ⟨rfl, rfl, c0, c1, cl, HR12⟩ := hcut
          go_step
          go_step
          refine bodyPost_ret (v := .tuple #[.slice va vn vc, .agg #[.int .i64 (z1 : Nat), .int .i64 (z2 : Nat)], .int .i64 0]) ?_ rfl ⟨va, vn, vc, rfl, ?_⟩
          · rw [results_tctK rfl]
            go_simp
            first | rfl | done
          · obtain ⟨w10, rfl, HR11⟩ := HR12.out
            obtain rfl := HBZ.out
            have hf : ∀ u v, Fr (fun z => z = b + 1) w10 ((w10.setCell ⟨b + 1, 0, none⟩ u).setCell ⟨b + 1, 1, none⟩ v) := fun u v => ((Fr.refl (fun z => z = b + 1) w10).setCell ⟨b + 1, 0, none⟩ _ (fun _ => rfl)).setCell ⟨b + 1, 1, none⟩ _ (fun _ => rfl)
            exact ⟨(HR11.1.frF (hf _ _) (fun z hz e => by omega)).mono (fun z hz => by omega), setCell_below (setCell_below HR11.2 _ _ _ (by omega)) _ _ _ (by omega)⟩
end Go.Proofs.Ytfldjoiohejilaa.U
