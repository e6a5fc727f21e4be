/-
  The document's block: the walk. (MADE by wip/tools/gen_jblkw.py.)
-/
import Derived.Test.YtfldjoiohejilaaJBlk
namespace Go.Proofs.Ytfldjoiohejilaa.U
open Go.RowKit
set_option linter.unusedVariables false
set_option linter.unusedSimpArgs false
set_option maxRecDepth 100000

theorem filled_wf {x : List Int} (h : ∀ z ∈ x, (Lit.int .i32 z).wf = true) (n : Nat) : ∀ z ∈ filledR x n, (Lit.int .i32 z).wf = true := by
  intro z hz
  unfold filledR at hz
  rcases List.mem_append.1 hz with hz | hz
  · exact h z hz
  · have : z = 32 := List.eq_of_mem_replicate hz
    subst this
    decide
theorem repL_wf {x : List Int} (h : ∀ z ∈ x, (Lit.int .i32 z).wf = true) (n : Nat) : ∀ z ∈ repL n x, (Lit.int .i32 z).wf = true := by
  intro z hz
  unfold repL at hz
  obtain ⟨l, hl, hz⟩ := List.mem_flatten.1 hz
  rw [List.eq_of_mem_replicate hl] at hz
  exact h z hz
/-- the row that is made, put where it belongs -/
theorem blk_row {wb w10 W : World} {g on oc j FL fc q rc col : Nat} {fa ra : Option Addr} {O : List (List Int)} {X R z : List Int} (h : ChS wb (some ⟨g, 0, none⟩) on oc O w10) (hx : TxS wb fa FL fc X w10) (hr : TxS w10 ra q rc (X.take col ++ R) W) (hz : O[j]? = some z) (hcol : col ≤ FL) (hwx : ∀ z ∈ X, (Lit.int .i32 z).wf = true) (hwr : ∀ z ∈ R, (Lit.int .i32 z).wf = true) (hq : q ≤ 1048576) (hF : FL ≤ 1048576) :
    ∃ a1 c1 w1, (∀ ty, (Builtin.append_ #[35, 35] ty #[.slice ra q rc, .slice (if fc = col then fa else fa.map (·.add (col * 1))) (FL - col) (fc - col)]).run Try.prog W = .ok (.slice a1 (q + (FL - col)) c1) w1) ∧ (∃ za zn zc, w1.cell? ⟨g, j, none⟩ = some (.slice za zn zc)) ∧ w1.frozen? ⟨g, j, none⟩ = false ∧ g < w1.heap.size ∧ ChS wb (some ⟨g, 0, none⟩) on oc (O.set j (X.take col ++ R ++ X.drop col)) (w1.setCell ⟨g, j, none⟩ (.slice a1 (q + (FL - col)) c1)) := by
  have hX : Rd .i32 w10 fa FL fc X := own_rd hx.1 hwx
  obtain ⟨a1, c1, w1, e1, e2⟩ := hr.app ((hX.below hr.2).drop col hcol) (by omega)
  have hO := h.below e2.2
  obtain ⟨xa, xc, k1, k2, k3, k4, k5⟩ := hO.1.row hz
  refine ⟨a1, c1, w1, e1, ⟨_, _, _, k1⟩, k2, k3, hO.put hz (RdT.own (own_mono e2.1 h.2.size) ?_)⟩
  intro y hy
  rcases List.mem_append.1 hy with hy | hy
  · rcases List.mem_append.1 hy with hy | hy
    · exact hwx y (List.mem_of_mem_take hy)
    · exact hwr y hy
  · exact hwx y (List.mem_of_mem_drop hy)
set_option maxHeartbeats 8000000 in
theorem rblock_any (F G : Nat → Prop) (a : Option Addr) (n c : Nat) (L : List (List Int)) (ga : Option Addr) (gn gc : Nat) (GL : List (List Int)) (p1 p2 col : Nat) (k : Int) (m : Nat) (w : World) (h : RdL F w a n c L) (hs : sizeN (lens L) ≤ 65536) (hg : RdL G w ga gn gc GL) (hgs : sizeN (lens GL) ≤ 65536) (hp : okP L (p1, p2)) (hcol : col ≤ 65537) (hm : m * widestR GL ≤ 262144) (hm1 : m ≤ 65536) :
    Calls Try.prog 60 #[.slice a n c, .agg #[.int .i64 (p1 : Nat), .int .i64 (p2 : Nat)], .agg #[.int .i64 k, .slice ga gn gc], .int .i64 (col : Nat), .int .i64 (m : Nat)] w fun e w' => ∃ ra rn rc, e = .returned (.tuple #[.slice ra rn rc, plV (clipP (blockL L p1 GL col m gn) (p1 : Int) (col : Int))]) ∧ RdL (fun x => w.heap.size ≤ x) w' ra rn rc (blockL L p1 GL col m gn) ∧ Below w.heap.size w w' := by
  have hl := h.len
  have hgl := hg.len
  have hcnt := size_count L
  have hgcnt := size_count GL
  have hp1 : p1 < n := by have := hp.1; omega
  obtain ⟨wb, hwb⟩ : ∃ wb, ((w.alloc (.cells #[.int .i64 (p1 : Nat), .int .i64 (p2 : Nat)] 24)).alloc (.cells #[.int .i64 k, .slice ga gn gc] 30)).alloc (.cells #[.int .i64 0, .int .i64 0] 24) = wb := ⟨_, rfl⟩
  have hsz : wb.heap.size = w.heap.size + 3 := by rw [← hwb]; simp
  have hB : Below w.heap.size w wb := by rw [← hwb]; exact (((Below.refl _ _).alloc (Nat.le_refl _) _).alloc (by simp) _).alloc (by simp; omega) _
  obtain ⟨g1, g2, g3⟩ := three_new w _ _ _ _ _ _ wb (by rw [← hwb]; exact Below.refl _ _)
  obtain ⟨b, hbe⟩ : ∃ b, w.heap.size = b := ⟨_, rfl⟩
  have HBE := Lib.hid hbe
  rw [hbe] at g1 g2 g3 hsz
  have KS : Hid (∀ W, Below wb.heap.size wb W → BxC b p1 p2 ga gn gc W) := fun W hW => ⟨cell_row (hbox g1 hW) 0, cell_row (hbox g1 hW) 1, cell_row (hbox g2 hW) 1, ArP.of (hbox g3 hW)⟩
  have HTW : Hid (∀ W, W = wb → Calls Try.prog 12 #[.slice a n c] W fun e w' => ∃ ta tc, e = .returned (.slice ta n tc) ∧ BxC b p1 p2 ga gn gc w' ∧ Hid (ChS wb ta n tc (blockL L p1 GL col m 0) w')) := by
    rintro W rfl
    refine (rtwin_any F a n c L W (h.below hB) (by omega)).mono ?_
    rintro e w' ⟨ta, tc, rfl, hf, hb⟩
    exact ⟨ta, tc, rfl, KS.out _ hb, hdt_my (hf.my (Nat.le_refl _)) (lines_wf (rdl_wf h)), hb⟩
  obtain ⟨wd, hwd⟩ : ∃ wd, widestR GL = wd := ⟨_, rfl⟩
  have HWI : Hid (∀ W, Below wb.heap.size wb W → Calls Try.prog 91 #[.slice ga gn gc] W fun e w' => e = .returned (.int .i64 (wd : Nat)) ∧ w' = W) := fun W hW => by
    rw [← hwd]
    exact rwidest_any G ga gn gc GL W (hg.below (btr hB hW))
  have HBS : Hid (∀ i, blockL L p1 GL col m (i + 1) = (moreL (blockL L p1 GL col m i) (p1 + i)).set (p1 + i) (blockX (lnL (moreL (blockL L p1 GL col m i) (p1 + i)) (p1 + i)) col m wd (lnL GL i))) := fun i => by
    rw [blockL_succ, ← hwd]
    rfl
  have HBL : Hid (∀ i, (blockL L p1 GL col m i).length = max n (p1 + i)) := fun i => by rw [← hl]; exact blockL_len (by omega) GL col m i
  have HFX : Hid (∀ (W : World) (xa : Option Addr) (y xc : Nat) (x : List Int), Below wb.heap.size wb W → Rd .i32 W xa y xc x → y ≤ 1048576 → Calls Try.prog 93 #[.slice xa y xc, .int .i64 (col : Nat)] W fun e w' => ∃ fa fc, e = .returned (.slice fa (filledR x col).length fc) ∧ Hid (TxS wb fa (filledR x col).length fc (filledR x col) w' ∧ Below W.heap.size W w')) := by
    intro W xa y xc x hW hx hy
    refine (rfilled_any xa y xc x col W hx hy (by omega)).mono ?_
    rintro e w' ⟨fa, fc, rfl, ho, hb⟩
    exact ⟨fa, fc, rfl, ⟨own_mono ho hW.size, btr hW hb⟩, hb⟩
  have HFG : Hid (∀ (i : Nat) (wz W : World) (ra : Option Addr) (q rc : Nat) (T : List Int) (ya : Option Addr) (yc : Nat), Hid (TxS wz ra q rc T W) → q ≤ 1048576 → Rd .i32 W ya (lnL GL i).length yc (lnL GL i) → (lnL GL i).length ≤ wd → wd ≤ 65536 → Calls Try.prog 93 #[.slice ya (lnL GL i).length yc, .int .i64 (wd : Nat)] W fun e w' => ∃ fa fc, e = .returned (.slice fa wd fc) ∧ ∃ a' c' W', Hid (∀ ty, (Builtin.append_ #[35, 35] ty #[.slice ra q rc, .slice fa wd fc]).run Try.prog w' = .ok (.slice a' (q + wd) c') W') ∧ Hid (TxS wz a' (q + wd) c' (T ++ filledR (lnL GL i) wd) W')) := by
    intro i wz W ra q rc T ya yc hW hq hy hyl hw6
    refine (rfilled_any ya _ yc (lnL GL i) wd W hy (by omega) (by omega)).mono ?_
    rintro e w' ⟨fa, fc, rfl, ho, hb⟩
    have hfl : (filledR (lnL GL i) wd).length = wd := by unfold filledR blanksR; simp; omega
    rw [hfl] at ho ⊢
    obtain ⟨a', c', W', h1, h2⟩ := (hW.out.below hb).app (own_rd ho (filled_wf hy.2.2.2.1 wd)) (by omega)
    exact ⟨fa, fc, rfl, a', c', W', h1, h2⟩
  obtain ⟨hpb1, hpb2⟩ := i64_okP h (by omega) hp
  simp only at hpb1 hpb2
  have hwd6 : wd ≤ 65536 := by
    rw [← hwd]
    exact widest_le GL _ (fun x hx => by have := sizeN_mem (List.mem_map.2 ⟨x, hx, rfl⟩ : List.length x ∈ List.map List.length GL); unfold lens at hgs; omega)
  have HGR : Hid (∀ i, i < gn → ∃ gb go ya yc, ga = some ⟨gb, go, none⟩ ∧ (lnL GL i).length ≤ wd ∧ ∀ W, Below wb.heap.size wb W → W.cell? ⟨gb, go + i, none⟩ = some (.slice ya (lnL GL i).length yc) ∧ gb < W.heap.size ∧ Rd .i32 W ya (lnL GL i).length yc (lnL GL i)) := by
    intro i hi
    obtain ⟨z, hz⟩ : ∃ z, GL[i]? = some z := ⟨_, List.getElem?_eq_getElem (by omega)⟩
    obtain ⟨gb, go, ya, yc, e1, e2, -, e3, e4, -, -⟩ := hg.get hB hz
    rw [lnL_of hz, ← hwd]
    exact ⟨gb, go, ya, yc, e1, widest_ge (List.mem_of_getElem? hz), fun W hW => ⟨(hW.cell (p := ⟨gb, go + i, none⟩) (by show gb < _; omega)).trans e3, by have := hW.size; omega, e4.below hW⟩⟩
  have hn6 : n ≤ 65536 := by omega
  have HROW : Hid (∀ i, (moreL (blockL L p1 GL col m i) (p1 + i))[p1 + i]? = some (lnL L (p1 + i))) := fun i => block_row (by omega) GL col m i
  have HXL : Hid (∀ j, (lnL L j).length ≤ 65536) := by
    intro j
    cases hz : L[j]? with
    | none => unfold lnL; rw [List.getD_eq_getElem?_getD, hz]; simp
    | some z =>
      rw [lnL_of hz]
      have := sizeN_mem (List.mem_map.2 ⟨z, List.mem_of_getElem? hz, rfl⟩ : List.length z ∈ List.map List.length L)
      unfold lens at hs
      omega
  obtain ⟨M, hM⟩ : ∃ M, blockL L p1 GL col m gn = M := ⟨_, rfl⟩
  have HMM := Lib.hid hM
  have hMl : M.length ≤ 1048576 := by rw [← hM, HBL.out gn]; omega
  obtain ⟨⟨Q1, Q2⟩, hQ⟩ : ∃ Q, clipP M (p1 : Int) (col : Int) = Q := ⟨_, rfl⟩
  have HEND : Hid (∀ (W : World) (oa : Option Addr) (on oc : Nat), Hid (ChS wb oa on oc M W) → ∀ u v, RdL (fun z => b ≤ z) ((W.setCell ⟨b + 2, 0, none⟩ u).setCell ⟨b + 2, 1, none⟩ v) oa on oc M ∧ Below b w ((W.setCell ⟨b + 2, 0, none⟩ u).setCell ⟨b + 2, 1, none⟩ v)) := by
    intro W oa on oc hW u v
    have hfr : Fr (fun k => k = b + 2) W ((W.setCell ⟨b + 2, 0, none⟩ u).setCell ⟨b + 2, 1, none⟩ v) := ((Fr.refl (fun k => k = b + 2) W).setCell ⟨b + 2, 0, none⟩ _ (fun _ => rfl)).setCell ⟨b + 2, 1, none⟩ _ (fun _ => rfl)
    have hbW := btr hB hW.out.2
    rw [hbe] at hbW
    exact ⟨(hW.out.1.rdl.frF hfr (fun k h1 h2 => by omega)).mono (fun k hk => by omega), Below.setCell (Below.setCell hbW (by show b ≤ b + 2; omega) _) (by show b ≤ b + 2; omega) _⟩
  have HCQ : Hid (∀ (W : World) (oa : Option Addr) (on oc : Nat), Hid (ChS wb oa on oc M W) → Calls Try.prog 32 #[.slice oa on oc, .agg #[.int .i64 (p1 : Nat), .int .i64 (col : Nat)]] W fun e w' => e = .returned (.agg #[.int .i64 (Q1 : Nat), .int .i64 (Q2 : Nat)]) ∧ (w'.cell? ⟨b, 0, none⟩ = some (.int .i64 (p1 : Nat)) ∧ w'.cell? ⟨b, 1, none⟩ = some (.int .i64 (p2 : Nat)) ∧ w'.cell? ⟨b + 1, 1, none⟩ = some (.slice ga gn gc) ∧ ArP (b + 2) w') ∧ Hid (ChS wb oa on oc M w')) := by
    intro W oa on oc hW
    have h5 := rclip_any _ oa on oc M ⟨(p1 : Int), (col : Int)⟩ W hW.out.1.rdl ⟨by show i64b (p1 : Int); unfold i64b; omega, by show i64b (col : Int); unfold i64b; omega⟩
    rw [show clipP M (⟨(p1 : Int), (col : Int)⟩ : Po).l (⟨(p1 : Int), (col : Int)⟩ : Po).c = (Q1, Q2) from hQ] at h5
    refine h5.mono ?_
    rintro e w' ⟨rfl, hb⟩
    exact ⟨rfl, KS.out _ (btr hW.out.2 hb), hW.out.1.below hb, btr hW.out.2 hb⟩
  rw [hM, hQ]
  have hgn6 : gn ≤ 65536 := by omega
  have HSB := Lib.hid hsz
  rw [hwd] at hm
  have HW := Lib.hid hwb
  have HWD := Lib.hid hm
  obtain ⟨z0, z1, z2, z3⟩ := KS.out wb (Below.refl _ _)
  rw [hbe]
  clear hM hQ h hs hg hgs hp hwb hB g1 g2 g3 hbe hl hgl hcnt hgcnt hsz hm hwd
  go_enter Try.func60, Try.ntmps60
  go_upto_region 1 with fail
  rw [HBE.out, HW.out]
  unfold BxC at HTW
  go_upto_region 2 with (go_at_call 12; (refine (HTW.out _ rfl).mono ?_); rintro e w1 ⟨ta, tc, rfl, ⟨k0, k1, k2, k3⟩, H1⟩)
  go_upto_region 4 with (go_at_call 91; (refine (HWI.out _ H1.out.2).mono ?_); rintro e wq ⟨rfl, hwq⟩; subst hwq)
  go_loopw [12, 14] (fun v12 v14 W => ∃ (i on : Nat) (oa : Option Addr) (oc : Nat), v12 = .slice oa on oc ∧ v14 = .int .i64 (i : Nat) ∧ i ≤ gn ∧ on ≤ 1048576 ∧ Hid (on = max n (p1 + i) ∧ ChS wb oa on oc (blockL L p1 GL col m i) W)) (fun _ v14 _ => gn - (intOf v14).toNat)
  case atStart => exact ⟨0, n, ta, tc, rfl, rfl, Nat.zero_le _, by omega, by show n = _; omega, H1.out⟩
  case round =>
    obtain ⟨i, on, oa, oc, rfl, rfl, hi, hon, hst⟩ := hrel
    clear H1 z0 z1 z2 z3 k0 k1 k2 k3
    obtain ⟨z0, z1, z2, z3⟩ := KS.out wr hst.out.2.2
    have hone := hst.out.1
    by_cases hlt : i < gn
    · obtain ⟨j, hj⟩ : ∃ j, p1 + i = j := ⟨_, rfl⟩
      have hji : (p1 : Int) + (i : Int) = (j : Int) := by omega
      have hbs := HBS.out i
      rw [hj] at hbs hone
      obtain ⟨C, hC⟩ : ∃ C, blockL L p1 GL col m i = C := ⟨_, rfl⟩
      obtain ⟨x, hx⟩ : ∃ x, lnL L j = x := ⟨_, rfl⟩
      have hrow := HROW.out i
      have hxl := HXL.out j
      rw [hj, hC, hx] at hrow
      rw [hx] at hxl
      have hln : lnL (moreL C j) j = x := lnL_of hrow
      rw [hC, hln] at hbs
      have HBN := Lib.hid hbs
      obtain ⟨O, hO⟩ : ∃ O, moreL C j = O := ⟨_, rfl⟩
      have hcl : C.length = on := by have := HBL.out i; rw [hC, hj] at this; omega
      rw [hO] at hrow
      rw [hC] at hst
      have HONE := Lib.hid hone
      have hjon : j ≤ on := by omega
      have hj6 : j ≤ 131072 := by omega
      clear hbs hln hone
      go_upto_region 7 with fail
      by_cases hjo : j = on
      · have hO2 : O = C ++ [[]] := by rw [← hO]; unfold moreL; rw [if_pos (by omega)]
        obtain ⟨a8, oc1, w9, hrun8, h9⟩ := hst.out.2.more (by omega)
        obtain ⟨g, rfl⟩ := h9.head (by omega)
        have HRUN8 := Lib.hid hrun8
        rw [← hO2] at h9
        have H9 := Lib.hid h9
        obtain ⟨on1, hon1⟩ : ∃ on1, on + 1 = on1 := ⟨_, rfl⟩
        rw [hon1] at H9 HRUN8
        have hj1 : j < on1 := by omega
        have hon16 : on1 ≤ 1048577 := by omega
        subst hjo
        clear hrun8 h9 hst
        go_upto_region 9 with (at_builtin; go_must (with_reducible refine Lib.wpList_append_run _ rfl (.tmp 39) (.tmp 40) _ _ rfl _ _ rfl rfl _ _ (HRUN8.out _) ?_))
        obtain ⟨ra, rc, hc1, hc2, hgl1, -, hrr⟩ := H9.out.1.row hrow
        obtain ⟨y, hy⟩ : ∃ y, x.length = y := ⟨_, rfl⟩
        rw [hy] at hc1 hxl hrr
        have HX9 := HFX.out w9 ra y rc x H9.out.2 hrr.1 (by omega)
        obtain ⟨FL, hFL⟩ : ∃ FL, (filledR x col).length = FL := ⟨_, rfl⟩
        rw [hFL] at HX9
        have hFLb : col ≤ FL ∧ FL ≤ 1048576 := by rw [← hFL]; unfold filledR blanksR; simp; omega
        obtain ⟨hFL1, hFL2⟩ := hFLb
        have HX9' : Hid (∀ W, W = w9 → Calls Try.prog 93 #[.slice ra y rc, .int .i64 (col : Nat)] W fun e w' => ∃ fa fc, e = .returned (.slice fa FL fc) ∧ Hid (TxS wb fa FL fc (filledR x col) w' ∧ ChS wb (some ⟨g, 0, none⟩) on1 oc1 O w')) := by
          rintro W rfl
          refine HX9.mono ?_
          rintro e w' ⟨fa, fc, rfl, h⟩
          exact ⟨fa, fc, rfl, h.out.1, H9.out.below h.out.2⟩
        go_upto_region 10 with (go_at_call 93; (refine (HX9'.out _ rfl).mono ?_); rintro e w10 ⟨fa, fc, rfl, H10⟩)
        have HON1 : Hid (on1 = max n (p1 + (i + 1))) := by
          show _ = _
          have := HONE.out
          omega
        have HBN2 : Hid (blockL L p1 GL col m (i + 1) = O.set j (blockX x col m wd (lnL GL i))) := by
          show _ = _
          rw [← hO]
          exact HBN.out
        obtain ⟨gb, go, ya, yc, rfl, hgw, HGC⟩ := HGR.out i hlt
        obtain ⟨R1, hR1⟩ : ∃ R1, filledR (lnL GL i) wd = R1 := ⟨_, rfl⟩
        obtain ⟨X, hX⟩ : ∃ X, filledR x col = X := ⟨_, rfl⟩
        have hR1w : ∀ z ∈ R1, (Lit.int .i32 z).wf = true := by
          rw [← hR1]
          exact filled_wf (HGC wb (Below.refl _ _)).2.2.2.2.2.1 wd
        have hXw : ∀ z ∈ X, (Lit.int .i32 z).wf = true := by
          rw [← hX]
          exact filled_wf hrr.1.2.2.2.1 col
        have HBN3 : Hid (blockL L p1 GL col m (i + 1) = O.set j (X.take col ++ repL m R1 ++ X.drop col)) := by
          show _ = _
          rw [HBN2.out, ← hX, ← hR1]
          rfl
        have HFG1 := HFG.out i
        rw [hX] at H10
        rw [hR1] at HFG1
        obtain ⟨yl, hyl⟩ : ∃ yl, (lnL GL i).length = yl := ⟨_, rfl⟩
        rw [hyl] at HFG1 hgw HGC
        have hX10 : Rd .i32 w10 fa FL fc X := own_rd H10.out.1.1 hXw
        have hFc : FL ≤ fc ∧ fc ≤ 9223372036854775807 := by have h1 := hX10.2.1; have h2 := hX10.2.2.1; unfold maxLen at h2; exact ⟨by omega, by omega⟩
        obtain ⟨hFc1, hFc2⟩ := hFc
        have hxn : fa = none → fc = 0 ∧ FL = 0 := fun e => ⟨hX10.2.2.2.2.1 e, by have := hX10.2.2.2.2.1 e; omega⟩
        have hb10 := H10.out.1.2
        have HLOOP : Hid (∀ (W : World) (ra : Option Addr) (q rc k : Nat), Hid (TxS w10 ra q rc (X.take col ++ repL k R1) W) → q ≤ 1048576 → BxC b p1 p2 (some ⟨gb, go, none⟩) gn gc W ∧ (W.cell? ⟨gb, go + i, none⟩ = some (.slice ya yl yc) ∧ gb < W.heap.size) ∧ Hid (Calls Try.prog 93 #[.slice ya yl yc, .int .i64 (wd : Nat)] W fun e w' => ∃ fa fc, e = .returned (.slice fa wd fc) ∧ ∃ a' c' W', Hid (∀ ty, (Builtin.append_ #[35, 35] ty #[.slice ra q rc, .slice fa wd fc]).run Try.prog w' = .ok (.slice a' (q + wd) c') W') ∧ Hid (TxS w10 a' (q + wd) c' (X.take col ++ repL (k + 1) R1) W'))) := by
          intro W ra q rc k hW hq
          have hbW := btr hb10 hW.out.2
          obtain ⟨q1, q2, q3⟩ := HGC W hbW
          have h7 := HFG1 w10 W ra q rc _ ya yc hW hq q3 hgw hwd6
          rw [List.append_assoc, ← repL_succ] at h7
          exact ⟨KS.out W hbW, ⟨q1, q2⟩, h7⟩
        obtain ⟨dx, hdx⟩ : ∃ dx, (if fc = col then fa else fa.map (·.add (col * 1))) = dx := ⟨_, rfl⟩
        have HPUT : Hid (∀ (W : World) (ra : Option Addr) (q rc : Nat), Hid (TxS w10 ra q rc (X.take col ++ repL m R1) W) → q ≤ 1048576 → ∃ a1 c1 w1, Hid (∀ ty, (Builtin.append_ #[35, 35] ty #[.slice ra q rc, .slice dx (FL - col) (fc - col)]).run Try.prog W = .ok (.slice a1 (q + (FL - col)) c1) w1) ∧ (∃ za zn zc, w1.cell? ⟨g, j, none⟩ = some (.slice za zn zc)) ∧ w1.frozen? ⟨g, j, none⟩ = false ∧ g < w1.heap.size ∧ Hid (ChS wb (some ⟨g, 0, none⟩) on1 oc1 (blockL L p1 GL col m (i + 1)) (w1.setCell ⟨g, j, none⟩ (.slice a1 (q + (FL - col)) c1)))) := by
          intro W ra q rc hW hq
          rw [HBN3.out, ← hdx]
          exact blk_row H10.out.2 H10.out.1 hW.out hrow hFL1 hXw (repL_wf hR1w m) hq hFL2
        have HLIT : Hid (∀ ta : Option Addr, ta = fa → ∃ a5 c5 w11, Hid (∀ ty, (Builtin.append_ #[35, 35] ty #[.slice (some ⟨w10.heap.size, 0, none⟩) 0 0, .slice ta col fc]).run Try.prog (w10.alloc (.cells #[] 21)) = .ok (.slice a5 col c5) w11) ∧ Hid (TxS w10 a5 col c5 (X.take col ++ repL 0 R1) w11)) := by
          rintro ta rfl
          have e1 : X.take col ++ repL 0 R1 = X.take col := by simp [repL]
          rw [e1]
          exact txs_lit (Below.refl _ _) (hX10.take col hFL1) (by omega)
        obtain ⟨a5, c5, w11, HRUN5, HT5⟩ := HLIT.out _ rfl
        have hcolc : col ≤ fc := by omega
        obtain ⟨MW, hMW⟩ : ∃ MW, m * wd = MW := ⟨_, rfl⟩
        have hMW6 : MW ≤ 262144 := by have := HWD.out; omega
        clear HFG1 HGC hXw hR1w hX10 hX hR1 hyl hrr hrow hO2 hO hFL hx hC hj hji HX9 HX9'
        go_cut [17] (fun v17 W => ∃ ra q rc, v17 = .slice ra q rc ∧ q = col ∧ Hid (TxS w10 ra q rc (X.take col ++ repL 0 R1) W))
        case first =>
          cases fa with
          | none =>
            obtain ⟨rfl, rfl⟩ := hxn rfl
            obtain rfl : col = 0 := by omega
            go_wp2_with (at_builtin; go_must (with_reducible refine Lib.wpList_append_run _ rfl (.tmp 48) (.tmp 51) _ _ rfl _ _ rfl rfl _ _ (HRUN5.out _) ?_))
            go_meet
            exact ⟨_, _, _, rfl, rfl, HT5⟩
          | some xp =>
            go_wp2_with (at_builtin; go_must (with_reducible refine Lib.wpList_append_run _ rfl (.tmp 48) (.tmp 51) _ _ rfl _ _ rfl rfl _ _ (HRUN5.out _) ?_))
            go_meet
            exact ⟨_, _, _, rfl, rfl, HT5⟩
        case rest =>
          obtain ⟨ra2, q2, rc2, rfl, hq2, HT⟩ := hcut
          clear HRUN5 HT5 HLIT
          go_upto_region 12 with fail
          go_loopw [17, 18] (fun v17 v18 W => ∃ (k q : Nat) (ra : Option Addr) (rc : Nat), v17 = .slice ra q rc ∧ v18 = .int .i64 (k : Nat) ∧ k ≤ m ∧ q ≤ 1048576 ∧ Hid (q = col + k * wd ∧ TxS w10 ra q rc (X.take col ++ repL k R1) W)) (fun _ v18 _ => m - (intOf v18).toNat)
          case atStart => exact ⟨0, q2, ra2, rc2, rfl, rfl, Nat.zero_le _, by omega, by omega, HT.out⟩
          case round =>
            obtain ⟨kk, qq, ra3, rc3, rfl, rfl, hkm, hq6, hst2⟩ := hrel
            clear HT hq2
            have HTX : Hid (TxS w10 ra3 qq rc3 (X.take col ++ repL kk R1) wr) := hst2.out.2
            have hqe := hst2.out.1
            clear hst2
            by_cases hlt2 : kk < m
            · have hq7 : qq + wd = col + (kk + 1) * wd := by rw [Nat.add_mul, Nat.one_mul]; omega
              have hq8 : (kk + 1) * wd ≤ m * wd := Nat.mul_le_mul_right _ (by omega)
              have hq9 : qq + wd ≤ 1048576 := by omega
              have HQ7 := Lib.hid hq7
              obtain ⟨⟨y0, y1, y2, y3⟩, ⟨y4, y5⟩, HFI⟩ := HLOOP.out wr ra3 qq rc3 kk HTX hq6
              clear hq7 hq8 hqe
              go_wp2_with (first
                | (at_builtin; go_must (with_reducible refine Lib.wpList_append_run _ rfl (.tmp 58) (.tmp 65) _ _ rfl _ _ rfl rfl _ _ (HRUN6.out _) ?_))
                | (go_at_call 93; (refine HFI.out.mono ?_); rintro e w6 ⟨t5, t6, rfl, a4, c4, w7, HRUN6, HN6⟩))
              go_roundw
              case rel => exact ⟨kk + 1, qq + wd, a4, c4, rfl, by go_num, by omega, hq9, HQ7.out, HN6.out⟩
              case measure => simp [intOf]; omega
            · obtain rfl : kk = m := by omega
              obtain ⟨a9, c9, w9', HRUN9, ⟨za, zn, zc, hz1⟩, hz2, hz3, HN⟩ := HPUT.out wr ra3 qq rc3 HTX hq6
              clear hqe HLOOP HPUT
              cases fa with
              | none =>
                obtain ⟨rfl, rfl⟩ := hxn rfl
                obtain rfl : col = 0 := by omega
                rw [if_pos rfl] at hdx
                subst hdx
                go_wp2_with (at_builtin; go_must (with_reducible refine Lib.wpList_append_run _ rfl (.tmp 69) (.tmp 72) _ _ rfl _ _ rfl rfl _ _ (HRUN9.out _) ?_))
                go_roundw
                case rel => exact ⟨i + 1, on1, some ⟨g, 0, none⟩, oc1, by first | rfl | exact ⟨rfl, rfl, rfl⟩, by go_num, by omega, by omega, HON1.out, HN.out⟩
                case measure => simp [intOf]; omega
              | some xp =>
                by_cases hxcc : fc = col
                · rw [if_pos hxcc] at hdx
                  subst hdx
                  subst hxcc
                  obtain rfl : FL = fc := by omega
                  simp only [Nat.sub_self, Nat.add_zero] at HRUN9 HN
                  go_wp2_with (at_builtin; go_must (with_reducible refine Lib.wpList_append_run _ rfl (.tmp 69) (.tmp 72) _ _ rfl _ _ rfl rfl _ _ (HRUN9.out _) ?_))
                  go_roundw
                  case rel => exact ⟨i + 1, on1, some ⟨g, 0, none⟩, oc1, by first | rfl | exact ⟨rfl, rfl, rfl⟩, by go_num, by omega, by omega, HON1.out, HN.out⟩
                  case measure => simp [intOf]; omega
                · rw [if_neg hxcc] at hdx
                  simp only [Option.map_some, Nat.mul_one] at hdx
                  subst hdx
                  go_wp2_with (at_builtin; go_must (with_reducible refine Lib.wpList_append_run _ rfl (.tmp 69) (.tmp 72) _ _ rfl _ _ rfl rfl _ _ (HRUN9.out _) ?_))
                  go_roundw
                  case rel => exact ⟨i + 1, on1, some ⟨g, 0, none⟩, oc1, by first | rfl | exact ⟨rfl, rfl, rfl⟩, by go_num, by omega, by omega, HON1.out, HN.out⟩
                  case measure => simp [intOf]; omega
      · have hO2 : O = C := by rw [← hO]; unfold moreL; rw [if_neg (by omega)]
        have hjn : j < on := by omega
        obtain ⟨g, rfl⟩ := hst.out.2.head (by omega)
        obtain ⟨on1, hon1⟩ : ∃ on1, on = on1 := ⟨_, rfl⟩
        subst hon1
        obtain ⟨oc1, hoc1⟩ : ∃ oc1, oc = oc1 := ⟨_, rfl⟩
        subst hoc1
        obtain ⟨w9, hw9⟩ : ∃ w9, w9 = wr := ⟨_, rfl⟩
        subst hw9
        have H9 : Hid (ChS wb (some ⟨g, 0, none⟩) on oc O w9) := by rw [hO2]; exact hst.out.2
        have hjo2 : ¬ (j : Int) = (on : Int) := by omega
        have hjo3 : ((j : Int) == (on : Int)) = false := by rw [beq_eq_false_iff_ne]; exact hjo2
        clear hst
        go_upto_region 9 with fail
        obtain ⟨ra, rc, hc1, hc2, hgl1, -, hrr⟩ := H9.out.1.row hrow
        obtain ⟨y, hy⟩ : ∃ y, x.length = y := ⟨_, rfl⟩
        rw [hy] at hc1 hxl hrr
        have HX9 := HFX.out w9 ra y rc x H9.out.2 hrr.1 (by omega)
        obtain ⟨FL, hFL⟩ : ∃ FL, (filledR x col).length = FL := ⟨_, rfl⟩
        rw [hFL] at HX9
        have hFLb : col ≤ FL ∧ FL ≤ 1048576 := by rw [← hFL]; unfold filledR blanksR; simp; omega
        obtain ⟨hFL1, hFL2⟩ := hFLb
        have HX9' : Hid (∀ W, W = w9 → Calls Try.prog 93 #[.slice ra y rc, .int .i64 (col : Nat)] W fun e w' => ∃ fa fc, e = .returned (.slice fa FL fc) ∧ Hid (TxS wb fa FL fc (filledR x col) w' ∧ ChS wb (some ⟨g, 0, none⟩) on oc O w')) := by
          rintro W rfl
          refine HX9.mono ?_
          rintro e w' ⟨fa, fc, rfl, h⟩
          exact ⟨fa, fc, rfl, h.out.1, H9.out.below h.out.2⟩
        go_upto_region 10 with (go_at_call 93; (refine (HX9'.out _ rfl).mono ?_); rintro e w10 ⟨fa, fc, rfl, H10⟩)
        have HON1 : Hid (on = max n (p1 + (i + 1))) := by
          show _ = _
          have := HONE.out
          omega
        have HBN2 : Hid (blockL L p1 GL col m (i + 1) = O.set j (blockX x col m wd (lnL GL i))) := by
          show _ = _
          rw [← hO]
          exact HBN.out
        obtain ⟨gb, go, ya, yc, rfl, hgw, HGC⟩ := HGR.out i hlt
        obtain ⟨R1, hR1⟩ : ∃ R1, filledR (lnL GL i) wd = R1 := ⟨_, rfl⟩
        obtain ⟨X, hX⟩ : ∃ X, filledR x col = X := ⟨_, rfl⟩
        have hR1w : ∀ z ∈ R1, (Lit.int .i32 z).wf = true := by
          rw [← hR1]
          exact filled_wf (HGC wb (Below.refl _ _)).2.2.2.2.2.1 wd
        have hXw : ∀ z ∈ X, (Lit.int .i32 z).wf = true := by
          rw [← hX]
          exact filled_wf hrr.1.2.2.2.1 col
        have HBN3 : Hid (blockL L p1 GL col m (i + 1) = O.set j (X.take col ++ repL m R1 ++ X.drop col)) := by
          show _ = _
          rw [HBN2.out, ← hX, ← hR1]
          rfl
        have HFG1 := HFG.out i
        rw [hX] at H10
        rw [hR1] at HFG1
        obtain ⟨yl, hyl⟩ : ∃ yl, (lnL GL i).length = yl := ⟨_, rfl⟩
        rw [hyl] at HFG1 hgw HGC
        have hX10 : Rd .i32 w10 fa FL fc X := own_rd H10.out.1.1 hXw
        have hFc : FL ≤ fc ∧ fc ≤ 9223372036854775807 := by have h1 := hX10.2.1; have h2 := hX10.2.2.1; unfold maxLen at h2; exact ⟨by omega, by omega⟩
        obtain ⟨hFc1, hFc2⟩ := hFc
        have hxn : fa = none → fc = 0 ∧ FL = 0 := fun e => ⟨hX10.2.2.2.2.1 e, by have := hX10.2.2.2.2.1 e; omega⟩
        have hb10 := H10.out.1.2
        have HLOOP : Hid (∀ (W : World) (ra : Option Addr) (q rc k : Nat), Hid (TxS w10 ra q rc (X.take col ++ repL k R1) W) → q ≤ 1048576 → BxC b p1 p2 (some ⟨gb, go, none⟩) gn gc W ∧ (W.cell? ⟨gb, go + i, none⟩ = some (.slice ya yl yc) ∧ gb < W.heap.size) ∧ Hid (Calls Try.prog 93 #[.slice ya yl yc, .int .i64 (wd : Nat)] W fun e w' => ∃ fa fc, e = .returned (.slice fa wd fc) ∧ ∃ a' c' W', Hid (∀ ty, (Builtin.append_ #[35, 35] ty #[.slice ra q rc, .slice fa wd fc]).run Try.prog w' = .ok (.slice a' (q + wd) c') W') ∧ Hid (TxS w10 a' (q + wd) c' (X.take col ++ repL (k + 1) R1) W'))) := by
          intro W ra q rc k hW hq
          have hbW := btr hb10 hW.out.2
          obtain ⟨q1, q2, q3⟩ := HGC W hbW
          have h7 := HFG1 w10 W ra q rc _ ya yc hW hq q3 hgw hwd6
          rw [List.append_assoc, ← repL_succ] at h7
          exact ⟨KS.out W hbW, ⟨q1, q2⟩, h7⟩
        obtain ⟨dx, hdx⟩ : ∃ dx, (if fc = col then fa else fa.map (·.add (col * 1))) = dx := ⟨_, rfl⟩
        have HPUT : Hid (∀ (W : World) (ra : Option Addr) (q rc : Nat), Hid (TxS w10 ra q rc (X.take col ++ repL m R1) W) → q ≤ 1048576 → ∃ a1 c1 w1, Hid (∀ ty, (Builtin.append_ #[35, 35] ty #[.slice ra q rc, .slice dx (FL - col) (fc - col)]).run Try.prog W = .ok (.slice a1 (q + (FL - col)) c1) w1) ∧ (∃ za zn zc, w1.cell? ⟨g, j, none⟩ = some (.slice za zn zc)) ∧ w1.frozen? ⟨g, j, none⟩ = false ∧ g < w1.heap.size ∧ Hid (ChS wb (some ⟨g, 0, none⟩) on oc (blockL L p1 GL col m (i + 1)) (w1.setCell ⟨g, j, none⟩ (.slice a1 (q + (FL - col)) c1)))) := by
          intro W ra q rc hW hq
          rw [HBN3.out, ← hdx]
          exact blk_row H10.out.2 H10.out.1 hW.out hrow hFL1 hXw (repL_wf hR1w m) hq hFL2
        have HLIT : Hid (∀ ta : Option Addr, ta = fa → ∃ a5 c5 w11, Hid (∀ ty, (Builtin.append_ #[35, 35] ty #[.slice (some ⟨w10.heap.size, 0, none⟩) 0 0, .slice ta col fc]).run Try.prog (w10.alloc (.cells #[] 21)) = .ok (.slice a5 col c5) w11) ∧ Hid (TxS w10 a5 col c5 (X.take col ++ repL 0 R1) w11)) := by
          rintro ta rfl
          have e1 : X.take col ++ repL 0 R1 = X.take col := by simp [repL]
          rw [e1]
          exact txs_lit (Below.refl _ _) (hX10.take col hFL1) (by omega)
        obtain ⟨a5, c5, w11, HRUN5, HT5⟩ := HLIT.out _ rfl
        have hcolc : col ≤ fc := by omega
        obtain ⟨MW, hMW⟩ : ∃ MW, m * wd = MW := ⟨_, rfl⟩
        have hMW6 : MW ≤ 262144 := by have := HWD.out; omega
        clear HFG1 HGC hXw hR1w hX10 hX hR1 hyl hrr hrow hO2 hO hFL hx hC hj hji HX9 HX9'
        go_cut [17] (fun v17 W => ∃ ra q rc, v17 = .slice ra q rc ∧ q = col ∧ Hid (TxS w10 ra q rc (X.take col ++ repL 0 R1) W))
        case first =>
          cases fa with
          | none =>
            obtain ⟨rfl, rfl⟩ := hxn rfl
            obtain rfl : col = 0 := by omega
            go_wp2_with (at_builtin; go_must (with_reducible refine Lib.wpList_append_run _ rfl (.tmp 48) (.tmp 51) _ _ rfl _ _ rfl rfl _ _ (HRUN5.out _) ?_))
            go_meet
            exact ⟨_, _, _, rfl, rfl, HT5⟩
          | some xp =>
            go_wp2_with (at_builtin; go_must (with_reducible refine Lib.wpList_append_run _ rfl (.tmp 48) (.tmp 51) _ _ rfl _ _ rfl rfl _ _ (HRUN5.out _) ?_))
            go_meet
            exact ⟨_, _, _, rfl, rfl, HT5⟩
        case rest =>
          obtain ⟨ra2, q2, rc2, rfl, hq2, HT⟩ := hcut
          clear HRUN5 HT5 HLIT
          go_upto_region 12 with fail
          go_loopw [17, 18] (fun v17 v18 W => ∃ (k q : Nat) (ra : Option Addr) (rc : Nat), v17 = .slice ra q rc ∧ v18 = .int .i64 (k : Nat) ∧ k ≤ m ∧ q ≤ 1048576 ∧ Hid (q = col + k * wd ∧ TxS w10 ra q rc (X.take col ++ repL k R1) W)) (fun _ v18 _ => m - (intOf v18).toNat)
          case atStart => exact ⟨0, q2, ra2, rc2, rfl, rfl, Nat.zero_le _, by omega, by omega, HT.out⟩
          case round =>
            obtain ⟨kk, qq, ra3, rc3, rfl, rfl, hkm, hq6, hst2⟩ := hrel
            clear HT hq2
            have HTX : Hid (TxS w10 ra3 qq rc3 (X.take col ++ repL kk R1) wr) := hst2.out.2
            have hqe := hst2.out.1
            clear hst2
            by_cases hlt2 : kk < m
            · have hq7 : qq + wd = col + (kk + 1) * wd := by rw [Nat.add_mul, Nat.one_mul]; omega
              have hq8 : (kk + 1) * wd ≤ m * wd := Nat.mul_le_mul_right _ (by omega)
              have hq9 : qq + wd ≤ 1048576 := by omega
              have HQ7 := Lib.hid hq7
              obtain ⟨⟨y0, y1, y2, y3⟩, ⟨y4, y5⟩, HFI⟩ := HLOOP.out wr ra3 qq rc3 kk HTX hq6
              clear hq7 hq8 hqe
              go_wp2_with (first
                | (at_builtin; go_must (with_reducible refine Lib.wpList_append_run _ rfl (.tmp 58) (.tmp 65) _ _ rfl _ _ rfl rfl _ _ (HRUN6.out _) ?_))
                | (go_at_call 93; (refine HFI.out.mono ?_); rintro e w6 ⟨t5, t6, rfl, a4, c4, w7, HRUN6, HN6⟩))
              go_roundw
              case rel => exact ⟨kk + 1, qq + wd, a4, c4, rfl, by go_num, by omega, hq9, HQ7.out, HN6.out⟩
              case measure => simp [intOf]; omega
            · obtain rfl : kk = m := by omega
              obtain ⟨a9, c9, w9', HRUN9, ⟨za, zn, zc, hz1⟩, hz2, hz3, HN⟩ := HPUT.out wr ra3 qq rc3 HTX hq6
              clear hqe HLOOP HPUT
              cases fa with
              | none =>
                obtain ⟨rfl, rfl⟩ := hxn rfl
                obtain rfl : col = 0 := by omega
                rw [if_pos rfl] at hdx
                subst hdx
                go_wp2_with (at_builtin; go_must (with_reducible refine Lib.wpList_append_run _ rfl (.tmp 69) (.tmp 72) _ _ rfl _ _ rfl rfl _ _ (HRUN9.out _) ?_))
                go_roundw
                case rel => exact ⟨i + 1, on, some ⟨g, 0, none⟩, oc, by first | rfl | exact ⟨rfl, rfl, rfl⟩, by go_num, by omega, by omega, HON1.out, HN.out⟩
                case measure => simp [intOf]; omega
              | some xp =>
                by_cases hxcc : fc = col
                · rw [if_pos hxcc] at hdx
                  subst hdx
                  subst hxcc
                  obtain rfl : FL = fc := by omega
                  simp only [Nat.sub_self, Nat.add_zero] at HRUN9 HN
                  go_wp2_with (at_builtin; go_must (with_reducible refine Lib.wpList_append_run _ rfl (.tmp 69) (.tmp 72) _ _ rfl _ _ rfl rfl _ _ (HRUN9.out _) ?_))
                  go_roundw
                  case rel => exact ⟨i + 1, on, some ⟨g, 0, none⟩, oc, by first | rfl | exact ⟨rfl, rfl, rfl⟩, by go_num, by omega, by omega, HON1.out, HN.out⟩
                  case measure => simp [intOf]; omega
                · rw [if_neg hxcc] at hdx
                  simp only [Option.map_some, Nat.mul_one] at hdx
                  subst hdx
                  go_wp2_with (at_builtin; go_must (with_reducible refine Lib.wpList_append_run _ rfl (.tmp 69) (.tmp 72) _ _ rfl _ _ rfl rfl _ _ (HRUN9.out _) ?_))
                  go_roundw
                  case rel => exact ⟨i + 1, on, some ⟨g, 0, none⟩, oc, by first | rfl | exact ⟨rfl, rfl, rfl⟩, by go_num, by omega, by omega, HON1.out, HN.out⟩
                  case measure => simp [intOf]; omega
    · obtain rfl : i = gn := by omega
      have HM9 : Hid (ChS wb oa on oc M wr) := by
        show ChS wb oa on oc M wr
        rw [← HMM.out]
        exact hst.out.2
      clear hst hone
      go_wp2_with (go_at_call 32; (refine (HCQ.out _ _ _ _ HM9).mono ?_); rintro e wq ⟨rfl, ⟨k0, k1, k2, ⟨k3, k4, k5, k6, k7⟩⟩, HQ9⟩)
      refine bodyPost_ret (v := .tuple #[.slice oa on oc, plV (Q1, Q2)]) ?_ rfl ?_
      · rw [results_tc rfl]
        go_simp
        first | rfl | done
      · exact ⟨_, _, _, rfl, (HEND.out _ _ _ _ HQ9 _ _).1, (HEND.out _ _ _ _ HQ9 _ _).2⟩
end Go.Proofs.Ytfldjoiohejilaa.U
