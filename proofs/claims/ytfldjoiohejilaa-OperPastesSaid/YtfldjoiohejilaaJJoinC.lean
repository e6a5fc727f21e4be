/-
  The document's Join of lines that are there: the walk.
-/
import Derived.Test.YtfldjoiohejilaaJJoinB
namespace Go.Proofs.Ytfldjoiohejilaa.U
open Go.RowKit
set_option linter.unusedVariables false
set_option linter.unusedSimpArgs false
set_option maxRecDepth 100000

set_option maxHeartbeats 4000000 in
theorem rjoin_ok (F : Nat → Prop) (a : Option Addr) (n c : Nat) (L : List (List Int)) (A N : Nat) (m0 : Int) (w : World) (h : RdL F w a n c L) (hs : sizeN (lens L) ≤ 1048576) (hm : i64b m0) (hN : max 2 m0 = (N : Int)) (hAN : A + N ≤ n) :
    Calls Try.prog 29 #[.slice a n c, .int .i64 (A : Nat), .int .i64 m0] w fun e w' => ∃ ra rc, e = .returned (.tuple #[.slice ra (joinM L A N).length rc, plV (clipP (joinM L A N) (A : Int) (joinC L A (N - 1) : Int)), .int .i64 0]) ∧ RdL (fun x => w.heap.size ≤ x) w' ra (joinM L A N).length rc (joinM L A N) ∧ Below w.heap.size w w' := by
  have hl := h.len
  have hsm := h.small
  have hnc : n ≤ c ∧ c ≤ 9223372036854775807 := by obtain ⟨vs, h1, _⟩ := h; have := h1.2.1; have := h1.2.2.1; unfold maxLen at this; exact ⟨by omega, by omega⟩
  obtain ⟨hnc, hcs⟩ := hnc
  have hn1 : n ≤ 1048576 := by have := size_count L; omega
  have hN2 : 2 ≤ N := by omega
  obtain ⟨hm1, hm2⟩ := hm
  obtain ⟨wb, hwb⟩ : ∃ wb, w.alloc (.cells #[.int .i64 0, .int .i64 0] 24) = wb := ⟨_, rfl⟩
  have hB : Below w.heap.size w wb := by rw [← hwb]; exact (Below.refl _ _).alloc (Nat.le_refl _) _
  have hsz : wb.heap.size = w.heap.size + 1 := by rw [← hwb]; simp
  have g1 : wb.heap[w.heap.size]? = some (.cells #[.int .i64 0, .int .i64 0] 24 (0, 0)) := by rw [← hwb]; exact heap_alloc_new w _
  obtain ⟨x0, hx0⟩ : ∃ x0, L[A]? = some x0 := ⟨_, List.getElem?_eq_getElem (by omega)⟩
  obtain ⟨lb, lo, xa, xc, rfl, hlb, hFl, hc0, hr0, -, -⟩ := (h.below hB).get (Below.refl _ _) hx0
  have hx0l : x0.length ≤ 1048576 := by
    have hm : x0.length ∈ lens L := List.mem_map.2 ⟨_, List.mem_of_getElem? hx0, rfl⟩
    have := sizeN_mem hm
    omega
  obtain ⟨a1, c1, w1, hrun1, ho1, hb1⟩ := app_lit wb xa x0.length xc x0 hr0 (by omega)
  have HS0 : Hid (JoS wb w1 (joinA L A 0) a1 x0.length c1) := ⟨by show w1.ownsRow _ _ _ _ _ (ints (lnL L A)); rw [lnL_of hx0]; exact ho1, hb1⟩
  have HRUN1 := Lib.hid hrun1
  have HPT := Lib.hid (And.intro h (And.intro hl (And.intro hs (And.intro hB (And.intro hsz g1)))))
  obtain ⟨b, hbe⟩ : ∃ b, w.heap.size = b := ⟨_, rfl⟩
  have HBE := Lib.hid hbe
  have HW := Lib.hid hwb
  have HN0 := Lib.hid hN
  have HCL : Hid (∀ z W, Calls Try.prog 72 #[.int .i32 z, .bool false] W fun e w' => e = .returned (.int .i64 (cls false z)) ∧ W = w') := fun z W => rclass_any z false W
  rw [hbe]
  obtain ⟨x0l, hx0e⟩ : ∃ x0l, x0.length = x0l := ⟨_, rfl⟩
  rw [hx0e] at hc0 HRUN1 HS0 hx0l
  have hAn : A < n := by omega
  clear hwb hB hsz g1 h hl hs hbe hrun1 ho1 hb1 hr0 hx0 hx0e hFl
  go_enter Try.func29, Try.ntmps29
  go_upto_region 1 with fail
  rw [HBE.out, HW.out]
  have hN' := HN0.out
  have hd1 : (A : Int) < (n : Int) := by omega
  have hd2 : (N : Int) ≤ (n : Int) - (A : Int) := by omega
  go_upto_region 7 with (at_builtin; go_must (with_reducible refine Lib.wpList_append_run _ rfl (.tmp 33) (.tmp 37) _ _ rfl _ _ rfl rfl _ _ (HRUN1.out _) ?_))
  clear hN'
  go_loopw [9, 10, 11, 12] (fun v9 v10 v11 v12 wr => ∃ (j m col p : Nat) (xa : Option Addr) (xc : Nat), v9 = .slice xa m xc ∧ v10 = .int .i64 (col : Nat) ∧ v11 = .int .i64 (p : Nat) ∧ p = A + j + 1 ∧ j ≤ N - 1 ∧ m ≤ (j + 1) * 1048577 ∧ Hid (col = joinC L A j ∧ JoS wb wr (joinA L A j) xa m xc)) (fun _ _ v11 _ _ => A + N - (intOf v11).toNat)
  case atStart => exact ⟨0, x0l, 0, A + 1, a1, c1, rfl, rfl, by go_num, rfl, by omega, by omega, rfl, HS0⟩
  case round =>
    obtain ⟨j, m, col, p, xa, xc, rfl, rfl, rfl, hp, hj, hmj, hst⟩ := hrel
    by_cases hlt : j < N - 1
    · have hjN : (p : Int) < (A : Int) + (N : Int) := by omega
      obtain ⟨x, hx⟩ : ∃ x, L[p]? = some x := ⟨_, List.getElem?_eq_getElem (by have := HPT.out.2.1; omega)⟩
      have hjn : p < n := by omega
      have hbw : Below wb.heap.size wb wr := hst.out.2.hb
      obtain ⟨lb', lo', ya, yc, hae, hlb', -, hcy, hry, -, -⟩ := (HPT.out.1.below HPT.out.2.2.2.1).get (Below.refl _ _) hx
      cases hae
      have hcy2 := (hbw.cell (p := ⟨lb, lo + p, none⟩) hlb).trans hcy
      have hlb2 : lb < wr.heap.size := by have := hbw.size; omega
      have hxl : x.length ≤ 1048576 := by
        have hm : x.length ∈ lens L := List.mem_map.2 ⟨_, List.mem_of_getElem? hx, rfl⟩
        have := sizeN_mem hm
        have := HPT.out.2.2.1
        omega
      have hjx : joinA L A (j + 1) = joinX (joinA L A j) x := by show joinX _ (lnL L (A + j + 1)) = _; rw [← hp, lnL_of hx]
      have hjc : joinC L A (j + 1) = m := by show (joinA L A j).length = m; exact hst.out.2.len
      have HJ := Lib.hid (And.intro hjx hjc)
      obtain ⟨yn, hyn⟩ : ∃ yn, x.length = yn := ⟨_, rfl⟩
      rw [hyn] at hcy2 hry hxl
      have HY0 : Hid (∃ ys, ys.length = yn ∧ Rd .i32 wb ya yn yc ys ∧ joinY ys = joinY x) := ⟨x, hyn, hry, rfl⟩
      have HPE := Lib.hid hp
      clear hx hcy hry hjx hjc hyn hlb' hp
      go_upto_region 10 with fail
      go_loopw [12] (fun v12 wq => ∃ (ya : Option Addr) (k yc : Nat), v12 = .slice ya k yc ∧ k ≤ 1048576 ∧ Hid (wq = wr ∧ ∃ ys, ys.length = k ∧ Rd .i32 wb ya k yc ys ∧ joinY ys = joinY x)) (fun v12 _ => slen v12)
      case atStart => exact ⟨ya, yn, yc, rfl, hxl, rfl, HY0.out⟩
      case round =>
        obtain ⟨ya, k, yc, rfl, hk, hin⟩ := hrel
        obtain ⟨rfl, ys, hys, hry, hjy⟩ := hin.out
        clear HY0 hcy2 hin
        have hbw := hst.out.2.hb
        rcases ys with _ | ⟨z, ys⟩
        · obtain rfl : k = 0 := by have h0 : 0 = k := hys; omega
          obtain ⟨a5, c5, w5, hrun5, h5⟩ := hst.out.2.step (hry.below hbw) (by omega)
          have hmj2 : m ≤ (j + 1 + 1) * 1048577 := Nat.le_trans hmj (Nat.mul_le_mul_right _ (Nat.le_succ _))
          rw [Nat.add_zero] at hrun5 h5
          have HRUN5 := Lib.hid hrun5
          have HN : Hid (m = joinC L A (j + 1) ∧ JoS wb w5 (joinA L A (j + 1)) a5 m c5) := ⟨HJ.out.2.symm, by rw [HJ.out.1, jx_nil hjy.symm]; rw [List.append_nil] at h5; exact h5⟩
          clear hst hry hjy hrun5 h5 hys hbw
          go_wp2_with (at_builtin; go_must (with_reducible refine Lib.wpList_append_run _ rfl (.tmp 93) (.tmp 94) _ _ rfl _ _ rfl rfl _ _ (HRUN5.out _) ?_))
          go_roundw
          case rel => exact ⟨j + 1, m, m, p + 1, a5, c5, rfl, rfl, by go_num, by have := HPE.out; omega, by omega, hmj2, HN⟩
          case measure => have := HPE.out; simp [intOf]; omega
        · obtain ⟨k, rfl⟩ : ∃ k', k = k' + 1 := ⟨k - 1, by simp at hys; omega⟩
          have hzw : (Lit.int .i32 z).wf = true := hry.2.2.2.1 z (by simp)
          obtain ⟨yb, yo, rfl, hyb, hyc⟩ := hry.all_ (by omega)
          have hz0 := hyc 0 (by omega)
          simp only [List.getD_cons_zero, Nat.add_zero] at hz0
          have hz1 := (hbw.cell (p := ⟨yb, yo, none⟩) hyb).trans hz0
          have hyb2 : yb < wr.heap.size := by have := hbw.size; omega
          have hycap : k + 1 ≤ yc ∧ yc ≤ 9223372036854775807 := ⟨hry.2.1, by have := hry.2.2.1; unfold maxLen at this; omega⟩
          obtain ⟨hyc1, hyc2⟩ := hycap
          obtain ⟨cz, hcz⟩ : ∃ cz, cls false z = cz := ⟨_, rfl⟩
          have HCZ : Hid (∀ W, Calls Try.prog 72 #[.int .i32 z, .bool false] W fun e w' => e = .returned (.int .i64 cz) ∧ W = w') := by rw [← hcz]; exact HCL.out z
          by_cases hc : cz = 0
          · subst hc
            have hbz : blankR z = true := by unfold blankR; rw [hcz]; rfl
            rw [joinY_blank hbz] at hjy
            have hdr := hry.drop 1 (by omega)
            simp only [List.drop_succ_cons, List.drop_zero, Nat.add_sub_cancel] at hdr
            by_cases hy1 : yc = 1
            · subst hy1
              obtain rfl : k = 0 := by omega
              rw [if_pos rfl] at hdr
              have HN : Hid (wr = wr ∧ ∃ ys, ys.length = 0 ∧ Rd .i32 wb (some ⟨yb, yo, none⟩) 0 0 ys ∧ joinY ys = joinY x) := ⟨rfl, ys, by simpa using hys, hdr, hjy⟩
              clear hdr hry hyc hjy hys hz0 hcz hst hbw
              go_wp2_with (go_at_call 72; (with_reducible refine (HCZ.out _).mono ?_); rintro e wq ⟨rfl, hwq⟩; subst hwq)
              go_roundw
              case rel => exact ⟨_, 0, 0, rfl, by omega, ⟨(by first | trivial | rfl), HN.out.2⟩⟩
              case measure => simp [slen]
            · rw [if_neg hy1] at hdr
              have hdr2 : Rd .i32 wb (some ⟨yb, yo + 1, none⟩) k (yc - 1) ys := by simpa [Addr.add] using hdr
              have HN : Hid (wr = wr ∧ ∃ ys, ys.length = k ∧ Rd .i32 wb (some ⟨yb, yo + 1, none⟩) k (yc - 1) ys ∧ joinY ys = joinY x) := ⟨rfl, ys, by simpa using hys, hdr2, hjy⟩
              clear hdr hdr2 hry hyc hjy hys hz0 hcz hst hbw
              go_wp2_with (go_at_call 72; (with_reducible refine (HCZ.out _).mono ?_); rintro e wq ⟨rfl, hwq⟩; subst hwq)
              go_roundw
              case rel => exact ⟨_, k, _, rfl, by omega, ⟨(by first | trivial | rfl), HN.out.2⟩⟩
              case measure => simp [slen]
          · skip
            have hbz : blankR z = false := by unfold blankR; rw [hcz]; simpa using hc
            rw [joinY_stop hbz] at hjy
            have hc' : (cz == 0) = false := by simpa using hc
            by_cases e41 : z = 41
            · subst e41
              obtain ⟨a5, c5, w5, hrun5, h5⟩ := hst.out.2.step (hry.below hbw) (by omega)
              have HRUN5 := Lib.hid hrun5
              have hmj2 : m + (k + 1) ≤ (j + 1 + 1) * 1048577 := by omega
              have HN : Hid (m = joinC L A (j + 1) ∧ JoS wb w5 (joinA L A (j + 1)) a5 (m + (k + 1)) c5) := ⟨HJ.out.2.symm, by rw [HJ.out.1, jx_no hjy.symm (Or.inl rfl)]; exact h5⟩
              clear hst hry hyc hjy hys hz0 hcz hbw hrun5 h5
              go_wp2_with (first
                | (at_builtin; go_must (with_reducible refine Lib.wpList_append_run _ rfl (.tmp 93) (.tmp 94) _ _ rfl _ _ rfl rfl _ _ (HRUN5.out _) ?_))
                | (go_at_call 72; (with_reducible refine (HCZ.out _).mono ?_); rintro e wq ⟨rfl, hwq⟩; subst hwq))
              go_roundw
              case rel => exact ⟨j + 1, m + (k + 1), m, p + 1, a5, c5, rfl, rfl, by go_num, by have := HPE.out; omega, by omega, hmj2, HN⟩
              case measure => have := HPE.out; simp [intOf]; omega
            have e41' : (z != 41) = true := by simpa using e41
            have hXl := hst.out.2.len
            by_cases hm0 : m = 0
            · subst hm0
              obtain ⟨a5, c5, w5, hrun5, h5⟩ := hst.out.2.step (hry.below hbw) (by omega)
              rw [Nat.zero_add] at hrun5 h5
              have HRUN5 := Lib.hid hrun5
              have hmj2 : k + 1 ≤ (j + 1 + 1) * 1048577 := by omega
              have HN : Hid (0 = joinC L A (j + 1) ∧ JoS wb w5 (joinA L A (j + 1)) a5 (k + 1) c5) := ⟨HJ.out.2.symm, by rw [HJ.out.1, jx_no hjy.symm (Or.inr (Or.inl (List.eq_nil_of_length_eq_zero hXl)))]; exact h5⟩
              clear hst hry hyc hjy hys hz0 hcz hbw hrun5 h5
              go_wp2_with (first
                | (at_builtin; go_must (with_reducible refine Lib.wpList_append_run _ rfl (.tmp 93) (.tmp 94) _ _ rfl _ _ rfl rfl _ _ (HRUN5.out _) ?_))
                | (go_at_call 72; (with_reducible refine (HCZ.out _).mono ?_); rintro e wq ⟨rfl, hwq⟩; subst hwq))
              go_roundw
              case rel => exact ⟨j + 1, k + 1, 0, p + 1, a5, c5, rfl, rfl, by go_num, by have := HPE.out; omega, by omega, hmj2, HN⟩
              case measure => have := HPE.out; simp [intOf]; omega
            obtain ⟨mm, rfl⟩ : ∃ mm, m = mm + 1 := ⟨m - 1, by omega⟩
            have hXr := own_rd hst.out.2.own (joinA_wf HPT.out.1 A j)
            obtain ⟨xb, xo, rfl, hxb, hxc⟩ := hXr.all_ (by omega)
            have hlx := hxc mm (by omega)
            obtain ⟨lx, hlxe⟩ : ∃ lx, (joinA L A j).getD mm 0 = lx := ⟨_, rfl⟩
            rw [hlxe] at hlx
            have hlast : (joinA L A j).getD ((joinA L A j).length - 1) 0 = lx := by rw [hXl, Nat.add_sub_cancel]; exact hlxe
            obtain ⟨cx, hcx⟩ : ∃ cx, cls false lx = cx := ⟨_, rfl⟩
            have HCX : Hid (∀ W, Calls Try.prog 72 #[.int .i32 lx, .bool false] W fun e w' => e = .returned (.int .i64 cx) ∧ W = w') := by rw [← hcx]; exact HCL.out lx
            by_cases hx0 : cx = 0
            · subst hx0
              have hbx : blankR ((joinA L A j).getD ((joinA L A j).length - 1) 0) = true := by rw [hlast]; unfold blankR; rw [hcx]; rfl
              obtain ⟨a5, c5, w5, hrun5, h5⟩ := hst.out.2.step (hry.below hbw) (by omega)
              have HRUN5 := Lib.hid hrun5
              have hmj2 : mm + 1 + (k + 1) ≤ (j + 1 + 1) * 1048577 := by omega
              have HN : Hid (mm + 1 = joinC L A (j + 1) ∧ JoS wb w5 (joinA L A (j + 1)) a5 (mm + 1 + (k + 1)) c5) := ⟨HJ.out.2.symm, by rw [HJ.out.1, jx_no hjy.symm (Or.inr (Or.inr hbx))]; exact h5⟩
              clear hXr hxc hlxe hlast hcx hbx hst hry hyc hjy hys hz0 hcz hbw hrun5 h5
              go_wp2_with (first
                | (at_builtin; go_must (with_reducible refine Lib.wpList_append_run _ rfl (.tmp 93) (.tmp 94) _ _ rfl _ _ rfl rfl _ _ (HRUN5.out _) ?_))
                | (go_at_call 72; (with_reducible refine (HCZ.out _).mono ?_); rintro e wq ⟨rfl, hwq⟩; subst hwq)
                | (go_at_call 72; (with_reducible refine (HCX.out _).mono ?_); rintro e wq ⟨rfl, hwq⟩; subst hwq))
              go_roundw
              case rel => exact ⟨j + 1, mm + 1 + (k + 1), mm + 1, p + 1, a5, c5, rfl, rfl, by go_num, by have := HPE.out; omega, by omega, hmj2, HN⟩
              case measure => have := HPE.out; simp [intOf]; omega
            · have hx0' : (cx != 0) = true := by simpa using hx0
              have hbx : blankR ((joinA L A j).getD ((joinA L A j).length - 1) 0) = false := by rw [hlast]; unfold blankR; rw [hcx]; simpa using hx0
              obtain ⟨a4, c4, w4, a5, c5, w5, hrun4, hrun5, h5⟩ := hst.out.2.blank (w0 := wb) hry (by omega)
              have HRUN4 := Lib.hid hrun4
              have HRUN5 := Lib.hid hrun5
              have hmj2 : mm + 1 + 1 + (k + 1) ≤ (j + 1 + 1) * 1048577 := by omega
              have HN : Hid (mm + 1 = joinC L A (j + 1) ∧ JoS wb w5 (joinA L A (j + 1)) a5 (mm + 1 + 1 + (k + 1)) c5) := ⟨HJ.out.2.symm, by rw [HJ.out.1, jx_yes hjy.symm e41 (by intro e; rw [e] at hXl; simp at hXl) hbx]; exact h5⟩
              clear hst hry hyc hjy hys hz0 hcz hbw hrun4 hrun5 h5 hXr hxc hlxe hlast hcx hbx
              go_wp2_with (first
                | (at_builtin; go_must (first
                  | (with_reducible refine Lib.wpList_append_run _ rfl (.tmp 90) (.tmp 91) _ _ rfl _ _ rfl rfl _ _ (HRUN4.out _) ?_)
                  | (with_reducible refine Lib.wpList_append_run _ rfl (.tmp 93) (.tmp 94) _ _ rfl _ _ rfl rfl _ _ (HRUN5.out _) ?_)))
                | (go_at_call 72; (with_reducible refine (HCZ.out _).mono ?_); rintro e wq ⟨rfl, hwq⟩; subst hwq)
                | (go_at_call 72; (with_reducible refine (HCX.out _).mono ?_); rintro e wq ⟨rfl, hwq⟩; subst hwq))
              go_roundw
              case rel => exact ⟨j + 1, mm + 1 + 1 + (k + 1), mm + 1, p + 1, a5, c5, rfl, rfl, by go_num, by have := HPE.out; omega, by omega, hmj2, HN⟩
              case measure => have := HPE.out; simp [intOf]; omega
    · skip
      have hje : j = N - 1 := by omega
      subst hje
      have hpe : p = A + N := by omega
      clear hp
      subst hpe
      have hge : (A : Int) + (N : Int) ≤ ((A + N : Nat) : Int) := by omega
      obtain ⟨hcol, hJ⟩ := hst.out
      have hbs : wb.heap.size = b + 1 := by rw [HPT.out.2.2.2.2.1, HBE.out]
      have hbw : Below w.heap.size w wr := HPT.out.2.2.2.1.trans (hJ.hb.mono (by have := HPT.out.2.2.2.2.1; omega))
      have hzr : wr.heap[b]? = some (.cells #[.int .i64 0, .int .i64 0] 24 (0, 0)) := by rw [← HBE.out]; exact (hJ.hb.block _ (by have := HPT.out.2.2.2.2.1; omega)).trans HPT.out.2.2.2.2.2
      have hown := hJ.own
      rw [hbs] at hown
      obtain ⟨X, hX⟩ : ∃ X, joinA L A (N - 1) = X := ⟨_, rfl⟩
      rw [hX] at hown
      have hcb : col ≤ 8796093022208 := by
        obtain ⟨N', rfl⟩ : ∃ N', N = N' + 2 := ⟨N - 2, by omega⟩
        have e1 : col = (joinA L A N').length := hcol
        have h1 := joinA_len L A N'
        have h2 : (N' + 1) * (sizeN (lens L) + 1) ≤ 1048576 * 1048577 := Nat.mul_le_mul (by omega) (by have := HPT.out.2.2.1; omega)
        omega
      have hwf : ∀ x ∈ joinM L A N, ∀ y ∈ x, (Lit.int .i32 y).wf = true := by
        intro x hx
        have hw := lines_wf (rdl_wf HPT.out.1)
        unfold joinM at hx
        rcases List.mem_append.1 hx with hx | hx
        · rcases List.mem_append.1 hx with hx | hx
          · exact hw x (List.mem_of_mem_take hx)
          · rw [List.mem_singleton] at hx; subst hx; exact joinA_wf HPT.out.1 A _
        · exact hw x (List.mem_of_mem_drop hx)
      have HWF := Lib.hid hwf
      have hJM : L.take A ++ [X] ++ L.drop (A + N) = joinM L A N := by rw [← hX]; rfl
      obtain ⟨⟨Q1, Q2⟩, hQ⟩ : ∃ Q, clipP (joinM L A N) (A : Int) (joinC L A (N - 1) : Int) = Q := ⟨_, rfl⟩
      have HQ := Lib.hid hQ
      have HT1 : Hid (∀ W, W = wr → Calls Try.prog 12 #[.slice (some ⟨lb, lo, none⟩) A c] W fun e w' => ∃ ta tc, e = .returned (.slice ta A tc) ∧ ∃ a3 c3 w6, Hid (∀ ty, (Builtin.append_ #[22, 22] ty #[.slice ta A tc, .slice (some ⟨w'.heap.size, 0, none⟩) 1 1]).run Try.prog (w'.alloc (.cells #[.slice xa m xc] 35)) = .ok (.slice a3 (A + 1) c3) w6) ∧ Hid (JoE w b a3 (A + 1) c3 (L.take A ++ [X]) w6 ∧ A + 1 ≤ 549755813888)) := by
        rintro W rfl
        refine (rtwin_any F _ A c (L.take A) W ((HPT.out.1.below hbw).take A (by omega)) (by have := size_take_le L A; have := HPT.out.2.2.1; omega)).mono ?_
        rintro e w' ⟨ta, tc, rfl, hf, hb5⟩
        have hs5 := hb5.size
        have hbl := heap_lt hzr
        have hE0 : JoE w b ta A tc (L.take A) w' := ⟨(hb5.block _ hbl).trans hzr, hf.my (by omega), by rw [← HBE.out]; exact hbw.trans (hb5.mono hbw.size), by omega⟩
        obtain ⟨a3, c3, w6, h1, h2⟩ := hE0.put (own_fr hown (Fr.of_below (fun _ => False) hb5) (fun _ _ h => h)) (by omega)
        exact ⟨ta, tc, rfl, a3, c3, w6, h1, h2, by omega⟩
      obtain ⟨da, hda, HRD⟩ : ∃ da, (if c = A + N then some (⟨lb, lo, none⟩ : Addr) else (some (⟨lb, lo, none⟩ : Addr)).map (·.add ((A + N) * 1))) = da ∧ Hid (∀ W, Below w.heap.size w W → RdL F W da (n - (A + N)) (c - (A + N)) (L.drop (A + N))) := ⟨_, rfl, fun W hW => (HPT.out.1.below hW).drop (A + N) hAN⟩
      have HT2 : Hid (∀ (W : World) (ra : Option Addr) (m rc : Nat) (O : List (List Int)), Hid (JoE w b ra m rc O W ∧ m ≤ 549755813888) → Calls Try.prog 12 #[.slice da (n - (A + N)) (c - (A + N))] W fun e w' => ∃ ta tc, e = .returned (.slice ta (n - (A + N)) tc) ∧ ∃ a' c' W', Hid (∀ ty, (Builtin.append_ #[22, 22] ty #[.slice ra m rc, .slice ta (n - (A + N)) tc]).run Try.prog w' = .ok (.slice a' (m + (n - (A + N))) c') W') ∧ Hid (JoE w b a' (m + (n - (A + N))) c' (O ++ L.drop (A + N)) W')) := by
        intro W ra m rc O hW
        have hbW : Below w.heap.size w W := by rw [HBE.out]; exact hW.out.1.hb
        refine (hW.out.1.rest F (HRD.out W hbW) (by rw [lens_drop]; have := sizeN_drop_le2 (lens L) (A + N); have := HPT.out.2.2.1; omega) hW.out.2).mono ?_
        rintro e w' ⟨ta, tc, rfl, a', c', W', h1, h2⟩
        exact ⟨ta, tc, rfl, a', c', W', h1, h2⟩
      have HCL3 : Hid (∀ (W : World) (a' : Option Addr) (m' c' : Nat), Hid (JoE w b a' m' c' (L.take A ++ [X] ++ L.drop (A + N)) W) → Calls Try.prog 32 #[.slice a' m' c', .agg #[.int .i64 (A : Nat), .int .i64 (col : Nat)]] W fun e w' => e = .returned (.agg #[.int .i64 (Q1 : Nat), .int .i64 (Q2 : Nat)]) ∧ JoZ b w' ∧ Hid (JoE w b a' m' c' (joinM L A N) w')) := by
        intro W a' m' c' hW
        have hE := hW.out
        rw [hJM] at hE
        refine (hE.clip HWF.out A col (by omega) hcb).mono ?_
        rintro e w' ⟨rfl, hz, hh⟩
        refine ⟨?_, hz, hh⟩
        rw [hcol, hQ]
      have z0 := cell_row hzr 0
      have z1 := cell_row hzr 1
      have zl := heap_lt hzr
      have hAc : A ≤ c := by omega
      have hANc : A + N ≤ c := by omega
      clear hst hJ hown hwf hJM hQ hX hcol hbw hzr
      by_cases hcn : c = A + N
      · rw [if_pos hcn] at hda
        subst hda
        have hnn : n = A + N := by omega
        subst hcn
        subst hnn
        simp only [Nat.sub_self, Nat.add_zero] at HT2
        go_wp2_with (first
          | (at_builtin; go_must (first
            | (with_reducible refine Lib.wpList_append_run _ rfl (.tmp 100) (.tmp 102) _ _ rfl _ _ rfl rfl _ _ (HRUN3.out _) ?_)
            | (with_reducible refine Lib.wpList_append_run _ rfl (.tmp 104) (.tmp 110) _ _ rfl _ _ rfl rfl _ _ (HRUN4.out _) ?_)))
          | (go_at_call 32; (refine (HCL3.out _ _ _ _ HE4).mono ?_); rintro e w9 ⟨rfl, ⟨n0, n1, ny0, ny1, nl⟩, HF⟩)
          | (go_at_call 12; (refine (HT2.out _ _ _ _ _ HE3).mono ?_); rintro e w7 ⟨t5, t6, rfl, a4, c4, w8, HRUN4, HE4⟩)
          | (go_at_call 12; (refine (HT1.out _ rfl).mono ?_); rintro e w5 ⟨ta, tc, rfl, a3, c3, w6, HRUN3, HE3⟩))
        refine bodyPost_ret (v := .tuple #[.slice a4 (A + 1) c4, plV (Q1, Q2), .int .i64 0]) ?_ rfl ?_
        · rw [results_tct rfl]
          go_simp
          first | rfl | done
        · rw [HQ.out]
          exact HF.out.fin HWF.out _ _ _
      · rw [if_neg hcn] at hda
        simp only [Option.map_some, Nat.mul_one] at hda
        subst hda
        have hadd : (⟨lb, lo, none⟩ : Addr).add (A + N) = ⟨lb, lo + (A + N), none⟩ := by rw [add_lit]
        rw [hadd] at HT2
        go_wp2_with (first
          | (at_builtin; go_must (first
            | (with_reducible refine Lib.wpList_append_run _ rfl (.tmp 100) (.tmp 102) _ _ rfl _ _ rfl rfl _ _ (HRUN3.out _) ?_)
            | (with_reducible refine Lib.wpList_append_run _ rfl (.tmp 104) (.tmp 110) _ _ rfl _ _ rfl rfl _ _ (HRUN4.out _) ?_)))
          | (go_at_call 32; (refine (HCL3.out _ _ _ _ HE4).mono ?_); rintro e w9 ⟨rfl, ⟨n0, n1, ny0, ny1, nl⟩, HF⟩)
          | (go_at_call 12; (refine (HT2.out _ _ _ _ _ HE3).mono ?_); rintro e w7 ⟨t5, t6, rfl, a4, c4, w8, HRUN4, HE4⟩)
          | (go_at_call 12; (refine (HT1.out _ rfl).mono ?_); rintro e w5 ⟨ta, tc, rfl, a3, c3, w6, HRUN3, HE3⟩))
        refine bodyPost_ret (v := .tuple #[.slice a4 (A + 1 + (n - (A + N))) c4, plV (Q1, Q2), .int .i64 0]) ?_ rfl ?_
        · rw [results_tct rfl]
          go_simp
          first | rfl | done
        · rw [HQ.out]
          exact HF.out.fin HWF.out _ _ _
end Go.Proofs.Ytfldjoiohejilaa.U
