/-
  siftDownOrdered, heapSortOrdered, reverseRangeOrdered.
-/
import Derived.Test.YtbgbhlnidabhnaaSBase
namespace Go.Proofs.Ytbgbhlnidabhnaa.U
open Go.RowKit
set_option linter.unusedVariables false
set_option linter.unusedSimpArgs false
set_option maxRecDepth 100000

theorem sift_stop0 {hi fi r c : Nat} {e : Array Int} (hc : 2 * r + 1 = c) (h : ¬ c < hi) : Sort.siftDown Sort.ltInt hi fi r e = e := by
  rw [Sort.siftDown, dif_pos (by omega)]
theorem sift_big {hi fi r c c' fr fc fc' : Nat} {e : Array Int} (hc : 2 * r + 1 = c) (hc' : c + 1 = c') (h : c' < hi) (h1 : fi + r = fr) (h2 : fi + c = fc) (h3 : fi + c' = fc') (hl : e[fc]! < e[fc']!) :
    Sort.siftDown Sort.ltInt hi fi r e = if e[fr]! < e[fc']! then Sort.siftDown Sort.ltInt hi fi c' (Sort.swp e fr fc') else e := by
  subst hc hc' h1 h2 h3
  rw [Sort.siftDown, dif_neg (by omega), if_pos (by
    simp only [Bool.and_eq_true, decide_eq_true_eq, Sort.ltInt]
    exact ⟨h, hl⟩)]
  by_cases hr : e[fi + r]! < e[fi + (2 * r + 1 + 1)]!
  · rw [if_pos hr, if_neg (by simp [Sort.ltInt]; exact hr), dif_pos (by omega)]
  · rw [if_neg hr, if_pos (by simp [Sort.ltInt]; exact Int.not_lt.1 hr)]
theorem sift_small {hi fi r c fr fc : Nat} {e : Array Int} (hc : 2 * r + 1 = c) (h : c < hi) (h1 : fi + r = fr) (h2 : fi + c = fc) (hl : ¬ (c + 1 < hi ∧ e[fc]! < e[fc + 1]!)) :
    Sort.siftDown Sort.ltInt hi fi r e = if e[fr]! < e[fc]! then Sort.siftDown Sort.ltInt hi fi c (Sort.swp e fr fc) else e := by
  subst hc h1 h2
  rw [Sort.siftDown, dif_neg (by omega), if_neg (by
    simp only [Bool.and_eq_true, decide_eq_true_eq, Sort.ltInt]
    exact hl)]
  by_cases hr : e[fi + r]! < e[fi + (2 * r + 1)]!
  · rw [if_pos hr, if_neg (by simp [Sort.ltInt]; exact hr)]
  · rw [if_neg hr, if_pos (by simp [Sort.ltInt]; exact Int.not_lt.1 hr)]
set_option maxHeartbeats 4000000 in
theorem sift_any (g cap n lo hi fi : Nat) (d : Array Int) (w : World) (h : RowS w g cap d) (hn : d.size = n) (hn2 : n ≤ 100) (hf : fi + hi ≤ n) (hlo : lo ≤ 100) :
    Calls Try.prog 54 #[.slice (some ⟨g, 0, none⟩) n cap, .int .i64 lo, .int .i64 hi, .int .i64 fi] w fun e w' => e = .returned (.tuple #[]) ∧ RowS w' g cap (Sort.siftDown Sort.ltInt hi fi lo d) ∧ Fr (fun k => k = g) w w' := by
  have H := Lib.hid h
  have HN := Lib.hid hn
  clear h hn
  go_enter Try.func54, Try.ntmps54
  go_wp2
  go_loopw [8] (fun rv wr => ∃ (r : Nat) (e : Array Int), rv = .int .i64 r ∧ r ≤ 200 ∧ Hid (e.size = n ∧ RowS wr g cap e ∧ Sort.siftDown Sort.ltInt hi fi r e = Sort.siftDown Sort.ltInt hi fi lo d ∧ Fr (fun k => k = g) w wr)) (fun r _ => hi - (intOf r).toNat)
  case atStart => exact ⟨lo, d, rfl, by omega, HN.out, H.out, rfl, Fr.refl _ _⟩
  case round =>
    obtain ⟨r, e, rfl, hr200, hin⟩ := hrel
    obtain ⟨c, hc⟩ : ∃ c, 2 * r + 1 = c := ⟨_, rfl⟩
    have hm : IntKind.i64.wrap (2 * (r : Int)) = 2 * (r : Int) := by rw [IntKind.wrap_i64]; omega
    have hc1 : 2 * (r : Int) + 1 = (c : Int) := by omega
    by_cases hch : c < hi
    · obtain ⟨fr, hfr⟩ : ∃ fr, fi + r = fr := ⟨_, rfl⟩
      obtain ⟨fc, hfc⟩ : ∃ fc, fi + c = fc := ⟨_, rfl⟩
      have hfr1 : (fi : Int) + (r : Int) = (fr : Int) := by omega
      have hfc1 : (fi : Int) + (c : Int) = (fc : Int) := by omega
      have hfrn : (fr : Int) < (n : Int) := by omega
      have hfcn : (fc : Int) < (n : Int) := by omega
      have w1 : IntKind.i64.wrap (fr : Int) = (fr : Int) := by rw [IntKind.wrap_i64]; omega
      have w2 : IntKind.i64.wrap (fc : Int) = (fc : Int) := by rw [IntKind.wrap_i64]; omega
      have exr := hin.out.2.1.at_ (i := fr) (by rw [hin.out.1]; omega)
      obtain ⟨xr, hxr⟩ : ∃ xr, e[fr]! = xr := ⟨_, rfl⟩
      rw [hxr] at exr
      have Hxr := Lib.hid hxr
      clear hxr
      have exc := hin.out.2.1.at_ (i := fc) (by rw [hin.out.1]; omega)
      obtain ⟨xc, hxc⟩ : ∃ xc, e[fc]! = xc := ⟨_, rfl⟩
      rw [hxc] at exc
      have Hxc := Lib.hid hxc
      clear hxc
      by_cases h2 : c + 1 < hi
      · obtain ⟨c', hc'⟩ : ∃ c', c + 1 = c' := ⟨_, rfl⟩
        obtain ⟨fc', hfc'⟩ : ∃ f, fi + c' = f := ⟨_, rfl⟩
        have hc1' : (c : Int) + 1 = (c' : Int) := by omega
        have hfc1' : (fi : Int) + (c' : Int) = (fc' : Int) := by omega
        have hfc2' : (fc : Int) + 1 = (fc' : Int) := by omega
        have hfcn' : (fc' : Int) < (n : Int) := by omega
        have w3 : IntKind.i64.wrap (fc' : Int) = (fc' : Int) := by rw [IntKind.wrap_i64]; omega
        have w4 : IntKind.i64.wrap (c' : Int) = (c' : Int) := by rw [IntKind.wrap_i64]; omega
        have hch2 : decide ((c' : Int) < (hi : Int)) = true := by simp; omega
        have hch3 : c' < hi := by omega
        have exd := hin.out.2.1.at_ (i := fc') (by rw [hin.out.1]; omega)
        obtain ⟨xd, hxd⟩ : ∃ xd, e[fc']! = xd := ⟨_, rfl⟩
        rw [hxd] at exd
        have Hxd := Lib.hid hxd
        clear hxd
        by_cases hcd : xc < xd
        · have HCD := Lib.hid hcd
          have hcd2 : decide (xc < xd) = true := by simpa using hcd
          clear hcd
          by_cases hrc : xr < xd
          · have HRC := Lib.hid hrc
            have hrc2 : decide (xr < xd) = true := by simpa using hrc
            clear hrc
            have ne1 : ¬ fr = fc' := by omega
            have ne2 : ¬ fc' = fr := by omega
            go_wp2
            go_quiet (first | (go_at_call 49; refine Calls.quiet_of_same (less_any _ _ _)))
            go_wp2_with fail
            obtain ⟨wz, hwz⟩ : ∃ wz, wr.drewN nq = wz := ⟨_, rfl⟩
            have hinz : Hid (e.size = n ∧ RowS wz g cap e ∧ Sort.siftDown Sort.ltInt hi fi r e = Sort.siftDown Sort.ltInt hi fi lo d ∧ Fr (fun k => k = g) w wz) := ⟨hin.out.1, hwz ▸ hin.out.2.1.drewN nq, hin.out.2.2.1, hwz ▸ fr_drewN hin.out.2.2.2 nq⟩
            rw [hwz]
            clear hwz
            have er := hinz.out.2.1.at_ (i := fr) (by rw [hinz.out.1]; omega)
            have ec := hinz.out.2.1.at_ (i := fc') (by rw [hinz.out.1]; omega)
            rw [Hxr.out] at er
            rw [Hxd.out] at ec
            have zr := hinz.out.2.1.fz fr
            have zc := hinz.out.2.1.fz fc'
            go_quiet (first | (go_at_call 49; refine Calls.quiet_of_same (less_any _ _ _)))
            go_wp2
            go_region
            all_goals go_wp2
            all_goals go_roundw
            case rel =>
              obtain ⟨i1, i2, i3, i4⟩ := hinz.out
              have hr := (i2.drewN (nq + 1)).swp (i := fr) (j := fc') (by omega) (by omega)
              rw [Hxr.out, Hxd.out] at hr
              refine ⟨c', Sort.swp e fr fc', rfl, by omega, by rw [Sort.size_swp]; exact i1, hr, ?_, (fr_drewN i4 (nq + 1)).trans (fr_set2 _ g fr fc' _ _) (fun _ _ h => h)⟩
              rw [← i3, sift_big hc hc' (by omega) hfr hfc hfc' (by rw [Hxc.out, Hxd.out]; exact HCD.out), if_pos (by rw [Hxr.out, Hxd.out]; exact HRC.out)]
            case measure => simp [intOf]; omega
          · have HRC := Lib.hid hrc
            have hrc2 : decide (xr < xd) = false := by simpa using hrc
            clear hrc
            go_wp2
            go_quiet (first | (go_at_call 49; refine Calls.quiet_of_same (less_any _ _ _)))
            go_wp2_with fail
            obtain ⟨wz, hwz⟩ : ∃ wz, wr.drewN nq = wz := ⟨_, rfl⟩
            have hinz : Hid (e.size = n ∧ RowS wz g cap e ∧ Sort.siftDown Sort.ltInt hi fi r e = Sort.siftDown Sort.ltInt hi fi lo d ∧ Fr (fun k => k = g) w wz) := ⟨hin.out.1, hwz ▸ hin.out.2.1.drewN nq, hin.out.2.2.1, hwz ▸ fr_drewN hin.out.2.2.2 nq⟩
            rw [hwz]
            clear hwz
            have er := hinz.out.2.1.at_ (i := fr) (by rw [hinz.out.1]; omega)
            have ec := hinz.out.2.1.at_ (i := fc') (by rw [hinz.out.1]; omega)
            rw [Hxr.out] at er
            rw [Hxd.out] at ec
            have zr := hinz.out.2.1.fz fr
            have zc := hinz.out.2.1.fz fc'
            go_quiet (first | (go_at_call 49; refine Calls.quiet_of_same (less_any _ _ _)))
            go_wp2
            first | go_end0 | refine bodyPost_ret (results_none rfl _ _ _) rfl ?_
            obtain ⟨i1, i2, i3, i4⟩ := hinz.out
            rw [sift_big hc hc' (by omega) hfr hfc hfc' (by rw [Hxc.out, Hxd.out]; exact HCD.out), if_neg (by rw [Hxr.out, Hxd.out]; have := HRC.out; omega)] at i3
            rw [← i3]
            exact ⟨rfl, i2, fr_drewN i4 _⟩
        · have HCD := Lib.hid hcd
          have hcd2 : decide (xc < xd) = false := by simpa using hcd
          clear hcd
          by_cases hrc : xr < xc
          · have HRC := Lib.hid hrc
            have hrc2 : decide (xr < xc) = true := by simpa using hrc
            clear hrc
            have ne1 : ¬ fr = fc := by omega
            have ne2 : ¬ fc = fr := by omega
            go_wp2
            go_quiet (first | (go_at_call 49; refine Calls.quiet_of_same (less_any _ _ _)))
            go_wp2_with fail
            obtain ⟨wz, hwz⟩ : ∃ wz, wr.drewN nq = wz := ⟨_, rfl⟩
            have hinz : Hid (e.size = n ∧ RowS wz g cap e ∧ Sort.siftDown Sort.ltInt hi fi r e = Sort.siftDown Sort.ltInt hi fi lo d ∧ Fr (fun k => k = g) w wz) := ⟨hin.out.1, hwz ▸ hin.out.2.1.drewN nq, hin.out.2.2.1, hwz ▸ fr_drewN hin.out.2.2.2 nq⟩
            rw [hwz]
            clear hwz
            have er := hinz.out.2.1.at_ (i := fr) (by rw [hinz.out.1]; omega)
            have ec := hinz.out.2.1.at_ (i := fc) (by rw [hinz.out.1]; omega)
            rw [Hxr.out] at er
            rw [Hxc.out] at ec
            have zr := hinz.out.2.1.fz fr
            have zc := hinz.out.2.1.fz fc
            go_quiet (first | (go_at_call 49; refine Calls.quiet_of_same (less_any _ _ _)))
            go_wp2
            go_region
            all_goals go_wp2
            all_goals go_roundw
            case rel =>
              obtain ⟨i1, i2, i3, i4⟩ := hinz.out
              have hr := (i2.drewN (nq + 1)).swp (i := fr) (j := fc) (by omega) (by omega)
              rw [Hxr.out, Hxc.out] at hr
              refine ⟨c, Sort.swp e fr fc, rfl, by omega, by rw [Sort.size_swp]; exact i1, hr, ?_, (fr_drewN i4 (nq + 1)).trans (fr_set2 _ g fr fc _ _) (fun _ _ h => h)⟩
              rw [← i3, sift_small hc hch hfr hfc (by rintro ⟨-, h⟩; rw [show fc + 1 = fc' by omega, Hxc.out, Hxd.out] at h; have := HCD.out; omega), if_pos (by rw [Hxr.out, Hxc.out]; exact HRC.out)]
            case measure => simp [intOf]; omega
          · have HRC := Lib.hid hrc
            have hrc2 : decide (xr < xc) = false := by simpa using hrc
            clear hrc
            go_wp2
            go_quiet (first | (go_at_call 49; refine Calls.quiet_of_same (less_any _ _ _)))
            go_wp2_with fail
            obtain ⟨wz, hwz⟩ : ∃ wz, wr.drewN nq = wz := ⟨_, rfl⟩
            have hinz : Hid (e.size = n ∧ RowS wz g cap e ∧ Sort.siftDown Sort.ltInt hi fi r e = Sort.siftDown Sort.ltInt hi fi lo d ∧ Fr (fun k => k = g) w wz) := ⟨hin.out.1, hwz ▸ hin.out.2.1.drewN nq, hin.out.2.2.1, hwz ▸ fr_drewN hin.out.2.2.2 nq⟩
            rw [hwz]
            clear hwz
            have er := hinz.out.2.1.at_ (i := fr) (by rw [hinz.out.1]; omega)
            have ec := hinz.out.2.1.at_ (i := fc) (by rw [hinz.out.1]; omega)
            rw [Hxr.out] at er
            rw [Hxc.out] at ec
            have zr := hinz.out.2.1.fz fr
            have zc := hinz.out.2.1.fz fc
            go_quiet (first | (go_at_call 49; refine Calls.quiet_of_same (less_any _ _ _)))
            go_wp2
            first | go_end0 | refine bodyPost_ret (results_none rfl _ _ _) rfl ?_
            obtain ⟨i1, i2, i3, i4⟩ := hinz.out
            rw [sift_small hc hch hfr hfc (by rintro ⟨-, h⟩; rw [show fc + 1 = fc' by omega, Hxc.out, Hxd.out] at h; have := HCD.out; omega), if_neg (by rw [Hxr.out, Hxc.out]; have := HRC.out; omega)] at i3
            rw [← i3]
            exact ⟨rfl, i2, fr_drewN i4 _⟩
      · have hch2 : decide ((c : Int) + 1 < (hi : Int)) = false := by simp; omega
        have hch3 : decide (c + 1 < hi) = false := by simp; omega
        have w4 : IntKind.i64.wrap ((c : Int) + 1) = (c : Int) + 1 := by rw [IntKind.wrap_i64]; omega
        by_cases hrc : xr < xc
        · have HRC := Lib.hid hrc
          have hrc2 : decide (xr < xc) = true := by simpa using hrc
          clear hrc
          have ne1 : ¬ fr = fc := by omega
          have ne2 : ¬ fc = fr := by omega
          go_wp2
          go_quiet (first | (go_at_call 49; refine Calls.quiet_of_same (less_any _ _ _)))
          go_wp2_with fail
          obtain ⟨wz, hwz⟩ : ∃ wz, wr.drewN nq = wz := ⟨_, rfl⟩
          have hinz : Hid (e.size = n ∧ RowS wz g cap e ∧ Sort.siftDown Sort.ltInt hi fi r e = Sort.siftDown Sort.ltInt hi fi lo d ∧ Fr (fun k => k = g) w wz) := ⟨hin.out.1, hwz ▸ hin.out.2.1.drewN nq, hin.out.2.2.1, hwz ▸ fr_drewN hin.out.2.2.2 nq⟩
          rw [hwz]
          clear hwz
          have er := hinz.out.2.1.at_ (i := fr) (by rw [hinz.out.1]; omega)
          have ec := hinz.out.2.1.at_ (i := fc) (by rw [hinz.out.1]; omega)
          rw [Hxr.out] at er
          rw [Hxc.out] at ec
          have zr := hinz.out.2.1.fz fr
          have zc := hinz.out.2.1.fz fc
          go_quiet (first | (go_at_call 49; refine Calls.quiet_of_same (less_any _ _ _)))
          go_wp2
          go_region
          all_goals go_wp2
          all_goals go_roundw
          case rel =>
            obtain ⟨i1, i2, i3, i4⟩ := hinz.out
            have hr := (i2.drewN (nq + 1)).swp (i := fr) (j := fc) (by omega) (by omega)
            rw [Hxr.out, Hxc.out] at hr
            refine ⟨c, Sort.swp e fr fc, rfl, by omega, by rw [Sort.size_swp]; exact i1, hr, ?_, (fr_drewN i4 (nq + 1)).trans (fr_set2 _ g fr fc _ _) (fun _ _ h => h)⟩
            rw [← i3, sift_small hc hch hfr hfc (by rintro ⟨h, -⟩; exact h2 h), if_pos (by rw [Hxr.out, Hxc.out]; exact HRC.out)]
          case measure => simp [intOf]; omega
        · have HRC := Lib.hid hrc
          have hrc2 : decide (xr < xc) = false := by simpa using hrc
          clear hrc
          go_wp2
          go_quiet (first | (go_at_call 49; refine Calls.quiet_of_same (less_any _ _ _)))
          go_wp2_with fail
          obtain ⟨wz, hwz⟩ : ∃ wz, wr.drewN nq = wz := ⟨_, rfl⟩
          have hinz : Hid (e.size = n ∧ RowS wz g cap e ∧ Sort.siftDown Sort.ltInt hi fi r e = Sort.siftDown Sort.ltInt hi fi lo d ∧ Fr (fun k => k = g) w wz) := ⟨hin.out.1, hwz ▸ hin.out.2.1.drewN nq, hin.out.2.2.1, hwz ▸ fr_drewN hin.out.2.2.2 nq⟩
          rw [hwz]
          clear hwz
          have er := hinz.out.2.1.at_ (i := fr) (by rw [hinz.out.1]; omega)
          have ec := hinz.out.2.1.at_ (i := fc) (by rw [hinz.out.1]; omega)
          rw [Hxr.out] at er
          rw [Hxc.out] at ec
          have zr := hinz.out.2.1.fz fr
          have zc := hinz.out.2.1.fz fc
          go_quiet (first | (go_at_call 49; refine Calls.quiet_of_same (less_any _ _ _)))
          go_wp2
          first | go_end0 | refine bodyPost_ret (results_none rfl _ _ _) rfl ?_
          obtain ⟨i1, i2, i3, i4⟩ := hinz.out
          rw [sift_small hc hch hfr hfc (by rintro ⟨h, -⟩; exact h2 h), if_neg (by rw [Hxr.out, Hxc.out]; have := HRC.out; omega)] at i3
          rw [← i3]
          exact ⟨rfl, i2, fr_drewN i4 _⟩
    · have hch1 : ¬ (c : Int) < (hi : Int) := by omega
      go_wp2
      first | go_end0 | refine bodyPost_ret (results_none rfl _ _ _) rfl ?_
      obtain ⟨i1, i2, i3, i4⟩ := hin.out
      rw [sift_stop0 hc hch] at i3
      rw [← i3]
      exact ⟨rfl, i2, i4⟩

theorem sift_size (hi fi : Nat) : ∀ (k r : Nat) (e : Array Int), hi - r ≤ k → (Sort.siftDown Sort.ltInt hi fi r e).size = e.size
  | 0, r, e, h => by rw [Sort.siftDown, dif_pos (by omega)]
  | k + 1, r, e, h => by
    rw [Sort.siftDown]
    split
    · rfl
    · split
      · split
        · rfl
        · split
          · rw [sift_size hi fi k _ _ (by omega), Sort.size_swp]
          · rfl
      · split
        · rfl
        · rw [sift_size hi fi k _ _ (by omega), Sort.size_swp]
set_option maxHeartbeats 4000000 in
theorem heap_any (g cap n a b : Nat) (d : Array Int) (w : World) (h : RowS w g cap d) (hn : d.size = n) (hn2 : n ≤ 100) (hab : a < b) (hb : b ≤ n) :
    Calls Try.prog 44 #[.slice (some ⟨g, 0, none⟩) n cap, .int .i64 a, .int .i64 b] w fun e w' => e = .returned (.tuple #[]) ∧ RowS w' g cap (Sort.heapSort Sort.ltInt d a b) ∧ Fr (fun k => k = g) w w' := by
  have H := Lib.hid h
  have HN := Lib.hid hn
  clear h hn
  obtain ⟨m, hm⟩ : ∃ m, b - a = m := ⟨_, rfl⟩
  have hm1 : (b : Int) - (a : Int) = (m : Int) := by omega
  obtain ⟨q, hq⟩ : ∃ q, (m - 1) / 2 = q := ⟨_, rfl⟩
  obtain ⟨mm, hmm⟩ : ∃ mm, m - 1 = mm := ⟨_, rfl⟩
  have hmm1 : (m : Int) - 1 = (mm : Int) := by omega
  have hq1 : (mm : Int) / 2 = (q : Int) := by omega
  have HMM := Lib.hid hmm
  clear hmm
  have HQ := Lib.hid hq
  clear hq
  go_enter Try.func44, Try.ntmps44
  go_wp2
  go_loopw [9] (fun iv wr => ∃ (j : Nat) (e : Array Int), iv = .int .i64 ((j : Int) - 1) ∧ j ≤ q + 1 ∧ Hid (e.size = n ∧ RowS wr g cap e ∧ Sort.heapBuild Sort.ltInt m a j e = Sort.heapBuild Sort.ltInt m a (q + 1) d ∧ Fr (fun k => k = g) w wr)) (fun i _ => (intOf i + 1).toNat)
  case atStart => exact ⟨q + 1, d, by congr 1; omega, by omega, HN.out, H.out, rfl, Fr.refl _ _⟩
  case round =>
    obtain ⟨j, e, rfl, hj, hin⟩ := hrel
    by_cases hj0 : 1 ≤ j
    · obtain ⟨i, hi⟩ : ∃ i, j - 1 = i := ⟨_, rfl⟩
      have hii : (j : Int) - 1 = (i : Int) := by omega
      rw [hii]
      have hi0 : (0 : Int) ≤ (i : Int) := by omega
      have HI := Lib.hid hi
      have HII := Lib.hid hii
      clear hi hii
      have hiq : i ≤ q := by have := HI.out; omega
      have hqm : q ≤ 100 := by have := HQ.out; omega
      go_wp2_with (go_at_call 54; refine (sift_any g cap n i m a e wr hin.out.2.1 hin.out.1 hn2 (by omega) (by omega)).mono ?_; rintro e2 w2 ⟨rfl, hR2, hF2⟩)
      go_roundw
      case rel =>
        obtain ⟨i1, i2, i3, i4⟩ := hin.out
        refine ⟨i, _, rfl, by omega, ?_, hR2, ?_, i4.trans hF2 (fun _ _ h => h)⟩
        · rw [sift_size m a _ i e (Nat.le_refl _)]; exact i1
        · rw [← i3, show j = i + 1 by have := HI.out; omega]
          rfl
      case measure => have := HII.out; simp [intOf]
    · obtain rfl : j = 0 := by omega
      rw [show ((0 : Nat) : Int) - 1 = -1 from rfl]
      obtain ⟨e0, he0⟩ : ∃ e0, Sort.heapBuild Sort.ltInt m a (q + 1) d = e0 := ⟨_, rfl⟩
      have hin2 : Hid (e.size = n ∧ RowS wr g cap e ∧ e = e0 ∧ Fr (fun k => k = g) w wr) := ⟨hin.out.1, hin.out.2.1, by rw [← he0, ← hin.out.2.2.1]; rfl, hin.out.2.2.2⟩
      have HE0 := Lib.hid he0
      clear he0 hin
      go_wp2
      go_loopw [10] (fun iv wr => ∃ (j : Nat) (e : Array Int), iv = .int .i64 ((j : Int) - 1) ∧ j ≤ m ∧ Hid (e.size = n ∧ RowS wr g cap e ∧ Sort.heapPop Sort.ltInt a j e = Sort.heapPop Sort.ltInt a m e0 ∧ Fr (fun k => k = g) w wr)) (fun i _ => (intOf i + 1).toNat)
      case atStart => exact ⟨m, e, by congr 1; omega, Nat.le_refl _, hin2.out.1, hin2.out.2.1, by rw [hin2.out.2.2.1], hin2.out.2.2.2⟩
      case round =>
        obtain ⟨j, e, rfl, hj, hin⟩ := hrel
        by_cases hj1 : 1 ≤ j
        · obtain ⟨i, hi⟩ : ∃ i, j - 1 = i := ⟨_, rfl⟩
          have hii : (j : Int) - 1 = (i : Int) := by omega
          rw [hii]
          have hi0 : (0 : Int) ≤ (i : Int) := by omega
          have HI := Lib.hid hi
          have HII := Lib.hid hii
          clear hi hii
          have him : i < m := by have := HI.out; omega
          obtain ⟨ai, hai⟩ : ∃ ai, a + i = ai := ⟨_, rfl⟩
          have hai1 : (a : Int) + (i : Int) = (ai : Int) := by omega
          have han : (a : Int) < (n : Int) := by omega
          have hain : (ai : Int) < (n : Int) := by omega
          have wa : IntKind.i64.wrap (ai : Int) = (ai : Int) := by rw [IntKind.wrap_i64]; omega
          have HAI := Lib.hid hai
          by_cases hz : i = 0
          · subst hz
            obtain rfl : a = ai := by omega
            clear hai
            have x0 := hin.out.2.1.at_ (i := a) (by rw [hin.out.1]; omega)
            obtain ⟨x, hx⟩ : ∃ x, e[a]! = x := ⟨_, rfl⟩
            rw [hx] at x0
            have z0 := hin.out.2.1.fz a
            have HX := Lib.hid hx
            clear hx
            have hsw : ∀ W : World, RowS W g cap e → RowS ((W.setCell ⟨g, a, none⟩ (.int .i32 x)).setCell ⟨g, a, none⟩ (.int .i32 x)) g cap (Sort.swp e a a) := fun W hW => by
              have := hW.swp (i := a) (j := a) (by rw [hin.out.1]; omega) (by rw [hin.out.1]; omega)
              rw [HX.out] at this
              exact this
            have HSW := Lib.hid hsw
            clear hsw
            go_wp2
            go_region
            all_goals go_wp2_with (go_at_call 54; refine (sift_any g cap n 0 0 a (Sort.swp e a a) _ (HSW.out _ (hin.out.2.1.drew)) (by rw [Sort.size_swp]; exact hin.out.1) hn2 (by omega) (by omega)).mono ?_; rintro e2 w2 ⟨rfl, hR2, hF2⟩)
            all_goals go_roundw
            case rel =>
              obtain ⟨i1, i2, i3, i4⟩ := hin.out
              refine ⟨0, _, rfl, by omega, ?_, hR2, ?_, (i4.drew.trans (fr_set2 _ g a a _ _) (fun _ _ h => h)).trans hF2 (fun _ _ h => h)⟩
              · rw [sift_size 0 a _ 0 _ (Nat.le_refl _), Sort.size_swp]; exact i1
              · rw [← i3, show j = 0 + 1 by have := HI.out; omega]
                rfl
            case measure => have := HII.out; simp [intOf]
          · clear hai
            have x0 := hin.out.2.1.at_ (i := a) (by rw [hin.out.1]; omega)
            obtain ⟨x, hx⟩ : ∃ x, e[a]! = x := ⟨_, rfl⟩
            rw [hx] at x0
            have z0 := hin.out.2.1.fz a
            have HX := Lib.hid hx
            clear hx
            have y0 := hin.out.2.1.at_ (i := ai) (by rw [hin.out.1]; omega)
            obtain ⟨y, hy⟩ : ∃ y, e[ai]! = y := ⟨_, rfl⟩
            rw [hy] at y0
            have z1 := hin.out.2.1.fz ai
            have HY := Lib.hid hy
            clear hy
            have ne1 : ¬ a = ai := by omega
            have ne2 : ¬ ai = a := by omega
            have hsw : ∀ W : World, RowS W g cap e → RowS ((W.setCell ⟨g, a, none⟩ (.int .i32 y)).setCell ⟨g, ai, none⟩ (.int .i32 x)) g cap (Sort.swp e a ai) := fun W hW => by
              have := hW.swp (i := a) (j := ai) (by rw [hin.out.1]; omega) (by rw [hin.out.1]; omega)
              rw [HX.out, HY.out] at this
              exact this
            have HSW := Lib.hid hsw
            clear hsw
            go_wp2
            go_region
            all_goals go_wp2_with (go_at_call 54; refine (sift_any g cap n 0 i a (Sort.swp e a ai) _ (HSW.out _ (hin.out.2.1.drew)) (by rw [Sort.size_swp]; exact hin.out.1) hn2 (by omega) (by omega)).mono ?_; rintro e2 w2 ⟨rfl, hR2, hF2⟩)
            all_goals go_roundw
            case rel =>
              obtain ⟨i1, i2, i3, i4⟩ := hin.out
              refine ⟨i, _, rfl, by omega, ?_, hR2, ?_, (i4.drew.trans (fr_set2 _ g a ai _ _) (fun _ _ h => h)).trans hF2 (fun _ _ h => h)⟩
              · rw [sift_size i a _ 0 _ (Nat.le_refl _), Sort.size_swp]; exact i1
              · rw [← i3, show j = i + 1 by have := HI.out; omega, ← HAI.out]
                rfl
            case measure => have := HII.out; simp [intOf]
        · obtain rfl : j = 0 := by omega
          rw [show ((0 : Nat) : Int) - 1 = -1 from rfl]
          go_wp2
          first | go_end0 | refine bodyPost_ret (results_none rfl _ _ _) rfl ?_
          obtain ⟨i1, i2, i3, i4⟩ := hin.out
          refine ⟨rfl, ?_, i4⟩
          have e9 : Sort.heapSort Sort.ltInt d a b = e := by
            unfold Sort.heapSort
            rw [hm, show (m - 1) / 2 = q by have := HQ.out; omega, HE0.out, ← i3]
            rfl
          rw [e9]
          exact i2
end Go.Proofs.Ytbgbhlnidabhnaa.U
