/-
  partialInsertionSortOrdered (of less than 50), partitionOrdered.
-/
import Derived.Test.YtbgbhlnidabhnaaSBase
import Derived.Deep.DeepCutAuto
namespace Go.Proofs.Ytbgbhlnidabhnaa.U
open Go.RowKit
set_option linter.unusedVariables false
set_option linter.unusedSimpArgs false
set_option maxRecDepth 100000

set_option maxHeartbeats 4000000 in
theorem partial_any (g cap n a b : Nat) (d : Array Int) (w : World) (h : RowS w g cap d) (hn : d.size = n) (hn2 : n < 50) (hab : a < b) (hb : b ≤ n) :
    Calls Try.prog 48 #[.slice (some ⟨g, 0, none⟩) n cap, .int .i64 a, .int .i64 b] w fun e w' => ∃ r : Bool, e = .returned (.bool r) ∧ (r = true → Sort.SortedIn Sort.ltInt a b d) ∧ (∃ m, w' = w.drewN m) := by
  have H := Lib.hid h
  have HN := Lib.hid hn
  clear h hn
  have hl50 : (b : Int) - (a : Int) < 50 := by omega
  go_enter Try.func48, Try.ntmps48
  go_wp2
  go_loopw [7, 8] (fun iv jv wr => iv = .int .i64 ((a + 1 : Nat) : Int) ∧ jv = .int .i64 0 ∧ wr = w) (fun _ _ _ => 0)
  case atStart => exact ⟨by go_num, rfl, rfl⟩
  case round =>
    obtain ⟨rfl, rfl, rfl⟩ := hrel
    obtain ⟨a1, ha1⟩ : ∃ a1, a + 1 = a1 := ⟨_, rfl⟩
    rw [ha1]
    have HA1 := Lib.hid ha1
    clear ha1
    go_wp2
    obtain ⟨wo, hwo⟩ : ∃ wo : World, wo = wr := ⟨_, rfl⟩
    subst hwo
    go_loopw [7] (fun iv wx => ∃ i : Nat, iv = .int .i64 i ∧ a1 ≤ i ∧ i ≤ b ∧ Hid (Sort.SortedIn Sort.ltInt a i d) ∧ Hid (∃ m, wx = wo.drewN m)) (fun i _ => b - (intOf i).toNat)
    case atStart =>
      refine ⟨a1, rfl, Nat.le_refl _, by have := HA1.out; omega, ?_, ⟨0, rfl⟩⟩
      intro i j h1 h2 h3
      have := HA1.out
      omega
    case round =>
      obtain ⟨i, rfl, hai, hib, hso, hw⟩ := hrel
      by_cases hlt : i < b
      · obtain ⟨k, hk⟩ : ∃ k, i - 1 = k := ⟨_, rfl⟩
        have hk1 : (i : Int) - 1 = (k : Int) := by have := HA1.out; omega
        have hk0 : (0 : Int) ≤ (k : Int) := by omega
        have hin1 : (i : Int) < (n : Int) := by omega
        have hkn1 : (k : Int) < (n : Int) := by omega
        have hwk : IntKind.i64.wrap (k : Int) = (k : Int) := by rw [IntKind.wrap_i64]; omega
        obtain ⟨m, hm⟩ := hw.out
        subst hm
        have x0 : (wo.drewN m).cell? ⟨g, i, none⟩ = some (.int .i32 d[i]!) := H.out.at_ (by rw [HN.out]; omega)
        have y0 : (wo.drewN m).cell? ⟨g, k, none⟩ = some (.int .i32 d[k]!) := H.out.at_ (by rw [HN.out]; omega)
        obtain ⟨wz, hwz⟩ : ∃ wz, wo.drewN m = wz := ⟨_, rfl⟩
        rw [hwz] at x0 y0
        have HWZ := Lib.hid hwz
        rw [hwz]
        clear hwz
        obtain ⟨x, hx⟩ : ∃ x, d[i]! = x := ⟨_, rfl⟩
        obtain ⟨y, hy⟩ : ∃ y, d[k]! = y := ⟨_, rfl⟩
        rw [hx] at x0
        rw [hy] at y0
        have HX := Lib.hid hx
        have HY := Lib.hid hy
        have HK := Lib.hid hk
        clear hx hy hk
        by_cases hxy : x < y
        · have hlt2 : decide (x < y) = true := by simpa using hxy
          have hne : ((i : Int) == (b : Int)) = false := by simp; omega
          go_wp2
          go_quiet (first | (go_at_call 49; refine Calls.quiet_of_same (less_any _ _ _)))
          go_wp2
          go_ret
          exact ⟨false, rfl, (fun e => by cases e), m + nq, by rw [← HWZ.out, World.drewN_drewN]⟩
        · have hlt2 : decide (x < y) = false := by simpa using hxy
          have HXY := Lib.hid hxy
          clear hxy
          go_wp2
          go_quiet (first | (go_at_call 49; refine Calls.quiet_of_same (less_any _ _ _)))
          go_wp2
          go_roundw
          case rel =>
            refine ⟨i + 1, by go_num, by omega, by omega, ?_, m + nq, ?_⟩
            · refine Sort.SortedIn.snoc Sort.swo_ltInt hso.out ?_
              rw [HK.out, HX.out, HY.out]
              simp [Sort.ltInt]
              have := HXY.out
              omega
            · rw [← HWZ.out, World.drewN_drewN]
          case measure => simp [intOf]; omega
      · obtain rfl : i = b := by omega
        have hib2 : decide ((i : Int) < (i : Int)) = false := by simp
        go_wp2
        go_quiet (fail)
        go_wp2
        go_ret
        obtain ⟨m, hm⟩ := hw.out
        exact ⟨true, rfl, fun _ => hso.out, m + nq, by rw [hm, World.drewN_drewN]⟩

theorem su_step {a i j : Nat} {e : Array Int} (h : i ≤ j) (hl : e[i]! < e[a]!) : Sort.scanUp (fun x => Sort.ltInt x e[a]!) e j i = Sort.scanUp (fun x => Sort.ltInt x e[a]!) e j (i + 1) := by
  rw [Sort.scanUp, if_pos (by simp [Sort.ltInt, h, hl])]
theorem su_stop {a i j : Nat} {e : Array Int} (h : ¬ i ≤ j ∨ ¬ e[i]! < e[a]!) : Sort.scanUp (fun x => Sort.ltInt x e[a]!) e j i = i := by
  rw [Sort.scanUp, if_neg]
  simp only [Sort.ltInt, Bool.and_eq_true, decide_eq_true_eq]
  rintro ⟨h1, h2⟩
  rcases h with h | h
  · exact h h1
  · exact h h2
theorem sd_step {a i j k : Nat} {e : Array Int} (hk : j - 1 = k) (hj : 1 ≤ j) (h : i ≤ j) (hl : ¬ e[j]! < e[a]!) : Sort.scanDown (fun x => !Sort.ltInt x e[a]!) e i j = Sort.scanDown (fun x => !Sort.ltInt x e[a]!) e i k := by
  obtain ⟨m, rfl⟩ : ∃ m, j = m + 1 := ⟨j - 1, by omega⟩
  obtain rfl : m = k := by omega
  rw [Sort.scanDown, if_pos (by simp [Sort.ltInt, h]; exact Int.not_lt.1 hl)]
theorem sd_stop {a i j : Nat} {e : Array Int} (h : ¬ i ≤ j ∨ e[j]! < e[a]!) (hi : 1 ≤ i) : Sort.scanDown (fun x => !Sort.ltInt x e[a]!) e i j = j := by
  cases j with
  | zero => rfl
  | succ m =>
    rw [Sort.scanDown, if_neg]
    simp only [Sort.ltInt, Bool.and_eq_true, decide_eq_true_eq, Bool.not_eq_true', decide_eq_false_iff_not]
    rintro ⟨h1, h2⟩
    rcases h with h | h
    · exact h h1
    · exact h2 h
theorem su_ends {a i j i2 : Nat} {e : Array Int} (h : Sort.scanUp (fun x => Sort.ltInt x e[a]!) e j i = i2) (hj : i2 ≤ j) : ¬ e[i2]! < e[a]! := by
  have := (Sort.scanUp_spec (fun x => Sort.ltInt x e[a]!) e j _ i rfl)
  rw [h] at this
  simp only [Sort.ltInt] at this
  intro hl
  grind
theorem sd_ends {a i j j2 : Nat} {e : Array Int} (h : Sort.scanDown (fun x => !Sort.ltInt x e[a]!) e i j = j2) (hj : i ≤ j2) (hi : 1 ≤ i) : e[j2]! < e[a]! := by
  have := (Sort.scanDown_spec (fun x => !Sort.ltInt x e[a]!) e i j)
  rw [h] at this
  simp only [Sort.ltInt] at this
  grind
set_option maxHeartbeats 8000000 in
theorem partition_any (g cap n a b p : Nat) (d : Array Int) (w : World) (h : RowS w g cap d) (hn : d.size = n) (hn2 : n ≤ 100) (hap : a ≤ p) (hpb : p < b) (hb : b ≤ n) (hab : a + 2 ≤ b) :
    Calls Try.prog 51 #[.slice (some ⟨g, 0, none⟩) n cap, .int .i64 a, .int .i64 b, .int .i64 p] w fun e w' => ∃ (m : Nat) (r : Bool), e = .returned (.tuple #[.int .i64 (m : Nat), .bool r]) ∧ ((Sort.partition Sort.ltInt d a b p).1 = m ∧ (Sort.partition Sort.ltInt d a b p).2.1 = r) ∧ RowS w' g cap (Sort.partition Sort.ltInt d a b p).2.2 ∧ Fr (fun k => k = g) w w' := by
  have H := Lib.hid h
  have HN := Lib.hid hn
  clear h hn
  obtain ⟨e, he⟩ : ∃ e, Sort.swp d a p = e := ⟨_, rfl⟩
  have HE := Lib.hid he
  clear he
  obtain ⟨i, hi⟩ : ∃ i, a + 1 = i := ⟨_, rfl⟩
  obtain ⟨j, hj⟩ : ∃ j, b - 1 = j := ⟨_, rfl⟩
  have hi1 : (a : Int) + 1 = (i : Int) := by omega
  have hj1 : (b : Int) - 1 = (j : Int) := by omega
  have HA1 := Lib.hid hi
  have HB1 := Lib.hid hj
  have hai : a < i := by omega
  have hib : i ≤ b := by omega
  have haj : a ≤ j := by omega
  have hjb : j < b := by omega
  clear hi hj
  -- the first exchange: a and p
  have first : ∃ ap : Nat, True := ⟨0, trivial⟩
  go_enter Try.func51, Try.ntmps51
  go_upto_region 1 with fail
  go_cut [] (fun wx => Hid (e.size = n ∧ RowS wx g cap e ∧ Fr (fun k => k = g) w wx))
  case first =>
    have HRv : Hid (d.size = n ∧ RowS w g cap d ∧ Fr (fun k => k = g) w w) := ⟨HN.out, H.out, Fr.refl _ _⟩
    by_cases hpa : a = p
    · subst hpa
      have s0 := HRv.out.2.1.at_ (i := a) (by rw [HRv.out.1]; omega)
      obtain ⟨xa, hxa⟩ : ∃ x, d[a]! = x := ⟨_, rfl⟩
      rw [hxa] at s0
      have z0 := HRv.out.2.1.fz a
      have Hxa := Lib.hid hxa
      clear hxa
      have han9 : (a : Int) < (n : Int) := by omega
      go_region
      all_goals go_wp2
      all_goals go_meet
      all_goals
        have hr := HRv.out.2.1.drew.swp (i := a) (j := a) (by rw [HRv.out.1]; omega) (by rw [HRv.out.1]; omega)
        rw [Hxa.out, HE.out] at hr
        exact ⟨by rw [← HE.out, Sort.size_swp]; exact HN.out, hr, HRv.out.2.2.drew.trans (fr_set2 _ g a a _ _) (fun _ _ h => h)⟩
    · have s0 := HRv.out.2.1.at_ (i := a) (by rw [HRv.out.1]; omega)
      have t0 := HRv.out.2.1.at_ (i := p) (by rw [HRv.out.1]; omega)
      obtain ⟨xa, hxa⟩ : ∃ x, d[a]! = x := ⟨_, rfl⟩
      obtain ⟨xb, hxb⟩ : ∃ x, d[p]! = x := ⟨_, rfl⟩
      rw [hxa] at s0
      rw [hxb] at t0
      have z0 := HRv.out.2.1.fz a
      have z1 := HRv.out.2.1.fz p
      have Hxa := Lib.hid hxa
      have Hxb := Lib.hid hxb
      clear hxa hxb
      have han9 : (a : Int) < (n : Int) := by omega
      have hpn9 : (p : Int) < (n : Int) := by omega
      have ne1 : ¬ a = p := hpa
      have ne2 : ¬ p = a := fun h => hpa h.symm
      go_region
      all_goals go_wp2
      all_goals go_meet
      all_goals
        have hr := HRv.out.2.1.drew.swp (i := a) (j := p) (by rw [HRv.out.1]; omega) (by rw [HRv.out.1]; omega)
        rw [Hxa.out, Hxb.out, HE.out] at hr
        exact ⟨by rw [← HE.out, Sort.size_swp]; exact HN.out, hr, HRv.out.2.2.drew.trans (fr_set2 _ g a p _ _) (fun _ _ h => h)⟩
  obtain ⟨wo, hwo⟩ : ∃ wo : World, wo = wc := ⟨_, rfl⟩
  subst hwo
  have HR := Lib.hid hcut.out
  go_wp2
  obtain ⟨pv, hpv⟩ : ∃ pv, e[a]! = pv := ⟨_, rfl⟩
  have HPV := Lib.hid hpv
  clear hpv
  go_loopw [10] (fun iv wx => ∃ i2 : Nat, iv = .int .i64 i2 ∧ i ≤ i2 ∧ a < i2 ∧ i2 ≤ b ∧ Hid (Sort.scanUp (fun x => Sort.ltInt x e[a]!) e j i2 = Sort.scanUp (fun x => Sort.ltInt x e[a]!) e j i) ∧ Hid (∃ m, wx = wo.drewN m)) (fun i _ => b + 1 - (intOf i).toNat)
  case atStart => exact ⟨i, rfl, Nat.le_refl _, hai, hib, rfl, ⟨0, rfl⟩⟩
  case round =>
    obtain ⟨i2, rfl, hii2, hai2, hib2, hsu, hw⟩ := hrel
    obtain ⟨m, hm⟩ := hw.out
    subst hm
    have HRz : Hid (e.size = n ∧ RowS (wo.drewN m) g cap e ∧ Fr (fun k => k = g) w (wo.drewN m)) := ⟨HR.out.1, HR.out.2.1.drewN m, fr_drewN HR.out.2.2 m⟩
    obtain ⟨wz, hwz⟩ : ∃ wz, wo.drewN m = wz := ⟨_, rfl⟩
    rw [hwz] at HRz
    have HWZ := Lib.hid hwz
    rw [hwz]
    clear hwz
    by_cases hij : i2 ≤ j
    · have x0 := HRz.out.2.1.at_ (i := i2) (by rw [HRz.out.1]; omega)
      have p0 := HRz.out.2.1.at_ (i := a) (by rw [HRz.out.1]; omega)
      obtain ⟨x, hx⟩ : ∃ x, e[i2]! = x := ⟨_, rfl⟩
      rw [hx] at x0
      rw [HPV.out] at p0
      have HX := Lib.hid hx
      clear hx
      have hi2n : (i2 : Int) < (n : Int) := by omega
      have han : (a : Int) < (n : Int) := by omega
      by_cases hxp : x < pv
      · have hlt2 : decide (x < pv) = true := by simpa using hxp
        have HXP := Lib.hid hxp
        go_wp2
        go_quiet (first | (go_at_call 49; refine Calls.quiet_of_same (less_any _ _ _)))
        go_wp2
        go_roundw
        case rel => exact ⟨i2 + 1, by go_num, by omega, by omega, by omega, by show _ = _; rw [← hsu.out, su_step hij (by rw [HX.out, HPV.out]; exact HXP.out)], m + nq, by rw [← HWZ.out, World.drewN_drewN]⟩
        case measure => simp [intOf]; omega
      · have hlt2 : decide (x < pv) = false := by simpa using hxp
        have HST : Hid (Sort.scanUp (fun x => Sort.ltInt x e[a]!) e j i = i2) := by
          show _ = _
          rw [← hsu.out, su_stop (.inr (by rw [HX.out, HPV.out]; exact hxp))]
        clear hxp
        go_wp2
        go_quiet (first | (go_at_call 49; refine Calls.quiet_of_same (less_any _ _ _)))
        go_wp2_with fail
        have HRy : Hid (e.size = n ∧ RowS (wz.drewN nq) g cap e ∧ Fr (fun k => k = g) w (wz.drewN nq)) := ⟨HRz.out.1, HRz.out.2.1.drewN nq, fr_drewN HRz.out.2.2 nq⟩
        obtain ⟨wy, hwy⟩ : ∃ wy, wz.drewN nq = wy := ⟨_, rfl⟩
        rw [hwy] at HRy
        rw [hwy]
        clear hwy HRz x0 p0 HWZ hlt2 hw
        go_loopw [11] (fun jv wx => ∃ j2 : Nat, jv = .int .i64 j2 ∧ a ≤ j2 ∧ j2 < b ∧ j2 ≤ j ∧ Hid (Sort.scanDown (fun x => !Sort.ltInt x e[a]!) e i2 j2 = Sort.scanDown (fun x => !Sort.ltInt x e[a]!) e i2 j) ∧ Hid (∃ m, wx = wy.drewN m)) (fun j _ => (intOf j).toNat)
        case atStart => exact ⟨j, rfl, haj, hjb, Nat.le_refl _, rfl, ⟨0, rfl⟩⟩
        case round =>
          obtain ⟨j2, rfl, haj2, hjb2, hj2j, hsd, hw2⟩ := hrel
          obtain ⟨m2, hm2⟩ := hw2.out
          subst hm2
          have HRz : Hid (e.size = n ∧ RowS (wy.drewN m2) g cap e ∧ Fr (fun k => k = g) w (wy.drewN m2)) := ⟨HRy.out.1, HRy.out.2.1.drewN m2, fr_drewN HRy.out.2.2 m2⟩
          obtain ⟨wu, hwu⟩ : ∃ wu, wy.drewN m2 = wu := ⟨_, rfl⟩
          rw [hwu] at HRz
          have HWU := Lib.hid hwu
          rw [hwu]
          clear hwu
          by_cases hij : i2 ≤ j2
          · have x0 := HRz.out.2.1.at_ (i := j2) (by rw [HRz.out.1]; omega)
            have p0 := HRz.out.2.1.at_ (i := a) (by rw [HRz.out.1]; omega)
            obtain ⟨x, hx⟩ : ∃ x, e[j2]! = x := ⟨_, rfl⟩
            rw [hx] at x0
            rw [HPV.out] at p0
            have HX := Lib.hid hx
            clear hx
            have hj2n : (j2 : Int) < (n : Int) := by omega
            have han : (a : Int) < (n : Int) := by omega
            obtain ⟨k, hk⟩ : ∃ k, j2 - 1 = k := ⟨_, rfl⟩
            have hk1 : (j2 : Int) - 1 = (k : Int) := by omega
            have HK := Lib.hid hk
            clear hk
            by_cases hxp : x < pv
            · have hlt2 : decide (x < pv) = true := by simpa using hxp
              have HSD : Hid (Sort.scanDown (fun x => !Sort.ltInt x e[a]!) e i2 j = j2) := by
                show _ = _
                rw [← hsd.out, sd_stop (.inr (by rw [HX.out, HPV.out]; exact hxp)) (by omega)]
              have hgt2 : decide ((j2 : Int) < (i2 : Int)) = false := by simp; omega
              have hgt3 : decide (j2 < i2) = false := by simp; omega
              go_wp2
              go_quiet (first | (go_at_call 49; refine Calls.quiet_of_same (less_any _ _ _)))
              go_wp2_with fail
              have HRv : Hid (e.size = n ∧ RowS (wu.drewN nq) g cap e ∧ Fr (fun k => k = g) w (wu.drewN nq)) := ⟨HRz.out.1, HRz.out.2.1.drewN nq, fr_drewN HRz.out.2.2 nq⟩
              obtain ⟨wv, hwv⟩ : ∃ wv, wu.drewN nq = wv := ⟨_, rfl⟩
              rw [hwv] at HRv
              rw [hwv]
              clear hwv HRz x0 p0 HWU hw2 hlt2 hxp
              have hle1 : (i2 : Int) ≤ (j2 : Int) := by omega
              obtain ⟨R, hR⟩ : ∃ R, Sort.partLoop Sort.ltInt a (i2 + 1) (j2 - 1) (Sort.swp e i2 j2) = R := ⟨_, rfl⟩
              have hfin : Sort.partition Sort.ltInt d a b p = (R.1, false, Sort.swp R.2 R.1 a) := by
                unfold Sort.partition
                simp only [HE.out, HB1.out, HA1.out, HST.out, HSD.out]
                rw [if_neg (by omega), hR]
              have HFIN := Lib.hid hfin
              have HRR0 := Lib.hid hR
              clear hfin hR
              have hne : ¬ i2 = j2 := by
                intro h
                subst h
                have h1 := su_ends (j := j) (i := i) HST.out (by omega)
                have h2 := sd_ends HSD.out (by omega) (by omega)
                exact h1 h2
              have s0 := HRv.out.2.1.at_ (i := i2) (by rw [HRv.out.1]; omega)
              have t0 := HRv.out.2.1.at_ (i := j2) (by rw [HRv.out.1]; omega)
              obtain ⟨xa, hxa⟩ : ∃ x, e[i2]! = x := ⟨_, rfl⟩
              obtain ⟨xb, hxb⟩ : ∃ x, e[j2]! = x := ⟨_, rfl⟩
              rw [hxa] at s0
              rw [hxb] at t0
              have z0 := HRv.out.2.1.fz i2
              have z1 := HRv.out.2.1.fz j2
              have Hxa := Lib.hid hxa
              have Hxb := Lib.hid hxb
              clear hxa hxb
              have hin9 : (i2 : Int) < (n : Int) := by omega
              have hjn9 : (j2 : Int) < (n : Int) := by omega
              have ne1 : ¬ i2 = j2 := hne
              have ne2 : ¬ j2 = i2 := fun h => hne h.symm
              obtain ⟨l, hl⟩ : ∃ l, i2 + 1 = l := ⟨_, rfl⟩
              have hl1 : (i2 : Int) + 1 = (l : Int) := by omega
              have HL := Lib.hid hl
              clear hl
              go_wp2
              go_region
              all_goals go_wp2
              have HRn : Hid ((Sort.swp e i2 j2).size = n ∧ RowS (((wv.drew).setCell ⟨g, i2, none⟩ (.int .i32 xb)).setCell ⟨g, j2, none⟩ (.int .i32 xa)) g cap (Sort.swp e i2 j2) ∧ Fr (fun k => k = g) w (((wv.drew).setCell ⟨g, i2, none⟩ (.int .i32 xb)).setCell ⟨g, j2, none⟩ (.int .i32 xa))) := by
                have hr := HRv.out.2.1.drew.swp (i := i2) (j := j2) (by rw [HRv.out.1]; omega) (by rw [HRv.out.1]; omega)
                rw [Hxa.out, Hxb.out] at hr
                exact ⟨by rw [Sort.size_swp]; exact HRv.out.1, hr, HRv.out.2.2.drew.trans (fr_set2 _ g i2 j2 _ _) (fun _ _ h => h)⟩
              go_loopw [10, 11] (fun iv jv wx => ∃ (i j : Nat) (e' : Array Int), iv = .int .i64 i ∧ jv = .int .i64 j ∧ a < i ∧ i ≤ b ∧ a ≤ j ∧ j < b ∧ Hid (e'.size = n ∧ RowS wx g cap e' ∧ Fr (fun k => k = g) w wx) ∧ Hid (Sort.partLoop Sort.ltInt a i j e' = R)) (fun i j _ => (intOf j + 2 - intOf i).toNat)
              case atStart => exact ⟨l, k, _, rfl, rfl, by omega, by omega, by have := HK.out; omega, by have := HK.out; omega, HRn, by show _ = _; rw [← HRR0.out, HK.out, HL.out]⟩
              case round =>
                clear HR HRn HRv HPV HST HSD Hxa Hxb HK HL hl1 hk1 HRR0 s0 t0 z0 z1 HE HA1 HB1 hne ne1 ne2 hin9 hjn9 hle1 hai hib haj hjb hi1 hj1
                clear hij hii2 hai2 hib2 haj2 hjb2 hj2j
                obtain ⟨i, j, e, rfl, rfl, hai, hib, haj, hjb, HR, hpl⟩ := hrel
                obtain ⟨wo, hwo⟩ : ∃ wo : World, wo = wr := ⟨_, rfl⟩
                subst hwo
                go_wp2_with fail
                obtain ⟨pv, hpv⟩ : ∃ pv, e[a]! = pv := ⟨_, rfl⟩
                have HPV := Lib.hid hpv
                clear hpv
                go_loopw [10] (fun iv wx => ∃ i2 : Nat, iv = .int .i64 i2 ∧ i ≤ i2 ∧ a < i2 ∧ i2 ≤ b ∧ Hid (Sort.scanUp (fun x => Sort.ltInt x e[a]!) e j i2 = Sort.scanUp (fun x => Sort.ltInt x e[a]!) e j i) ∧ Hid (∃ m, wx = wo.drewN m)) (fun i _ => b + 1 - (intOf i).toNat)
                case atStart => exact ⟨i, rfl, Nat.le_refl _, hai, hib, rfl, ⟨0, rfl⟩⟩
                case round =>
                  obtain ⟨i2, rfl, hii2, hai2, hib2, hsu, hw⟩ := hrel
                  obtain ⟨m, hm⟩ := hw.out
                  subst hm
                  have HRz : Hid (e.size = n ∧ RowS (wo.drewN m) g cap e ∧ Fr (fun k => k = g) w (wo.drewN m)) := ⟨HR.out.1, HR.out.2.1.drewN m, fr_drewN HR.out.2.2 m⟩
                  obtain ⟨wz, hwz⟩ : ∃ wz, wo.drewN m = wz := ⟨_, rfl⟩
                  rw [hwz] at HRz
                  have HWZ := Lib.hid hwz
                  rw [hwz]
                  clear hwz
                  by_cases hij : i2 ≤ j
                  · have x0 := HRz.out.2.1.at_ (i := i2) (by rw [HRz.out.1]; omega)
                    have p0 := HRz.out.2.1.at_ (i := a) (by rw [HRz.out.1]; omega)
                    obtain ⟨x, hx⟩ : ∃ x, e[i2]! = x := ⟨_, rfl⟩
                    rw [hx] at x0
                    rw [HPV.out] at p0
                    have HX := Lib.hid hx
                    clear hx
                    have hi2n : (i2 : Int) < (n : Int) := by omega
                    have han : (a : Int) < (n : Int) := by omega
                    by_cases hxp : x < pv
                    · have hlt2 : decide (x < pv) = true := by simpa using hxp
                      have HXP := Lib.hid hxp
                      go_wp2
                      go_quiet (first | (go_at_call 49; refine Calls.quiet_of_same (less_any _ _ _)))
                      go_wp2
                      go_roundw
                      case rel => exact ⟨i2 + 1, by go_num, by omega, by omega, by omega, by show _ = _; rw [← hsu.out, su_step hij (by rw [HX.out, HPV.out]; exact HXP.out)], m + nq, by rw [← HWZ.out, World.drewN_drewN]⟩
                      case measure => simp [intOf]; omega
                    · have hlt2 : decide (x < pv) = false := by simpa using hxp
                      have HST : Hid (Sort.scanUp (fun x => Sort.ltInt x e[a]!) e j i = i2) := by
                        show _ = _
                        rw [← hsu.out, su_stop (.inr (by rw [HX.out, HPV.out]; exact hxp))]
                      clear hxp
                      go_wp2
                      go_quiet (first | (go_at_call 49; refine Calls.quiet_of_same (less_any _ _ _)))
                      go_wp2_with fail
                      have HRy : Hid (e.size = n ∧ RowS (wz.drewN nq) g cap e ∧ Fr (fun k => k = g) w (wz.drewN nq)) := ⟨HRz.out.1, HRz.out.2.1.drewN nq, fr_drewN HRz.out.2.2 nq⟩
                      obtain ⟨wy, hwy⟩ : ∃ wy, wz.drewN nq = wy := ⟨_, rfl⟩
                      rw [hwy] at HRy
                      rw [hwy]
                      clear hwy HRz x0 p0 HWZ hlt2 hw
                      go_loopw [11] (fun jv wx => ∃ j2 : Nat, jv = .int .i64 j2 ∧ a ≤ j2 ∧ j2 < b ∧ j2 ≤ j ∧ Hid (Sort.scanDown (fun x => !Sort.ltInt x e[a]!) e i2 j2 = Sort.scanDown (fun x => !Sort.ltInt x e[a]!) e i2 j) ∧ Hid (∃ m, wx = wy.drewN m)) (fun j _ => (intOf j).toNat)
                      case atStart => exact ⟨j, rfl, haj, hjb, Nat.le_refl _, rfl, ⟨0, rfl⟩⟩
                      case round =>
                        obtain ⟨j2, rfl, haj2, hjb2, hj2j, hsd, hw2⟩ := hrel
                        obtain ⟨m2, hm2⟩ := hw2.out
                        subst hm2
                        have HRz : Hid (e.size = n ∧ RowS (wy.drewN m2) g cap e ∧ Fr (fun k => k = g) w (wy.drewN m2)) := ⟨HRy.out.1, HRy.out.2.1.drewN m2, fr_drewN HRy.out.2.2 m2⟩
                        obtain ⟨wu, hwu⟩ : ∃ wu, wy.drewN m2 = wu := ⟨_, rfl⟩
                        rw [hwu] at HRz
                        have HWU := Lib.hid hwu
                        rw [hwu]
                        clear hwu
                        by_cases hij : i2 ≤ j2
                        · have x0 := HRz.out.2.1.at_ (i := j2) (by rw [HRz.out.1]; omega)
                          have p0 := HRz.out.2.1.at_ (i := a) (by rw [HRz.out.1]; omega)
                          obtain ⟨x, hx⟩ : ∃ x, e[j2]! = x := ⟨_, rfl⟩
                          rw [hx] at x0
                          rw [HPV.out] at p0
                          have HX := Lib.hid hx
                          clear hx
                          have hj2n : (j2 : Int) < (n : Int) := by omega
                          have han : (a : Int) < (n : Int) := by omega
                          obtain ⟨k, hk⟩ : ∃ k, j2 - 1 = k := ⟨_, rfl⟩
                          have hk1 : (j2 : Int) - 1 = (k : Int) := by omega
                          have HK := Lib.hid hk
                          clear hk
                          by_cases hxp : x < pv
                          · have hlt2 : decide (x < pv) = true := by simpa using hxp
                            have HSD : Hid (Sort.scanDown (fun x => !Sort.ltInt x e[a]!) e i2 j = j2) := by
                              show _ = _
                              rw [← hsd.out, sd_stop (.inr (by rw [HX.out, HPV.out]; exact hxp)) (by omega)]
                            have hgt2 : decide ((j2 : Int) < (i2 : Int)) = false := by simp; omega
                            have hgt3 : decide (j2 < i2) = false := by simp; omega
                            go_wp2
                            go_quiet (first | (go_at_call 49; refine Calls.quiet_of_same (less_any _ _ _)))
                            go_wp2_with fail
                            have HRv : Hid (e.size = n ∧ RowS (wu.drewN nq) g cap e ∧ Fr (fun k => k = g) w (wu.drewN nq)) := ⟨HRz.out.1, HRz.out.2.1.drewN nq, fr_drewN HRz.out.2.2 nq⟩
                            obtain ⟨wv, hwv⟩ : ∃ wv, wu.drewN nq = wv := ⟨_, rfl⟩
                            rw [hwv] at HRv
                            rw [hwv]
                            clear hwv HRz x0 p0 HWU hw2 hlt2 hxp
                            have hle1 : (i2 : Int) ≤ (j2 : Int) := by omega
                            have hne : ¬ i2 = j2 := by
                              intro h
                              subst h
                              have h1 := su_ends (j := j) (i := i) HST.out (by omega)
                              have h2 := sd_ends HSD.out (by omega) (by omega)
                              exact h1 h2
                            have s0 := HRv.out.2.1.at_ (i := i2) (by rw [HRv.out.1]; omega)
                            have t0 := HRv.out.2.1.at_ (i := j2) (by rw [HRv.out.1]; omega)
                            obtain ⟨xa, hxa⟩ : ∃ x, e[i2]! = x := ⟨_, rfl⟩
                            obtain ⟨xb, hxb⟩ : ∃ x, e[j2]! = x := ⟨_, rfl⟩
                            rw [hxa] at s0
                            rw [hxb] at t0
                            have z0 := HRv.out.2.1.fz i2
                            have z1 := HRv.out.2.1.fz j2
                            have Hxa := Lib.hid hxa
                            have Hxb := Lib.hid hxb
                            clear hxa hxb
                            have hin9 : (i2 : Int) < (n : Int) := by omega
                            have hjn9 : (j2 : Int) < (n : Int) := by omega
                            have ne1 : ¬ i2 = j2 := hne
                            have ne2 : ¬ j2 = i2 := fun h => hne h.symm
                            obtain ⟨l, hl⟩ : ∃ l, i2 + 1 = l := ⟨_, rfl⟩
                            have hl1 : (i2 : Int) + 1 = (l : Int) := by omega
                            have HL := Lib.hid hl
                            clear hl
                            go_wp2
                            go_region
                            all_goals go_wp2
                            all_goals go_roundw
                            case rel =>
                              have HRn : Hid ((Sort.swp e i2 j2).size = n ∧ RowS (((wv.drew).setCell ⟨g, i2, none⟩ (.int .i32 xb)).setCell ⟨g, j2, none⟩ (.int .i32 xa)) g cap (Sort.swp e i2 j2) ∧ Fr (fun k => k = g) w (((wv.drew).setCell ⟨g, i2, none⟩ (.int .i32 xb)).setCell ⟨g, j2, none⟩ (.int .i32 xa))) := by
                                have hr := HRv.out.2.1.drew.swp (i := i2) (j := j2) (by rw [HRv.out.1]; omega) (by rw [HRv.out.1]; omega)
                                rw [Hxa.out, Hxb.out] at hr
                                exact ⟨by rw [Sort.size_swp]; exact HRv.out.1, hr, HRv.out.2.2.drew.trans (fr_set2 _ g i2 j2 _ _) (fun _ _ h => h)⟩
                              refine ⟨l, k, _, rfl, rfl, by omega, by omega, by have := HK.out; omega, by have := HK.out; omega, HRn, ?_⟩
                              show _ = _
                              rw [← hpl.out, Sort.partLoop_eq _ a i j e, HST.out, HSD.out, if_neg (by omega), HK.out, HL.out]
                            case measure => have := HK.out; simp [intOf]; omega
                          · have hlt2 : decide (x < pv) = false := by simpa using hxp
                            have HXP := Lib.hid hxp
                            clear hxp
                            go_wp2
                            go_quiet (first | (go_at_call 49; refine Calls.quiet_of_same (less_any _ _ _)))
                            go_wp2
                            go_roundw
                            case rel => exact ⟨k, rfl, by have := HK.out; omega, by omega, by omega, by show _ = _; rw [← hsd.out, sd_step HK.out (by omega) hij (by rw [HX.out, HPV.out]; have := HXP.out; omega)], m2 + nq, by rw [← HWU.out, World.drewN_drewN]⟩
                            case measure => have := HK.out; simp [intOf]; omega
                        · have hij2 : decide ((i2 : Int) ≤ (j2 : Int)) = false := by simp; omega
                          have hij3 : decide (i2 ≤ j2) = false := by simp; omega
                          have HSD : Hid (Sort.scanDown (fun x => !Sort.ltInt x e[a]!) e i2 j = j2) := by
                            show _ = _
                            rw [← hsd.out, sd_stop (.inl hij) (by omega)]
                          go_wp2
                          go_quiet (fail)
                          go_wp2_with fail
                          have HRv : Hid (e.size = n ∧ RowS (wu.drewN nq) g cap e ∧ Fr (fun k => k = g) w (wu.drewN nq)) := ⟨HRz.out.1, HRz.out.2.1.drewN nq, fr_drewN HRz.out.2.2 nq⟩
                          obtain ⟨wv, hwv⟩ : ∃ wv, wu.drewN nq = wv := ⟨_, rfl⟩
                          rw [hwv] at HRv
                          rw [hwv]
                          clear hwv HRz HWU hw2 hij2 hij3
                          have hgt1 : (j2 : Int) < (i2 : Int) := by omega
                          have hRR : R = (j2, e) := by
                            rw [← hpl.out, Sort.partLoop_eq, HST.out, HSD.out, if_pos (by omega)]
                          have HRR := Lib.hid hRR
                          clear hRR
                          by_cases hja : j2 = a
                          · obtain rfl : a = j2 := hja.symm
                            have s0 := HRv.out.2.1.at_ (i := a) (by rw [HRv.out.1]; omega)
                            obtain ⟨xa, hxa⟩ : ∃ x, e[a]! = x := ⟨_, rfl⟩
                            rw [hxa] at s0
                            have z0 := HRv.out.2.1.fz a
                            have Hxa := Lib.hid hxa
                            clear hxa
                            have han9 : (a : Int) < (n : Int) := by omega
                            go_wp2
                            go_region
                            all_goals go_wp2
                            all_goals go_ret2
                            all_goals
                              have hr := HRv.out.2.1.drew.swp (i := a) (j := a) (by rw [HRv.out.1]; omega) (by rw [HRv.out.1]; omega)
                              rw [Hxa.out] at hr
                              rw [HFIN.out, HRR.out]
                              exact ⟨a, false, rfl, ⟨rfl, rfl⟩, hr, HRv.out.2.2.drew.trans (fr_set2 _ g a a _ _) (fun _ _ h => h)⟩
                          · have s0 := HRv.out.2.1.at_ (i := j2) (by rw [HRv.out.1]; omega)
                            have t0 := HRv.out.2.1.at_ (i := a) (by rw [HRv.out.1]; omega)
                            obtain ⟨xa, hxa⟩ : ∃ x, e[j2]! = x := ⟨_, rfl⟩
                            obtain ⟨xb, hxb⟩ : ∃ x, e[a]! = x := ⟨_, rfl⟩
                            rw [hxa] at s0
                            rw [hxb] at t0
                            have z0 := HRv.out.2.1.fz j2
                            have z1 := HRv.out.2.1.fz a
                            have Hxa := Lib.hid hxa
                            have Hxb := Lib.hid hxb
                            clear hxa hxb
                            have han9 : (a : Int) < (n : Int) := by omega
                            have hjn9 : (j2 : Int) < (n : Int) := by omega
                            have ne1 : ¬ j2 = a := hja
                            have ne2 : ¬ a = j2 := fun h => hja h.symm
                            go_wp2
                            go_region
                            all_goals go_wp2
                            all_goals go_ret2
                            all_goals
                              have hr := HRv.out.2.1.drew.swp (i := j2) (j := a) (by rw [HRv.out.1]; omega) (by rw [HRv.out.1]; omega)
                              rw [Hxa.out, Hxb.out] at hr
                              rw [HFIN.out, HRR.out]
                              exact ⟨j2, false, rfl, ⟨rfl, rfl⟩, hr, HRv.out.2.2.drew.trans (fr_set2 _ g j2 a _ _) (fun _ _ h => h)⟩
                  · have hju := hij
                    have hij2 : decide ((i2 : Int) ≤ (j : Int)) = false := by simp; omega
                    have hij3 : decide (i2 ≤ j) = false := by simp; omega
                    have HST : Hid (Sort.scanUp (fun x => Sort.ltInt x e[a]!) e j i = i2) := by
                      show _ = _
                      rw [← hsu.out, su_stop (.inl hij)]
                    go_wp2
                    go_quiet (fail)
                    go_wp2_with fail
                    have HRy : Hid (e.size = n ∧ RowS (wz.drewN nq) g cap e ∧ Fr (fun k => k = g) w (wz.drewN nq)) := ⟨HRz.out.1, HRz.out.2.1.drewN nq, fr_drewN HRz.out.2.2 nq⟩
                    obtain ⟨wy, hwy⟩ : ∃ wy, wz.drewN nq = wy := ⟨_, rfl⟩
                    rw [hwy] at HRy
                    rw [hwy]
                    clear hwy HRz HWZ hij2 hij3 hw hij
                    go_loopw [11] (fun jv wx => ∃ j2 : Nat, jv = .int .i64 j2 ∧ a ≤ j2 ∧ j2 < b ∧ j2 ≤ j ∧ Hid (Sort.scanDown (fun x => !Sort.ltInt x e[a]!) e i2 j2 = Sort.scanDown (fun x => !Sort.ltInt x e[a]!) e i2 j) ∧ Hid (∃ m, wx = wy.drewN m)) (fun j _ => (intOf j).toNat)
                    case atStart => exact ⟨j, rfl, haj, hjb, Nat.le_refl _, rfl, ⟨0, rfl⟩⟩
                    case round =>
                      obtain ⟨j2, rfl, haj2, hjb2, hj2j, hsd, hw2⟩ := hrel
                      obtain ⟨m2, hm2⟩ := hw2.out
                      subst hm2
                      have HRz : Hid (e.size = n ∧ RowS (wy.drewN m2) g cap e ∧ Fr (fun k => k = g) w (wy.drewN m2)) := ⟨HRy.out.1, HRy.out.2.1.drewN m2, fr_drewN HRy.out.2.2 m2⟩
                      obtain ⟨wu, hwu⟩ : ∃ wu, wy.drewN m2 = wu := ⟨_, rfl⟩
                      rw [hwu] at HRz
                      have HWU := Lib.hid hwu
                      rw [hwu]
                      clear hwu
                      by_cases hij : i2 ≤ j2
                      · exfalso
                        omega
                      · have hij2 : decide ((i2 : Int) ≤ (j2 : Int)) = false := by simp; omega
                        have hij3 : decide (i2 ≤ j2) = false := by simp; omega
                        have HSD : Hid (Sort.scanDown (fun x => !Sort.ltInt x e[a]!) e i2 j = j2) := by
                          show _ = _
                          rw [← hsd.out, sd_stop (.inl hij) (by omega)]
                        go_wp2
                        go_quiet (fail)
                        go_wp2_with fail
                        have HRv : Hid (e.size = n ∧ RowS (wu.drewN nq) g cap e ∧ Fr (fun k => k = g) w (wu.drewN nq)) := ⟨HRz.out.1, HRz.out.2.1.drewN nq, fr_drewN HRz.out.2.2 nq⟩
                        obtain ⟨wv, hwv⟩ : ∃ wv, wu.drewN nq = wv := ⟨_, rfl⟩
                        rw [hwv] at HRv
                        rw [hwv]
                        clear hwv HRz HWU hw2 hij2 hij3
                        have hgt1 : (j2 : Int) < (i2 : Int) := by omega
                        have hRR : R = (j2, e) := by
                          rw [← hpl.out, Sort.partLoop_eq, HST.out, HSD.out, if_pos (by omega)]
                        have HRR := Lib.hid hRR
                        clear hRR
                        by_cases hja : j2 = a
                        · obtain rfl : a = j2 := hja.symm
                          have s0 := HRv.out.2.1.at_ (i := a) (by rw [HRv.out.1]; omega)
                          obtain ⟨xa, hxa⟩ : ∃ x, e[a]! = x := ⟨_, rfl⟩
                          rw [hxa] at s0
                          have z0 := HRv.out.2.1.fz a
                          have Hxa := Lib.hid hxa
                          clear hxa
                          have han9 : (a : Int) < (n : Int) := by omega
                          go_wp2
                          go_region
                          all_goals go_wp2
                          all_goals go_ret2
                          all_goals
                            have hr := HRv.out.2.1.drew.swp (i := a) (j := a) (by rw [HRv.out.1]; omega) (by rw [HRv.out.1]; omega)
                            rw [Hxa.out] at hr
                            rw [HFIN.out, HRR.out]
                            exact ⟨a, false, rfl, ⟨rfl, rfl⟩, hr, HRv.out.2.2.drew.trans (fr_set2 _ g a a _ _) (fun _ _ h => h)⟩
                        · have s0 := HRv.out.2.1.at_ (i := j2) (by rw [HRv.out.1]; omega)
                          have t0 := HRv.out.2.1.at_ (i := a) (by rw [HRv.out.1]; omega)
                          obtain ⟨xa, hxa⟩ : ∃ x, e[j2]! = x := ⟨_, rfl⟩
                          obtain ⟨xb, hxb⟩ : ∃ x, e[a]! = x := ⟨_, rfl⟩
                          rw [hxa] at s0
                          rw [hxb] at t0
                          have z0 := HRv.out.2.1.fz j2
                          have z1 := HRv.out.2.1.fz a
                          have Hxa := Lib.hid hxa
                          have Hxb := Lib.hid hxb
                          clear hxa hxb
                          have han9 : (a : Int) < (n : Int) := by omega
                          have hjn9 : (j2 : Int) < (n : Int) := by omega
                          have ne1 : ¬ j2 = a := hja
                          have ne2 : ¬ a = j2 := fun h => hja h.symm
                          go_wp2
                          go_region
                          all_goals go_wp2
                          all_goals go_ret2
                          all_goals
                            have hr := HRv.out.2.1.drew.swp (i := j2) (j := a) (by rw [HRv.out.1]; omega) (by rw [HRv.out.1]; omega)
                            rw [Hxa.out, Hxb.out] at hr
                            rw [HFIN.out, HRR.out]
                            exact ⟨j2, false, rfl, ⟨rfl, rfl⟩, hr, HRv.out.2.2.drew.trans (fr_set2 _ g j2 a _ _) (fun _ _ h => h)⟩
            · have hlt2 : decide (x < pv) = false := by simpa using hxp
              have HXP := Lib.hid hxp
              clear hxp
              go_wp2
              go_quiet (first | (go_at_call 49; refine Calls.quiet_of_same (less_any _ _ _)))
              go_wp2
              go_roundw
              case rel => exact ⟨k, rfl, by have := HK.out; omega, by omega, by omega, by show _ = _; rw [← hsd.out, sd_step HK.out (by omega) hij (by rw [HX.out, HPV.out]; have := HXP.out; omega)], m2 + nq, by rw [← HWU.out, World.drewN_drewN]⟩
              case measure => have := HK.out; simp [intOf]; omega
          · have hij2 : decide ((i2 : Int) ≤ (j2 : Int)) = false := by simp; omega
            have hij3 : decide (i2 ≤ j2) = false := by simp; omega
            have HSD : Hid (Sort.scanDown (fun x => !Sort.ltInt x e[a]!) e i2 j = j2) := by
              show _ = _
              rw [← hsd.out, sd_stop (.inl hij) (by omega)]
            go_wp2
            go_quiet (fail)
            go_wp2_with fail
            have HRv : Hid (e.size = n ∧ RowS (wu.drewN nq) g cap e ∧ Fr (fun k => k = g) w (wu.drewN nq)) := ⟨HRz.out.1, HRz.out.2.1.drewN nq, fr_drewN HRz.out.2.2 nq⟩
            obtain ⟨wv, hwv⟩ : ∃ wv, wu.drewN nq = wv := ⟨_, rfl⟩
            rw [hwv] at HRv
            rw [hwv]
            clear hwv HRz HWU hw2 hij2 hij3
            have hgt1 : (j2 : Int) < (i2 : Int) := by omega
            have hfin : Sort.partition Sort.ltInt d a b p = (j2, true, Sort.swp e j2 a) := by
              unfold Sort.partition
              simp only [HE.out, HB1.out, HA1.out, HST.out, HSD.out]
              rw [if_pos (by omega)]
            have HFIN := Lib.hid hfin
            clear hfin
            by_cases hja : j2 = a
            · obtain rfl : a = j2 := hja.symm
              have s0 := HRv.out.2.1.at_ (i := a) (by rw [HRv.out.1]; omega)
              obtain ⟨xa, hxa⟩ : ∃ x, e[a]! = x := ⟨_, rfl⟩
              rw [hxa] at s0
              have z0 := HRv.out.2.1.fz a
              have Hxa := Lib.hid hxa
              clear hxa
              have han9 : (a : Int) < (n : Int) := by omega
              go_wp2
              go_region
              all_goals go_wp2
              all_goals go_ret2
              all_goals
                have hr := HRv.out.2.1.drew.swp (i := a) (j := a) (by rw [HRv.out.1]; omega) (by rw [HRv.out.1]; omega)
                rw [Hxa.out] at hr
                rw [HFIN.out]
                exact ⟨a, true, rfl, ⟨rfl, rfl⟩, hr, HRv.out.2.2.drew.trans (fr_set2 _ g a a _ _) (fun _ _ h => h)⟩
            · have s0 := HRv.out.2.1.at_ (i := j2) (by rw [HRv.out.1]; omega)
              have t0 := HRv.out.2.1.at_ (i := a) (by rw [HRv.out.1]; omega)
              obtain ⟨xa, hxa⟩ : ∃ x, e[j2]! = x := ⟨_, rfl⟩
              obtain ⟨xb, hxb⟩ : ∃ x, e[a]! = x := ⟨_, rfl⟩
              rw [hxa] at s0
              rw [hxb] at t0
              have z0 := HRv.out.2.1.fz j2
              have z1 := HRv.out.2.1.fz a
              have Hxa := Lib.hid hxa
              have Hxb := Lib.hid hxb
              clear hxa hxb
              have han9 : (a : Int) < (n : Int) := by omega
              have hjn9 : (j2 : Int) < (n : Int) := by omega
              have ne1 : ¬ j2 = a := hja
              have ne2 : ¬ a = j2 := fun h => hja h.symm
              go_wp2
              go_region
              all_goals go_wp2
              all_goals go_ret2
              all_goals
                have hr := HRv.out.2.1.drew.swp (i := j2) (j := a) (by rw [HRv.out.1]; omega) (by rw [HRv.out.1]; omega)
                rw [Hxa.out, Hxb.out] at hr
                rw [HFIN.out]
                exact ⟨j2, true, rfl, ⟨rfl, rfl⟩, hr, HRv.out.2.2.drew.trans (fr_set2 _ g j2 a _ _) (fun _ _ h => h)⟩
    · have hju := hij
      have hij2 : decide ((i2 : Int) ≤ (j : Int)) = false := by simp; omega
      have hij3 : decide (i2 ≤ j) = false := by simp; omega
      have HST : Hid (Sort.scanUp (fun x => Sort.ltInt x e[a]!) e j i = i2) := by
        show _ = _
        rw [← hsu.out, su_stop (.inl hij)]
      go_wp2
      go_quiet (fail)
      go_wp2_with fail
      have HRy : Hid (e.size = n ∧ RowS (wz.drewN nq) g cap e ∧ Fr (fun k => k = g) w (wz.drewN nq)) := ⟨HRz.out.1, HRz.out.2.1.drewN nq, fr_drewN HRz.out.2.2 nq⟩
      obtain ⟨wy, hwy⟩ : ∃ wy, wz.drewN nq = wy := ⟨_, rfl⟩
      rw [hwy] at HRy
      rw [hwy]
      clear hwy HRz HWZ hij2 hij3 hw hij
      go_loopw [11] (fun jv wx => ∃ j2 : Nat, jv = .int .i64 j2 ∧ a ≤ j2 ∧ j2 < b ∧ j2 ≤ j ∧ Hid (Sort.scanDown (fun x => !Sort.ltInt x e[a]!) e i2 j2 = Sort.scanDown (fun x => !Sort.ltInt x e[a]!) e i2 j) ∧ Hid (∃ m, wx = wy.drewN m)) (fun j _ => (intOf j).toNat)
      case atStart => exact ⟨j, rfl, haj, hjb, Nat.le_refl _, rfl, ⟨0, rfl⟩⟩
      case round =>
        obtain ⟨j2, rfl, haj2, hjb2, hj2j, hsd, hw2⟩ := hrel
        obtain ⟨m2, hm2⟩ := hw2.out
        subst hm2
        have HRz : Hid (e.size = n ∧ RowS (wy.drewN m2) g cap e ∧ Fr (fun k => k = g) w (wy.drewN m2)) := ⟨HRy.out.1, HRy.out.2.1.drewN m2, fr_drewN HRy.out.2.2 m2⟩
        obtain ⟨wu, hwu⟩ : ∃ wu, wy.drewN m2 = wu := ⟨_, rfl⟩
        rw [hwu] at HRz
        have HWU := Lib.hid hwu
        rw [hwu]
        clear hwu
        by_cases hij : i2 ≤ j2
        · exfalso
          omega
        · have hij2 : decide ((i2 : Int) ≤ (j2 : Int)) = false := by simp; omega
          have hij3 : decide (i2 ≤ j2) = false := by simp; omega
          have HSD : Hid (Sort.scanDown (fun x => !Sort.ltInt x e[a]!) e i2 j = j2) := by
            show _ = _
            rw [← hsd.out, sd_stop (.inl hij) (by omega)]
          go_wp2
          go_quiet (fail)
          go_wp2_with fail
          have HRv : Hid (e.size = n ∧ RowS (wu.drewN nq) g cap e ∧ Fr (fun k => k = g) w (wu.drewN nq)) := ⟨HRz.out.1, HRz.out.2.1.drewN nq, fr_drewN HRz.out.2.2 nq⟩
          obtain ⟨wv, hwv⟩ : ∃ wv, wu.drewN nq = wv := ⟨_, rfl⟩
          rw [hwv] at HRv
          rw [hwv]
          clear hwv HRz HWU hw2 hij2 hij3
          have hgt1 : (j2 : Int) < (i2 : Int) := by omega
          have hfin : Sort.partition Sort.ltInt d a b p = (j2, true, Sort.swp e j2 a) := by
            unfold Sort.partition
            simp only [HE.out, HB1.out, HA1.out, HST.out, HSD.out]
            rw [if_pos (by omega)]
          have HFIN := Lib.hid hfin
          clear hfin
          by_cases hja : j2 = a
          · obtain rfl : a = j2 := hja.symm
            have s0 := HRv.out.2.1.at_ (i := a) (by rw [HRv.out.1]; omega)
            obtain ⟨xa, hxa⟩ : ∃ x, e[a]! = x := ⟨_, rfl⟩
            rw [hxa] at s0
            have z0 := HRv.out.2.1.fz a
            have Hxa := Lib.hid hxa
            clear hxa
            have han9 : (a : Int) < (n : Int) := by omega
            go_wp2
            go_region
            all_goals go_wp2
            all_goals go_ret2
            all_goals
              have hr := HRv.out.2.1.drew.swp (i := a) (j := a) (by rw [HRv.out.1]; omega) (by rw [HRv.out.1]; omega)
              rw [Hxa.out] at hr
              rw [HFIN.out]
              exact ⟨a, true, rfl, ⟨rfl, rfl⟩, hr, HRv.out.2.2.drew.trans (fr_set2 _ g a a _ _) (fun _ _ h => h)⟩
          · have s0 := HRv.out.2.1.at_ (i := j2) (by rw [HRv.out.1]; omega)
            have t0 := HRv.out.2.1.at_ (i := a) (by rw [HRv.out.1]; omega)
            obtain ⟨xa, hxa⟩ : ∃ x, e[j2]! = x := ⟨_, rfl⟩
            obtain ⟨xb, hxb⟩ : ∃ x, e[a]! = x := ⟨_, rfl⟩
            rw [hxa] at s0
            rw [hxb] at t0
            have z0 := HRv.out.2.1.fz j2
            have z1 := HRv.out.2.1.fz a
            have Hxa := Lib.hid hxa
            have Hxb := Lib.hid hxb
            clear hxa hxb
            have han9 : (a : Int) < (n : Int) := by omega
            have hjn9 : (j2 : Int) < (n : Int) := by omega
            have ne1 : ¬ j2 = a := hja
            have ne2 : ¬ a = j2 := fun h => hja h.symm
            go_wp2
            go_region
            all_goals go_wp2
            all_goals go_ret2
            all_goals
              have hr := HRv.out.2.1.drew.swp (i := j2) (j := a) (by rw [HRv.out.1]; omega) (by rw [HRv.out.1]; omega)
              rw [Hxa.out, Hxb.out] at hr
              rw [HFIN.out]
              exact ⟨j2, true, rfl, ⟨rfl, rfl⟩, hr, HRv.out.2.2.drew.trans (fr_set2 _ g j2 a _ _) (fun _ _ h => h)⟩
end Go.Proofs.Ytbgbhlnidabhnaa.U
