/-
  The program's reader: numbers, counts.
-/
import Derived.Test.YtkjiobbkbhmijaaREnd
namespace Go.Proofs.Ytkjiobbkbhmijaa.U
open Go.RowKit
set_option linter.unusedVariables false
set_option linter.unusedSimpArgs false
set_option maxRecDepth 100000

/-- a number that is read: never above 101 -/
theorem num_bound : ∀ (l : List Int) (a : Int), 0 ≤ a → a ≤ 101 → 0 ≤ (num a l).1 ∧ (num a l).1 ≤ 101
  | [], a, h1, h2 => ⟨h1, h2⟩
  | c :: l, a, h1, h2 => by
    unfold num
    split
    · rename_i hd
      simp only [dig, decide_eq_true_eq] at hd
      exact num_bound l _ (by omega) (by omega)
    · exact ⟨h1, h2⟩
/-- where a reader stands -/
def atN (w : World) (br : Nat) : Nat := match w.cell? ⟨br, 1, none⟩ with
  | some (.int _ n) => n.toNat
  | _ => 0
theorem RdS.atN {w : World} {br : Nat} {p l : List Int} {n o : Nat} (h : RdS w br p l n o) : atN w br = p.length - l.length := by
  obtain ⟨a, cap, i, e0, e1, e2, e3, fz, hr, hin, hd, hi, hn, hp, ho⟩ := h.cells
  have : l.length = p.length - i := by rw [hd]; simp
  unfold U.atN
  rw [e1]
  simp
  omega
set_option maxHeartbeats 2000000 in
theorem number_any (br : Nat) (p l : List Int) (n o : Nat) (w : World) (h : RdS w br p l n o) :
    Calls Try.prog 54 #[.pointer (some ⟨br, 0, none⟩)] w fun e w' => e = .returned (.tuple #[.int .i64 (num 0 l).1, .bool (hasD l)]) ∧ RdS w' br p (num 0 l).2 n o ∧ Fr (· = br) w w' := by
  have hlt := h.lt
  have H := Lib.hid h
  clear h
  go_enter Try.func54, Try.ntmps54
  go_wp2_with fail
  go_loopw [2, 3] (fun v2 v3 wr => ∃ (a : Int) (l1 : List Int) (ok : Bool), v2 = .int .i64 a ∧ v3 = .bool ok ∧ 0 ≤ a ∧ a ≤ 101 ∧ Hid (RdS wr br p l1 n o ∧ Fr (· = br) w wr ∧ num a l1 = num 0 l ∧ (ok || hasD l1) = hasD l)) (fun _ _ wr => p.length - atN wr br)
  case atStart => exact ⟨0, l, false, rfl, rfl, by omega, by omega, H.out, Fr.refl _ _, rfl, rfl⟩
  case round =>
    obtain ⟨a, l1, ok, rfl, rfl, ha0, ha1, HR⟩ := hrel
    have hq := HR.out.1
    obtain ⟨pa, cap, i, e0, e1, e2, e3, fz, hr, hin, hd, hi, hn, hp, ho⟩ := hq.cells
    have hsm := hr.small
    have hll : l1.length = p.length - i := by rw [hd]; simp
    obtain ⟨q, hqq⟩ : ∃ q, p.length = q := ⟨_, rfl⟩
    match l1, hd, hll, HR, hq with
    | [], hd, hll, HR, hq =>
      simp only [List.length_nil] at hll
      have hiq : i = q := by omega
      rw [hqq, ← hiq] at e0
      have HL := Lib.hid hll
      have hil : ¬ (i : Int) < (i : Int) := by omega
      have hil2 : decide ((i : Int) < (i : Int)) = false := by simp
      clear hr hin hd fz hll hqq hiq hi hn hp ho hq hsm
      go_upto_region 1 with fail
      go_cut [39] from 4 to 47 (fun v wx => v = .bool false ∧ Hid (Below wr.heap.size wr wx))
      case first =>
        go_region
        all_goals go_wp2
        all_goals go_meet
        all_goals exact ⟨rfl, by first | exact Below.refl _ _ | exact (Below.refl _ _).drew⟩
      case rest =>
      obtain ⟨rfl, hcb⟩ := hcut
      go_wp2
      refine bodyPost_ret (v := .tuple #[.int .i64 a, .bool ok]) ?_ rfl ?_
      · rw [results_tmp2 rfl]; rfl
      have h3 := HR.out.2.2.1
      have h4 := HR.out.2.2.2
      refine ⟨?_, ?_, HR.out.2.1.trans (Fr.of_below _ hcb.out) (fun _ _ h => h)⟩
      · rw [← h3, ← h4]
        simp [num, hasD]
      · rw [← h3]
        exact HR.out.1.below hcb.out
    | c :: l2, hd, hll, HR, hq =>
      obtain ⟨hil, hc, hl⟩ := drop_cons hd
      obtain ⟨b, off, rfl, hbl, hcell⟩ := hr.at_ hil
      rw [hc] at hcell
      have hci := hr.i32 i
      rw [hc] at hci
      obtain ⟨hc0, hc1⟩ := hci
      rw [hqq] at e0 hil
      have hiq : (i : Int) < (q : Int) := by omega
      have hiq2 : decide ((i : Int) < (q : Int)) = true := by simp; omega
      by_cases hdg : dig c = true
      · simp only [dig, decide_eq_true_eq] at hdg
        obtain ⟨hd0, hd1⟩ := hdg
        have k0 : decide ((48 : Int) ≤ c) = true := by simp; omega
        have k1 : decide (c ≤ (57 : Int)) = true := by simp; omega
        have hnum : num a (c :: l2) = num (min (a * 10 + (c - 48)) 101) l2 := by rw [num, if_pos (by simp [dig]; omega)]
        obtain ⟨a2, ha2⟩ : ∃ a2, min (a * 10 + (c - 48)) 101 = a2 := ⟨_, rfl⟩
        rw [ha2] at hnum
        have hb0 : 0 ≤ a2 ∧ a2 ≤ 101 := by omega
        have HNUM := Lib.hid hnum
        have HHD : Hid (hasD (c :: l2) = true) := by show _ = _; simp [hasD, dig]; omega
        clear hr hin hd fz hll hqq hi hn hp ho hsm hc hl hnum hq
        have HC := Lib.hid hcell
        have HE0 := Lib.hid e0
        have HE1 := Lib.hid e1
        go_upto_region 1 with fail
        go_cut [39] from 4 to 47 (fun v wx => v = .bool true ∧ Hid (Below wr.heap.size wr wx))
        case first =>
          go_quiet (fail)
          go_wp2
          go_meet
          exact ⟨rfl, by first | exact Below.refl _ _ | exact bdrewN (Below.refl _ _) _⟩
        case rest =>
        obtain ⟨rfl, hcb⟩ := hcut
        go_wp2_with (go_at_call 49; refine (next_any br p l2 c n o _ (HR.out.1.below hcb.out)).mono ?_; rintro e w1 ⟨rfl, h1, hf1⟩; have HN1 : Hid (RdS w1 br p l2 n o ∧ Fr (· = br) w w1) := ⟨h1, (HR.out.2.1.trans (Fr.of_below _ hcb.out) (fun _ _ h => h)).trans hf1 (fun _ _ h => h)⟩; clear h1 hf1)
        refine ⟨⟨a2, l2, true, ?_, rfl, hb0.1, hb0.2, HN1.out.1, HN1.out.2, HNUM.out.symm.trans HR.out.2.2.1, ?_⟩, ?_⟩
        · rw [← ha2]
          split <;> (congr 1; omega)
        · have := HR.out.2.2.2
          rw [HHD.out] at this
          simpa using this
        · rw [HN1.out.1.atN, HR.out.1.atN]
          have := HR.out.1.len
          simp only [List.length_cons] at this ⊢
          omega
      · have hdf : dig c = false := by simpa using hdg
        have hnum : num a (c :: l2) = (a, c :: l2) := by rw [num, hdf]; rfl
        have hhd : hasD (c :: l2) = false := hdf
        simp only [dig, decide_eq_true_eq] at hdg
        have HNUM := Lib.hid hnum
        have HHD := Lib.hid hhd
        clear hr hin hd fz hll hqq hi hn hp ho hsm hc hl hnum hq hhd hdf
        go_upto_region 1 with fail
        go_cut [39] from 4 to 47 (fun v wx => v = .bool false ∧ Hid (Below wr.heap.size wr wx))
        case first =>
          by_cases h48 : 48 ≤ c
          · have k0 : decide ((48 : Int) ≤ c) = true := by simp; omega
            have k1 : decide (c ≤ (57 : Int)) = false := by simp; omega
            have k2 : ¬ c ≤ 57 := by omega
            clear hdg
            go_quiet (fail)
            go_wp2
            go_meet
            exact ⟨rfl, by first | exact Below.refl _ _ | exact bdrewN (Below.refl _ _) _⟩
          · have k0 : decide ((48 : Int) ≤ c) = false := by simp; omega
            clear hdg
            go_quiet (fail)
            go_wp2
            go_meet
            exact ⟨rfl, by first | exact Below.refl _ _ | exact bdrewN (Below.refl _ _) _⟩
        case rest =>
        obtain ⟨rfl, hcb⟩ := hcut
        clear hdg
        go_wp2
        refine bodyPost_ret (v := .tuple #[.int .i64 a, .bool ok]) ?_ rfl ?_
        · rw [results_tmp2 rfl]; rfl
        have h3 := HR.out.2.2.1
        have h4 := HR.out.2.2.2
        refine ⟨?_, ?_, HR.out.2.1.trans (Fr.of_below _ hcb.out) (fun _ _ h => h)⟩
        · rw [← h3, ← h4, HNUM.out, HHD.out]
          simp
        · rw [← h3, HNUM.out]
          exact HR.out.1.below hcb.out

/-- what counts leaves -/
def CtAns (w : World) (br : Nat) (p : List Int) (n o : Nat) (r : Rs (Int × Int × List Int)) (e : Ending) (w' : World) : Prop :=
  match r with
  | .error c => e = errV c ∧ Fr (· = br) w w'
  | .ok (lo, hi, l') => e = .returned (.tuple #[.int .i64 lo, .int .i64 hi]) ∧ RdS w' br p l' n o ∧ Fr (· = br) w w'
theorem second_bound (q : Int × List Int) (h0 : 0 ≤ q.1) (h1 : q.1 ≤ 101) : -1 ≤ (second q).1 ∧ (second q).1 ≤ 101 := by
  unfold second
  split
  · split
    · have := num_bound (q.2.drop 1) 0 (by omega) (by omega); omega
    · exact ⟨by simp, by simp⟩
  · omega
set_option maxHeartbeats 4000000 in
theorem counts_any (br : Nat) (p l : List Int) (n o : Nat) (w : World) (h : RdS w br p l n o) :
    Calls Try.prog 48 #[.pointer (some ⟨br, 0, none⟩)] w (CtAns w br p n o (counts l)) := by
  have hlt := h.lt
  have hnb := num_bound l 0 (by omega) (by omega)
  have hN := (number_any br p l n o w h)
  obtain ⟨q, hq⟩ : ∃ q, num 0 l = q := ⟨_, rfl⟩
  rw [hq] at hN hnb
  obtain ⟨lo, l1⟩ := q
  have HN := Lib.hid hN
  have H := Lib.hid h
  cases hd : hasD l with
  | false =>
    have hc : counts l = .error 11 := by unfold counts; rw [hd]; rfl
    rw [hc]
    rw [hd] at HN
    clear hN h hq hc hd
    go_enter Try.func48, Try.ntmps48
    go_wp2_with (go_at_call 54; refine HN.out.mono ?_; rintro e w1 ⟨rfl, h1, hf1⟩)
    exact ⟨rfl, rfl, hf1⟩
  | true =>
    rw [hd] at HN
    obtain ⟨hi, hhi⟩ : ∃ hi, (second (lo, l1)).1 = hi := ⟨_, rfl⟩
    obtain ⟨l3, hl3⟩ : ∃ l3, (second (lo, l1)).2 = l3 := ⟨_, rfl⟩
    have hsb := second_bound (lo, l1) hnb.1 hnb.2
    rw [hhi] at hsb
    have hc : counts l = if badT lo hi then .error 11 else if pre [92, 125] l3 then .ok (lo, hi, l3.drop 2) else .error 10 := by
      unfold counts
      rw [hd, hq]
      simp only [hhi, hl3]
      rfl
    obtain ⟨b, hb⟩ : ∃ b, badT lo hi = b := ⟨_, rfl⟩
    obtain ⟨b2, hb2⟩ : ∃ b2, pre [92, 125] l3 = b2 := ⟨_, rfl⟩
    rw [hb, hb2] at hc
    rw [hc]
    have HB := Lib.hid hb
    have HB2 := Lib.hid hb2
    clear hb hb2
    obtain ⟨hn0, hn1⟩ := hnb
    obtain ⟨hi0, hi1⟩ := hsb
    have HI := Lib.hid hhi
    have HL3 := Lib.hid hl3
    simp only at hn0 hn1
    clear hN h hq hc hd hhi hl3
    go_enter Try.func48, Try.ntmps48
    go_upto_region 5 with (go_at_call 54; refine HN.out.mono ?_; rintro e w1 ⟨rfl, h1, hf1⟩; have H1 := Lib.hid (show RdS w1 br p l1 n o ∧ Fr (· = br) w w1 from ⟨h1, hf1⟩); clear h1 hf1)
    cases hp : pre [44] l1 with
    | false =>
      have hh : hi = lo := by rw [← HI.out]; unfold second; simp only [hp]; rfl
      have hll : l3 = l1 := by rw [← HL3.out]; unfold second; simp only [hp]; rfl
      subst hh
      subst hll
      have HP := Lib.hid hp
      clear hp HI HL3
      go_upto_region 10 with (go_at_call 33; refine (took_no br p l3 [44] n o 1 1 _ _ (H1.out.1.below (bal w1 _)) (rd1 w1 44 (by decide)) HP.out).mono ?_; rintro e w2 ⟨rfl, hb2⟩; have H2 := Lib.hid ((bal w1 _).trans (hb2.mono (bal w1 _).size)); clear hb2)
      have H4 : Hid (RdS w2 br p l3 n o ∧ Fr (· = br) w w2) := ⟨H1.out.1.below H2.out, H1.out.2.trans (Fr.of_below _ H2.out) (fun _ _ h => h)⟩
      clear H1 H2 HP
      go_cut [26] from 27 to 48 (fun v wx => v = .bool b ∧ wx = w2)
      case first =>
        go_wp2
        all_goals go_meet
        all_goals (refine ⟨congrArg Value.bool ?_, rfl⟩; rw [← HB.out, Bool.eq_iff_iff]; simp only [badT, Bool.or_eq_true, Bool.and_eq_true, decide_eq_true_eq, Bool.false_eq_true, false_iff, true_iff, iff_true]; omega)
      case rest =>
      obtain ⟨rfl, rfl⟩ := hcut
      clear HB
      cases b with
      | true =>
        go_wp2
        exact ⟨rfl, rfl, H4.out.2⟩
      | false =>
        cases b2 with
        | false =>
          go_wp2_with (go_at_call 33; refine (took_no br p l3 [92, 125] n o 2 2 _ _ (H4.out.1.below (bal _ _)) (rd2 _ 92 125 (by decide) (by decide)) HB2.out).mono ?_; rintro e w5 ⟨rfl, hb5⟩; have H5 := Lib.hid ((bal _ _).trans (hb5.mono (bal _ _).size)); clear hb5)
          exact ⟨rfl, rfl, H4.out.2.trans (Fr.of_below _ H5.out) (fun _ _ h => h)⟩
        | true =>
          go_wp2_with (go_at_call 33; refine (took_yes br p l3 [92, 125] n o 2 2 _ _ (H4.out.1.below (bal _ _)) (rd2 _ 92 125 (by decide) (by decide)) HB2.out).mono ?_; rintro e w5 ⟨rfl, h5, hf5⟩; have H5 := Lib.hid (show RdS _ br p (l3.drop 2) n o ∧ Fr (· = br) w _ from ⟨h5, (H4.out.2.trans (Fr.of_below (· = br) (bal _ _)) (fun _ _ h => h)).trans hf5 (fun _ _ h => h)⟩); clear h5 hf5)
          refine bodyPost_ret (v := .tuple #[.int .i64 hi, .int .i64 hi]) ?_ rfl ?_
          · rw [results_tmp2 rfl]; rfl
          · exact ⟨rfl, H5.out⟩
    | true =>
      have HP := Lib.hid hp
      clear hp
      have HTK : ∀ W : World, W = w1.alloc (.cells #[.int .i32 44] 21) → Calls Try.prog 33 #[.pointer (some ⟨br, 0, none⟩), .slice (some ⟨w1.heap.size, 0, none⟩) 1 1] W fun e w' => e = .returned (.bool true) ∧ Hid (RdS w' br p (l1.drop 1) n o ∧ Fr (· = br) w w') := by
        rintro W rfl
        refine (took_yes br p l1 [44] n o 1 1 _ _ (H1.out.1.below (bal w1 _)) (rd1 w1 44 (by decide)) HP.out).mono ?_
        rintro e w2 ⟨rfl, h2, hf2⟩
        exact ⟨rfl, h2, (H1.out.2.trans (Fr.of_below (· = br) (bal w1 _)) (fun _ _ h => h)).trans hf2 (fun _ _ h => h)⟩
      have HTK := Lib.hid HTK
      have HNN : ∀ W : World, Hid (RdS W br p (l1.drop 1) n o ∧ Fr (· = br) w W) → Calls Try.prog 54 #[.pointer (some ⟨br, 0, none⟩)] W fun e w' => e = .returned (.tuple #[.int .i64 (num 0 (l1.drop 1)).1, .bool (hasD (l1.drop 1))]) ∧ Hid (RdS w' br p (num 0 (l1.drop 1)).2 n o ∧ Fr (· = br) w w') := by
        intro W hW
        refine (number_any br p (l1.drop 1) n o W hW.out.1).mono ?_
        rintro e w' ⟨rfl, a, b⟩
        exact ⟨rfl, a, hW.out.2.trans b (fun _ _ h => h)⟩
      have hi' : hi = if hasD (l1.drop 1) then (num 0 (l1.drop 1)).1 else -1 := by rw [← HI.out]; unfold second; rw [if_pos HP.out]; split <;> rfl
      have hl' : l3 = if hasD (l1.drop 1) then (num 0 (l1.drop 1)).2 else l1.drop 1 := by rw [← HL3.out]; unfold second; rw [if_pos HP.out]; split <;> rfl
      have hno : hasD (l1.drop 1) = false → (num 0 (l1.drop 1)).2 = l1.drop 1 := by
        intro h
        cases hq : l1.drop 1 with
        | nil => rfl
        | cons c r => rw [hq] at h; unfold num; rw [show dig c = false from h]; rfl
      obtain ⟨q1, hq1⟩ : ∃ q1, (num 0 (l1.drop 1)).1 = q1 := ⟨_, rfl⟩
      obtain ⟨b1, hb1⟩ : ∃ b1, hasD (l1.drop 1) = b1 := ⟨_, rfl⟩
      rw [hb1] at hi' hl' hno HNN
      rw [hq1] at hi' HNN
      have HNN := Lib.hid HNN
      have HNO := Lib.hid hno
      clear hno hq1 hb1 HI HL3
      cases b1 with
      | false =>
        have hi2 : hi = -1 := hi'
        have hl2 : l1.drop 1 = l3 := hl'.symm
        clear hi' hl'
        subst hi2
        go_upto_region 10 with (first
          | (go_at_call 33; refine (HTK.out _ rfl).mono ?_; rintro e w2 ⟨rfl, H2⟩)
          | (go_at_call 54; refine (HNN.out _ H2).mono ?_; rintro e w3 ⟨rfl, H3⟩))
        have H4 : Hid (RdS w3 br p l3 n o ∧ Fr (· = br) w w3) := by have := H3.out; rw [HNO.out (by first | rfl | trivial), hl2] at this; exact this
        clear H1 H2 H3 HNO HNN HTK hl2 HP
        go_cut [26] from 27 to 48 (fun v wx => v = .bool b ∧ wx = w3)
        case first =>
          go_wp2
          all_goals go_meet
          all_goals (refine ⟨congrArg Value.bool ?_, rfl⟩; rw [← HB.out, Bool.eq_iff_iff]; simp only [badT, Bool.or_eq_true, Bool.and_eq_true, decide_eq_true_eq, Bool.false_eq_true, false_iff, true_iff, iff_true]; omega)
        case rest =>
        obtain ⟨rfl, rfl⟩ := hcut
        clear HB
        cases b with
        | true =>
          go_wp2
          exact ⟨rfl, rfl, H4.out.2⟩
        | false =>
          cases b2 with
          | false =>
            go_wp2_with (go_at_call 33; refine (took_no br p l3 [92, 125] n o 2 2 _ _ (H4.out.1.below (bal _ _)) (rd2 _ 92 125 (by decide) (by decide)) HB2.out).mono ?_; rintro e w5 ⟨rfl, hb5⟩; have H5 := Lib.hid ((bal _ _).trans (hb5.mono (bal _ _).size)); clear hb5)
            exact ⟨rfl, rfl, H4.out.2.trans (Fr.of_below _ H5.out) (fun _ _ h => h)⟩
          | true =>
            go_wp2_with (go_at_call 33; refine (took_yes br p l3 [92, 125] n o 2 2 _ _ (H4.out.1.below (bal _ _)) (rd2 _ 92 125 (by decide) (by decide)) HB2.out).mono ?_; rintro e w5 ⟨rfl, h5, hf5⟩; have H5 := Lib.hid (show RdS _ br p (l3.drop 2) n o ∧ Fr (· = br) w _ from ⟨h5, (H4.out.2.trans (Fr.of_below (· = br) (bal _ _)) (fun _ _ h => h)).trans hf5 (fun _ _ h => h)⟩); clear h5 hf5)
            refine bodyPost_ret (v := .tuple #[.int .i64 lo, .int .i64 (-1)]) ?_ rfl ?_
            · rw [results_tmp2 rfl]; rfl
            · exact ⟨rfl, H5.out⟩
      | true =>
        have hi2 : hi = q1 := hi'
        have hl2 : (num 0 (l1.drop 1)).2 = l3 := hl'.symm
        clear hi' hl'
        subst hi2
        go_upto_region 10 with (first
          | (go_at_call 33; refine (HTK.out _ rfl).mono ?_; rintro e w2 ⟨rfl, H2⟩)
          | (go_at_call 54; refine (HNN.out _ H2).mono ?_; rintro e w3 ⟨rfl, H3⟩))
        have H4 : Hid (RdS w3 br p l3 n o ∧ Fr (· = br) w w3) := by have := H3.out; rw [hl2] at this; exact this
        clear H1 H2 H3 HNO HNN HTK hl2 HP
        go_cut [26] from 27 to 48 (fun v wx => v = .bool b ∧ wx = w3)
        case first =>
          go_wp2
          all_goals go_meet
          all_goals (refine ⟨congrArg Value.bool ?_, rfl⟩; rw [← HB.out, Bool.eq_iff_iff]; simp only [badT, Bool.or_eq_true, Bool.and_eq_true, decide_eq_true_eq, Bool.false_eq_true, false_iff, true_iff, iff_true]; omega)
        case rest =>
        obtain ⟨rfl, rfl⟩ := hcut
        clear HB
        cases b with
        | true =>
          go_wp2
          exact ⟨rfl, rfl, H4.out.2⟩
        | false =>
          cases b2 with
          | false =>
            go_wp2_with (go_at_call 33; refine (took_no br p l3 [92, 125] n o 2 2 _ _ (H4.out.1.below (bal _ _)) (rd2 _ 92 125 (by decide) (by decide)) HB2.out).mono ?_; rintro e w5 ⟨rfl, hb5⟩; have H5 := Lib.hid ((bal _ _).trans (hb5.mono (bal _ _).size)); clear hb5)
            exact ⟨rfl, rfl, H4.out.2.trans (Fr.of_below _ H5.out) (fun _ _ h => h)⟩
          | true =>
            go_wp2_with (go_at_call 33; refine (took_yes br p l3 [92, 125] n o 2 2 _ _ (H4.out.1.below (bal _ _)) (rd2 _ 92 125 (by decide) (by decide)) HB2.out).mono ?_; rintro e w5 ⟨rfl, h5, hf5⟩; have H5 := Lib.hid (show RdS _ br p (l3.drop 2) n o ∧ Fr (· = br) w _ from ⟨h5, (H4.out.2.trans (Fr.of_below (· = br) (bal _ _)) (fun _ _ h => h)).trans hf5 (fun _ _ h => h)⟩); clear h5 hf5)
            refine bodyPost_ret (v := .tuple #[.int .i64 lo, .int .i64 hi]) ?_ rfl ?_
            · rw [results_tmp2 rfl]; rfl
            · exact ⟨rfl, H5.out⟩
end Go.Proofs.Ytkjiobbkbhmijaa.U
