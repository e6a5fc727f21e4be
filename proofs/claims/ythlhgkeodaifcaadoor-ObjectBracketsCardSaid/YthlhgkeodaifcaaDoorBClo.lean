/-
  The document's closes: place by place to what belongs to a bracket. (MADE by wip/tools/gen_bclo.py.)
-/
import Derived.Test.YthlhgkeodaifcaaDoorBLines
namespace Go.Proofs.YthlhgkeodaifcaaDoor.U
open Go.RowKit
set_option linter.unusedVariables false
set_option linter.unusedSimpArgs false
set_option maxRecDepth 100000

/-- the runes from p on among the places from the ith on -/
def restP (L : List (List Int)) (p : Pl) (i : Nat) : List (Pl × Int) := (((places L).drop i).filter fun q => decide (q.2 < (lnL L q.1).length) && !aheadP q p).map fun q => (q, (lnL L q.1).getD q.2 0)
theorem rest_from (L : List (List Int)) (p : Pl) : restP L p 0 = fromP L p := by
  unfold restP fromP runesP
  rw [List.drop_zero, List.filter_map, List.filter_filter]
  congr 1
  refine List.filter_congr fun x _ => ?_
  rw [Bool.and_comm]; rfl
theorem rest_step {L : List (List Int)} {p q : Pl} {i : Nat} (h : (places L)[i]? = some q) : restP L p i = if (decide (q.2 < (lnL L q.1).length) && !aheadP q p) = true then (q, (lnL L q.1).getD q.2 0) :: restP L p (i + 1) else restP L p (i + 1) := by
  obtain ⟨hi, he⟩ := List.getElem?_eq_some_iff.1 h
  unfold restP
  rw [List.drop_eq_getElem_cons hi, he]
  by_cases hc : (decide (q.2 < (lnL L q.1).length) && !aheadP q p) = true
  · rw [if_pos hc]
    simp only [List.filter_cons, hc, if_true, List.map_cons]
  · rw [if_neg hc]
    simp only [List.filter_cons, hc, if_false, Bool.false_eq_true]
theorem rest_end {L : List (List Int)} {p : Pl} {i : Nat} (h : (places L).length ≤ i) : restP L p i = [] := by
  unfold restP
  rw [List.drop_eq_nil_of_le h]; rfl
set_option maxHeartbeats 4000000 in
theorem rcloses_any (F : Nat → Prop) (a : Option Addr) (n c : Nat) (L : List (List Int)) (p1 p2 : Nat) (o1 o2 : Int) (w : World) (h : RdL F w a n c L) (hoo : o1 ≠ o2) (hz : sizeN (lens L) ≤ 262144) :
    Calls Tryd.prog 42 #[.slice a n c, .agg #[.int .i64 (p1 : Nat), .int .i64 (p2 : Nat)], .int .i32 o1, .int .i32 o2] w fun e w' => e = .returned (.tuple #[plV ((scanB o1 o2 0 (fromP L (p1, p2))).getD (0, 0)), .bool (scanB o1 o2 0 (fromP L (p1, p2))).isSome]) ∧ Below w.heap.size w w' := by
  rw [← rest_from]
  obtain ⟨res, hres⟩ : ∃ r, scanB o1 o2 0 (restP L (p1, p2) 0) = r := ⟨_, rfl⟩
  rw [hres]
  have hl := h.len
  have hsm := h.small
  obtain ⟨w1, hw1, hsz, g1, g2, hb1⟩ := ltwo w (.cells #[.int .i64 (p1 : Nat), .int .i64 (p2 : Nat)] 24) (.cells #[.int .i64 0, .int .i64 0] 24)
  have HPL := Lib.hid (rplaces_any F a n c L w1 (h.below hb1) hz)
  have hnp : (places L).length ≤ 262144 := Nat.le_trans (places_len L) hz
  have HNP := Lib.hid hnp
  have HW1 := Lib.hid hw1
  have HB1 := Lib.hid hb1
  have G1 := Lib.hid g1
  have G2 := Lib.hid g2
  have HRES := Lib.hid hres
  have H0 := Lib.hid h
  have HL := Lib.hid hl
  have HOO := Lib.hid hoo
  have HAH : Hid (∀ (a1 a2 : Nat) (W' : World), Calls Tryd.prog 13 #[.agg #[.int .i64 (a1 : Nat), .int .i64 (a2 : Nat)], .agg #[.int .i64 (p1 : Nat), .int .i64 (p2 : Nat)]] W' fun e w' => e = .returned (.bool (aheadP (a1, a2) (p1, p2))) ∧ Below W'.heap.size W' w') := fun a1 a2 W' => rahead_any (a1, a2) (p1, p2) W'
  clear hw1 hb1 g1 g2 hres h hl hoo hnp hsz
  go_enter Tryd.func42, Tryd.ntmps42
  go_upto_region 1 with fail
  rw [HW1.out]
  go_wp2_with (go_at_call 16; refine HPL.out.mono ?_; rintro e w3 ⟨a', n', c', rfl, hp⟩; have HP3 := Lib.hid hp.out.1; have hb3 := hp.out.2; have hn' : n' ≤ 262144 := (by have h1 := hp.out.1.len; have h2 := HNP.out; omega); have HB3 : Hid (Below w.heap.size w w3) := btr HB1.out hb3; have G13 := Lib.hid ((hb3.block _ (Array.getElem?_eq_some_iff.1 G1.out).1).trans G1.out); have G23 := Lib.hid ((hb3.block _ (Array.getElem?_eq_some_iff.1 G2.out).1).trans G2.out); clear hp hb3)
  go_loopw [10, 12] (fun v10 v12 wr => ∃ (k : Int) (i : Nat), v10 = .int .i64 k ∧ v12 = .int .i64 (i : Nat) ∧ i ≤ n' ∧ Hid (-(i : Int) ≤ k ∧ k ≤ (i : Int)) ∧ Hid (scanB o1 o2 k (restP L (p1, p2) i) = res) ∧ Hid (Below w3.heap.size w3 wr)) (fun _ v12 _ => n' - (intOf v12).toNat)
  case atStart => exact ⟨0, 0, rfl, rfl, Nat.zero_le _, ⟨by omega, by omega⟩, HRES.out, Below.refl _ _⟩
  case round =>
    obtain ⟨k, i, rfl, rfl, hin, HK, HS, HB⟩ := hrel
    have hg1 := (HB.out.block _ (Array.getElem?_eq_some_iff.1 G13.out).1).trans G13.out
    have hg2 := (HB.out.block _ (Array.getElem?_eq_some_iff.1 G23.out).1).trans G23.out
    by_cases hi : i < n'
    · obtain ⟨⟨q1, q2⟩, hq⟩ : ∃ q, (places L)[i]? = some q := ⟨_, List.getElem?_eq_getElem (by rw [HP3.out.len]; exact hi)⟩
      obtain ⟨pb, po, rfl, hpb, c0, c1⟩ := HP3.out.get HB.out hq
      simp only at c0 c1
      have hok : okP L (q1, q2) := places_mem.1 (List.mem_of_getElem? hq)
      have hs := HS.out
      rw [rest_step hq] at hs
      simp only at hs
      obtain ⟨w6, hw6⟩ : ∃ w6, wr.alloc (.cells #[.int .i64 (q1 : Nat), .int .i64 (q2 : Nat)] 24) = w6 := ⟨_, rfl⟩
      have hb6 : Below wr.heap.size wr w6 := by rw [← hw6]; exact bal _ _
      have hn6 : At w6 wr.heap.size (q1, q2) := by rw [← hw6]; exact heap_alloc_new wr _
      obtain ⟨u0, u1, -, -⟩ := row2 hn6
      simp only at u0 u1
      have hg16 := (hb6.block _ (Array.getElem?_eq_some_iff.1 hg1).1).trans hg1
      obtain ⟨x0, x1, -, -⟩ := row2 hg16
      have HB6 : Hid (Below w3.heap.size w3 w6) := btr HB.out hb6
      have HN6 := Lib.hid hn6
      have HBW6 : Hid (Below w.heap.size w w6) := btr HB3.out HB6.out
      have hrr6 : w.heap.size + 1 < wr.heap.size := (Array.getElem?_eq_some_iff.1 hg2).1
      have G26 := Lib.hid ((hb6.block _ (Array.getElem?_eq_some_iff.1 hg2).1).trans hg2)
      obtain ⟨b, off, ra, rc, rfl, hq1n, hbl, l0, hrd⟩ := okP.line (p := (q1, q2)) H0.out hok HBW6.out
      simp only at l0 hrd hq1n
      obtain ⟨x, hxx⟩ : ∃ x, lnL L q1 = x := ⟨_, rfl⟩
      rw [hxx] at hs l0 hrd
      have hq2 := hok.2
      simp only at hq2
      rw [hxx] at hq2
      obtain ⟨m, hm⟩ : ∃ m, x.length = m := ⟨_, rfl⟩
      rw [hm] at hs l0 hrd hq2
      have hms := hrd.small
      have HRD := Lib.hid hrd
      have d0 : (i : Int) < (n' : Int) := by omega
      have d1 : decide ((i : Int) < (n' : Int)) = true := by simp; omega
      have d2 : ¬ (i : Int) < 0 := by omega
      have d3 : decide ((i : Int) < 0) = false := by simp
      have d4 : ¬ (q1 : Int) < 0 := by omega
      have d5 : decide ((q1 : Int) < 0) = false := by simp
      have HI := Lib.hid hi
      obtain ⟨ah, hah⟩ : ∃ y, aheadP (q1, q2) (p1, p2) = y := ⟨_, rfl⟩
      have HAQ := Lib.hid (fun W' => HAH.out q1 q2 W')
      rw [hah] at HAQ hs
      clear hg1 hg16 hb6 hn6 hq hok hrd hxx hm hah hi
      cases ah with
      | true =>
        rw [if_neg (by simp)] at hs
        have HS2 := Lib.hid hs
        clear hs
        go_wp2_with (go_at_call 13; refine (HAQ.out _).mono ?_; rintro e w7 ⟨rfl, hb7⟩)
        go_roundw
        case rel => exact ⟨k, i + 1, rfl, by go_num, by have := HI.out; omega, by have := HK.out; show _ ∧ _; omega, HS2.out, btr HB6.out hb7⟩
        case measure => have := HI.out; simp [intOf]; omega
      | false =>
        by_cases hm0 : m = 0
        · rw [if_neg (by simp; omega)] at hs
          have HS2 := Lib.hid hs
          have e1 : ((m : Int) == 0) = true := by simp; omega
          clear hs hm0
          go_wp2_with (go_at_call 13; refine (HAQ.out _).mono ?_; rintro e w7 ⟨rfl, hb7⟩; obtain ⟨u0, u1, -, -⟩ := row2 (HN6.out.keep (hb7.block _ HN6.out.lt)); simp only at u0 u1; have l0 := (hb7.cell (p := ⟨b, off + q1, none⟩) (by have h1 := HBW6.out.size; show b < _; omega)).trans l0)
          go_roundw
          case rel => exact ⟨k, i + 1, rfl, by go_num, by have := HI.out; omega, by have := HK.out; show _ ∧ _; omega, HS2.out, btr HB6.out hb7⟩
          case measure => have := HI.out; simp [intOf]; omega
        · have hq2m : q2 < m := by omega
          rw [if_pos (by simp; omega)] at hs
          obtain ⟨rb, ro, rfl, hrb, c2⟩ := HRD.out.at_ (i := q2) hq2m
          obtain ⟨rr, hrr⟩ : ∃ r, x.getD q2 0 = r := ⟨_, rfl⟩
          rw [hrr] at c2 hs
          rw [scanB] at hs
          have e1 : ((m : Int) == 0) = false := by simp; omega
          have e2 : ¬ (q2 : Int) < 0 := by omega
          have e3 : decide ((q2 : Int) < 0) = false := by simp
          clear hrr hm0
          by_cases hr1 : rr = o1
          · rw [hr1] at c2 hs
            have hw : wB o1 o2 o1 = 1 := by unfold wB; rw [if_pos rfl, if_neg HOO.out]; rfl
            rw [hw] at hs
            obtain ⟨k', hk'⟩ : ∃ k', k + 1 = k' := ⟨_, rfl⟩
            have q1' : (o1 == o2) = false := by simp; exact HOO.out
            have q2' : ¬ o1 = o2 := HOO.out
            rw [hk'] at hs
            have HKB : Hid (-((i + 1 : Nat) : Int) ≤ k' ∧ k' ≤ ((i + 1 : Nat) : Int)) := by have := HK.out; show _ ∧ _; omega
            have w0 : IntKind.i64.wrap k' = k' := by have h1 := HKB.out; have h2 := HI.out; rw [IntKind.wrap_i64]; omega
            by_cases hz0 : k' = 0
            · rw [if_pos hz0] at hs
              have HRS : Hid (res = some (q1, q2)) := hs.symm
              have z0 : (k' == 0) = true := by simp [hz0]
              clear hs hw
              go_wp2_with (go_at_call 13; refine (HAQ.out _).mono ?_; rintro e w7 ⟨rfl, hb7⟩; obtain ⟨u0, u1, -, -⟩ := row2 (HN6.out.keep (hb7.block _ HN6.out.lt)); simp only at u0 u1; have l0 := (hb7.cell (p := ⟨b, off + q1, none⟩) (by have h1 := HBW6.out.size; show b < _; omega)).trans l0; have c2 := (hb7.cell (p := ⟨rb, ro + q2, none⟩) hrb).trans c2; obtain ⟨y0, y1, yf0, yf1⟩ := row2 ((hb7.block _ (Array.getElem?_eq_some_iff.1 G26.out).1).trans G26.out); have HB7 : Hid (Below w.heap.size w w7) := btr HBW6.out hb7; have HB37 : Hid (Below w3.heap.size w3 w7) := btr HB6.out hb7)
              go_quiet (fail)
              go_wp2_with fail
              go_quiet (fail)
              go_wp2_with fail
              refine bodyPost_ret (v := .tuple #[.agg #[.int .i64 (q1 : Nat), .int .i64 (q2 : Nat)], .bool true]) ?_ rfl ⟨by rw [HRS.out]; rfl, ?_⟩
              · rw [results_ct rfl]
                go_simp
              · have h2 := fun j => bdrewN HB7.out j
                (repeat' (first | exact h2 _ | exact bdrewN (h2 _) _ | omega | refine setCell_below ?_ _ _ _ ?_))
            · rw [if_neg hz0] at hs
              have HS2 := Lib.hid hs
              have z0 : (k' == 0) = false := by simp [hz0]
              clear hs hw
              go_wp2_with (go_at_call 13; refine (HAQ.out _).mono ?_; rintro e w7 ⟨rfl, hb7⟩; obtain ⟨u0, u1, -, -⟩ := row2 (HN6.out.keep (hb7.block _ HN6.out.lt)); simp only at u0 u1; have l0 := (hb7.cell (p := ⟨b, off + q1, none⟩) (by have h1 := HBW6.out.size; show b < _; omega)).trans l0; have c2 := (hb7.cell (p := ⟨rb, ro + q2, none⟩) hrb).trans c2; obtain ⟨y0, y1, yf0, yf1⟩ := row2 ((hb7.block _ (Array.getElem?_eq_some_iff.1 G26.out).1).trans G26.out); have HB7 : Hid (Below w.heap.size w w7) := btr HBW6.out hb7; have HB37 : Hid (Below w3.heap.size w3 w7) := btr HB6.out hb7)
              go_quiet (fail)
              go_wp2_with fail
              go_quiet (fail)
              go_wp2_with fail
              go_roundw
              case rel => exact ⟨k', i + 1, rfl, by go_num, by have := HI.out; omega, HKB.out, HS2.out, by first | exact bdrewN (bdrewN HB37.out _) _ | exact bdrewN HB37.out _⟩
              case measure => have := HI.out; simp [intOf]; omega
          by_cases hr2 : rr = o2
          · rw [hr2] at c2 hs
            have hw : wB o1 o2 o2 = -1 := by unfold wB; rw [if_neg (fun h => HOO.out h.symm), if_pos rfl]; rfl
            rw [hw] at hs
            have q1' : (o2 == o1) = false := by simp; exact fun h => HOO.out h.symm
            have q2' : ¬ o2 = o1 := fun h => HOO.out h.symm
            obtain ⟨k', hk'⟩ : ∃ k', k + -1 = k' := ⟨_, rfl⟩
            have hk2 : k - 1 = k' := by omega
            rw [hk'] at hs
            have HKB : Hid (-((i + 1 : Nat) : Int) ≤ k' ∧ k' ≤ ((i + 1 : Nat) : Int)) := by have := HK.out; show _ ∧ _; omega
            have w0 : IntKind.i64.wrap k' = k' := by have h1 := HKB.out; have h2 := HI.out; rw [IntKind.wrap_i64]; omega
            by_cases hz0 : k' = 0
            · rw [if_pos hz0] at hs
              have HRS : Hid (res = some (q1, q2)) := hs.symm
              have z0 : (k' == 0) = true := by simp [hz0]
              clear hs hw
              go_wp2_with (go_at_call 13; refine (HAQ.out _).mono ?_; rintro e w7 ⟨rfl, hb7⟩; obtain ⟨u0, u1, -, -⟩ := row2 (HN6.out.keep (hb7.block _ HN6.out.lt)); simp only at u0 u1; have l0 := (hb7.cell (p := ⟨b, off + q1, none⟩) (by have h1 := HBW6.out.size; show b < _; omega)).trans l0; have c2 := (hb7.cell (p := ⟨rb, ro + q2, none⟩) hrb).trans c2; obtain ⟨y0, y1, yf0, yf1⟩ := row2 ((hb7.block _ (Array.getElem?_eq_some_iff.1 G26.out).1).trans G26.out); have HB7 : Hid (Below w.heap.size w w7) := btr HBW6.out hb7; have HB37 : Hid (Below w3.heap.size w3 w7) := btr HB6.out hb7)
              go_quiet (fail)
              go_wp2_with fail
              go_quiet (fail)
              go_wp2_with fail
              refine bodyPost_ret (v := .tuple #[.agg #[.int .i64 (q1 : Nat), .int .i64 (q2 : Nat)], .bool true]) ?_ rfl ⟨by rw [HRS.out]; rfl, ?_⟩
              · rw [results_ct rfl]
                go_simp
              · have h2 := fun j => bdrewN HB7.out j
                (repeat' (first | exact h2 _ | exact bdrewN (h2 _) _ | omega | refine setCell_below ?_ _ _ _ ?_))
            · rw [if_neg hz0] at hs
              have HS2 := Lib.hid hs
              have z0 : (k' == 0) = false := by simp [hz0]
              clear hs hw
              go_wp2_with (go_at_call 13; refine (HAQ.out _).mono ?_; rintro e w7 ⟨rfl, hb7⟩; obtain ⟨u0, u1, -, -⟩ := row2 (HN6.out.keep (hb7.block _ HN6.out.lt)); simp only at u0 u1; have l0 := (hb7.cell (p := ⟨b, off + q1, none⟩) (by have h1 := HBW6.out.size; show b < _; omega)).trans l0; have c2 := (hb7.cell (p := ⟨rb, ro + q2, none⟩) hrb).trans c2; obtain ⟨y0, y1, yf0, yf1⟩ := row2 ((hb7.block _ (Array.getElem?_eq_some_iff.1 G26.out).1).trans G26.out); have HB7 : Hid (Below w.heap.size w w7) := btr HBW6.out hb7; have HB37 : Hid (Below w3.heap.size w3 w7) := btr HB6.out hb7)
              go_quiet (fail)
              go_wp2_with fail
              go_quiet (fail)
              go_wp2_with fail
              go_roundw
              case rel => exact ⟨k', i + 1, rfl, by go_num, by have := HI.out; omega, HKB.out, HS2.out, by first | exact bdrewN (bdrewN HB37.out _) _ | exact bdrewN HB37.out _⟩
              case measure => have := HI.out; simp [intOf]; omega
          · have hw : wB o1 o2 rr = 0 := by unfold wB; rw [if_neg hr1, if_neg hr2]; rfl
            rw [hw] at hs
            have q1' : (rr == o1) = false := by simp [hr1]
            have q2' : (rr == o2) = false := by simp [hr2]
            have hk' : k + 0 = k := by omega
            rw [hk'] at hs
            have HKB : Hid (-((i + 1 : Nat) : Int) ≤ k ∧ k ≤ ((i + 1 : Nat) : Int)) := by have := HK.out; show _ ∧ _; omega
            have w0 : IntKind.i64.wrap k = k := by have h1 := HKB.out; have h2 := HI.out; rw [IntKind.wrap_i64]; omega
            by_cases hz0 : k = 0
            · rw [if_pos hz0] at hs
              have HRS : Hid (res = some (q1, q2)) := hs.symm
              have z0 : (k == 0) = true := by simp [hz0]
              clear hs hw hk'
              go_wp2_with (go_at_call 13; refine (HAQ.out _).mono ?_; rintro e w7 ⟨rfl, hb7⟩; obtain ⟨u0, u1, -, -⟩ := row2 (HN6.out.keep (hb7.block _ HN6.out.lt)); simp only at u0 u1; have l0 := (hb7.cell (p := ⟨b, off + q1, none⟩) (by have h1 := HBW6.out.size; show b < _; omega)).trans l0; have c2 := (hb7.cell (p := ⟨rb, ro + q2, none⟩) hrb).trans c2; obtain ⟨y0, y1, yf0, yf1⟩ := row2 ((hb7.block _ (Array.getElem?_eq_some_iff.1 G26.out).1).trans G26.out); have HB7 : Hid (Below w.heap.size w w7) := btr HBW6.out hb7; have HB37 : Hid (Below w3.heap.size w3 w7) := btr HB6.out hb7)
              go_quiet (fail)
              go_wp2_with fail
              go_quiet (fail)
              go_wp2_with fail
              refine bodyPost_ret (v := .tuple #[.agg #[.int .i64 (q1 : Nat), .int .i64 (q2 : Nat)], .bool true]) ?_ rfl ⟨by rw [HRS.out]; rfl, ?_⟩
              · rw [results_ct rfl]
                go_simp
              · have h2 := fun j => bdrewN HB7.out j
                (repeat' (first | exact h2 _ | exact bdrewN (h2 _) _ | omega | refine setCell_below ?_ _ _ _ ?_))
            · rw [if_neg hz0] at hs
              have HS2 := Lib.hid hs
              have z0 : (k == 0) = false := by simp [hz0]
              clear hs hw hk'
              go_wp2_with (go_at_call 13; refine (HAQ.out _).mono ?_; rintro e w7 ⟨rfl, hb7⟩; obtain ⟨u0, u1, -, -⟩ := row2 (HN6.out.keep (hb7.block _ HN6.out.lt)); simp only at u0 u1; have l0 := (hb7.cell (p := ⟨b, off + q1, none⟩) (by have h1 := HBW6.out.size; show b < _; omega)).trans l0; have c2 := (hb7.cell (p := ⟨rb, ro + q2, none⟩) hrb).trans c2; obtain ⟨y0, y1, yf0, yf1⟩ := row2 ((hb7.block _ (Array.getElem?_eq_some_iff.1 G26.out).1).trans G26.out); have HB7 : Hid (Below w.heap.size w w7) := btr HBW6.out hb7; have HB37 : Hid (Below w3.heap.size w3 w7) := btr HB6.out hb7)
              go_quiet (fail)
              go_wp2_with fail
              go_quiet (fail)
              go_wp2_with fail
              go_roundw
              case rel => exact ⟨k, i + 1, rfl, by go_num, by have := HI.out; omega, HKB.out, HS2.out, by first | exact bdrewN (bdrewN HB37.out _) _ | exact bdrewN HB37.out _⟩
              case measure => have := HI.out; simp [intOf]; omega
    · have hs := HS.out
      rw [rest_end (by rw [HP3.out.len]; omega)] at hs
      have HRS : Hid (res = none) := by
        show _ = _
        rw [← hs]; rfl
      obtain ⟨y0, y1, yf0, yf1⟩ := row2 hg2
      have d0 : ¬ (i : Int) < (n' : Int) := by omega
      have d1 : decide ((i : Int) < (n' : Int)) = false := by simp; omega
      have HBE : Hid (Below w.heap.size w wr) := btr HB3.out HB.out
      clear hs hg1 hg2
      go_wp2_with fail
      refine bodyPost_ret (v := .tuple #[.agg #[.int .i64 0, .int .i64 0], .bool false]) ?_ rfl ⟨by rw [HRS.out]; rfl, ?_⟩
      · rw [results_ct rfl]
        go_simp
      · (repeat' (first | exact HBE.out | omega | refine setCell_below ?_ _ _ _ ?_))
end Go.Proofs.YthlhgkeodaifcaaDoor.U
