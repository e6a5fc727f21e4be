/-
  The contracts of New, All.
-/
import Derived.Test.YtndlebopfojjeaaTSwap
import Derived.StillTailTactics
namespace Go.Proofs.Ytndlebopfojjeaa.U
open Go.RowKit
set_option linter.unusedVariables false
set_option linter.unusedSimpArgs false
set_option maxRecDepth 100000

def normL (L : List (List Int)) : List (List Int) := if L = [] then [[]] else L
theorem normL_ne (L : List (List Int)) : normL L ≠ [] := by unfold normL; split <;> simp_all
/-- are lines a text's? -/
def okL (L : List (List Int)) : Bool := !(L.any has10) && decide ((joinL (normL L)).length ≤ 65536)

theorem one_rdl0 (w : World) : RdL (fun k => k = w.heap.size) (w.alloc (.cells #[.slice none 0 0] 31)) (some ⟨w.heap.size, 0, none⟩) 1 1 [[]] := by
  have hg := heap_alloc_new w (.cells #[.slice none 0 0] 31)
  refine ⟨[.slice none 0 0], ⟨rfl, Nat.le_refl _, by unfold maxLen; omega, (fun e => by cases e), fun _ => ⟨_, 0, rfl, heap_lt hg, fun j u hu => ?_⟩⟩, fun _ ad e => by cases e; rfl, RowsAt.one (Rd.none0 _ _) (InF.zero _ _)⟩
  rw [cell_row hg, Nat.zero_add]
  simpa using hu
/-- New of lines, one at least -/
theorem new_some_no (G : Nat → Prop) (a : Option Addr) (n c : Nat) (L : List (List Int)) (w : World) (h : RdL G w a n c L) (hs : sizeN (lens L) ≤ 4611686018427387904) (hn : 0 < n) (hok : okL L = false) :
    Calls Try.prog 21 #[.slice a n c] w fun e w' => e = .returned (.pointer none) ∧ w = w' := by
  have hl := h.len
  have hne : L ≠ [] := by intro e; subst e; simp at hl; omega
  have hj := joinL_len hne
  have hnm : normL L = L := if_neg hne
  unfold okL at hok
  rw [hnm] at hok
  have HSZ := Lib.hid (sizeOf_any G a n c L w h (by omega))
  have HE := Lib.hid (haveEnd_any G a n c L w h)
  obtain ⟨Z, hZ⟩ : ∃ Z, sizeN (lens L) = Z := ⟨_, rfl⟩
  rw [hZ] at HSZ hs hj
  have hn0 : ((n : Int) == 0) = false := by simp; omega
  by_cases hbig : 65537 < Z
  · have t1 : decide ((65536 : Int) < (Z : Int) - 1) = true := by simp; omega
    have t2 : (65536 : Int) < (Z : Int) - 1 := by omega
    clear hok hnm hj hZ hl h
    go_enter Try.func21, Try.ntmps21
    go_wp2_with (go_at_call 40; refine HSZ.out.mono ?_; rintro e w' ⟨rfl, rfl⟩)
    go_ret
    exact ⟨rfl, rfl⟩
  · have t1 : decide ((65536 : Int) < (Z : Int) - 1) = false := by simp; omega
    have t2 : ¬ ((65536 : Int) < (Z : Int) - 1) := by omega
    have hany : L.any has10 = true := by
      have e : decide ((joinL L).length ≤ 65536) = true := decide_eq_true (by omega)
      rw [e, Bool.and_true] at hok
      simpa using hok
    rw [hany] at HE
    clear hok hnm hj hZ hl h hany
    go_enter Try.func21, Try.ntmps21
    go_wp2_with (first
      | (go_at_call 40; refine HSZ.out.mono ?_; rintro e w' ⟨rfl, rfl⟩)
      | (go_at_call 41; refine HE.out.mono ?_; rintro e w' ⟨rfl, rfl⟩))
    go_ret
    exact ⟨rfl, rfl⟩

/-- what New leaves -/
theorem new_fin {P1 F2 N : Nat → Prop} {w w4 w5 w6 : World} {bt tt np : Nat} {L : List (List Int)} (hne : L ≠ []) (hpl : plainL L) (hts : TS P1 w4 tt (joinL L) [] np 0) (hP1 : ∀ k, P1 k → w.heap.size ≤ k ∧ k < bt) (h45 : Below w4.heap.size w4 w5) (hF2 : ∀ k, F2 k → k = bt) (hN : ∀ k, N k → bt < k) (hbw : Below w.heap.size w w5) (hbtw : w.heap.size ≤ bt)
    (hrep : RepPost w5 F2 N bt (ifv tt) (lens L) (.returned (.tuple #[])) w6) : TX (fun k => w.heap.size ≤ k) w6 bt L 0 ∧ Below w.heap.size w w6 := by
  obtain ⟨_, ps', hx, hfl, hf⟩ := hrep
  rw [lens_len] at hx
  refine ⟨⟨P1, _, tt, np, ps', ?_, hx, hfl, ?_, ?_, hne, hpl⟩, hbw.trans (hf.below hbw.size (fun k hk => by rw [hF2 k hk]; exact hbtw))⟩
  · exact (hts.below h45).fr hf (fun k hk hF => by have := hP1 k hk; have := hF2 k hF; omega)
  · intro k hk
    have := hP1 k hk
    refine ⟨this.1, fun hh => ?_⟩
    rcases hh.1 with h | h
    · have := hF2 k h; omega
    · have := hN k h; omega
  · rintro k ⟨h | h, _⟩
    · rw [hF2 k h]; exact hbtw
    · have := hN k h; omega

set_option maxHeartbeats 4000000 in
theorem new_some_ok (G : Nat → Prop) (a : Option Addr) (n c : Nat) (L : List (List Int)) (w : World) (h : RdL G w a n c L) (hn : 0 < n) (hok : okL L = true) :
    Calls Try.prog 21 #[.slice a n c] w fun e w' => ∃ bt, e = .returned (.pointer (some ⟨bt, 0, none⟩)) ∧ TX (fun k => w.heap.size ≤ k) w' bt L 0 ∧ Below w.heap.size w w' := by
  have hl := h.len
  have hne : L ≠ [] := by intro e; subst e; simp at hl; omega
  have hj := joinL_len hne
  have hnm : normL L = L := if_neg hne
  unfold okL at hok
  rw [hnm, Bool.and_eq_true, decide_eq_true_eq] at hok
  obtain ⟨ho1, ho2⟩ := hok
  have hany : L.any has10 = false := by simpa using ho1
  have hpl : plainL L := plain_iff.1 hany
  have hsz : sizeN (lens L) ≤ 65537 := by omega
  have HSZ := Lib.hid (sizeOf_any G a n c L w h (by omega))
  have HE := Lib.hid (haveEnd_any G a n c L w h)
  have HJ := Lib.hid (joined_any G a n c L w h (by omega))
  rw [hany] at HE
  obtain ⟨Z, hZ⟩ : ∃ Z, sizeN (lens L) = Z := ⟨_, rfl⟩
  rw [hZ] at HSZ hj hsz
  have hn0 : ((n : Int) == 0) = false := by simp; omega
  have t1 : decide ((65536 : Int) < (Z : Int) - 1) = false := by simp; omega
  have t2 : ¬ ((65536 : Int) < (Z : Int) - 1) := by omega
  have hwf := rdl_wf h
  have hcnt := size_count L
  rw [hZ, hl] at hcnt
  have H := Lib.hid h
  have HNE := Lib.hid hne
  have HPL := Lib.hid hpl
  have HWF := Lib.hid hwf
  have HO2 := Lib.hid ho2
  have HZ := Lib.hid hZ
  have HLL := Lib.hid hl
  clear ho1 hnm hj hZ hl h hany hne hpl hwf ho2
  go_enter Try.func21, Try.ntmps21
  go_wp2_with (first
    | (go_at_call 40; refine HSZ.out.mono ?_; rintro e w' ⟨rfl, rfl⟩)
    | (go_at_call 41; refine HE.out.mono ?_; rintro e w' ⟨rfl, rfl⟩))
  refine HJ.out.mono ?_
  rintro e w1 ⟨ja, jc, rfl, ho, hb1⟩
  have HRD := Lib.hid (own_rd ho HWF.out)
  have HB1 := Lib.hid hb1
  clear ho hb1 HJ HSZ HE
  go_wp2_with fail
  refine (ts_new (fun k => w.heap.size ≤ k) ja _ jc (joinL L) w1 HRD.out HO2.out (fun k hk => Nat.le_trans HB1.out.size hk)).mono ?_
  rintro e w2 ⟨tt, rfl, hts, hb2⟩
  have HTS := Lib.hid hts
  have HB2 : Hid (Below w.heap.size w w2) := HB1.out.trans (hb2.mono HB1.out.size)
  clear hts hb2
  go_wp2_with fail
  obtain ⟨bt, hbt⟩ : ∃ bt, w2.heap.size = bt := ⟨_, rfl⟩
  obtain ⟨w3, hw3⟩ : ∃ w3, w2.alloc (.cells #[ifv tt, .slice none 0 0, .int .i64 0] 71) = w3 := ⟨_, rfl⟩
  have hb23 : Below w2.heap.size w2 w3 := by rw [← hw3]; exact (Below.refl _ _).alloc (Nat.le_refl _) _
  have hg3 : w3.heap[bt]? = some (.cells #[ifv tt, .slice none 0 0, .int .i64 0] 71 (0, 0)) := by rw [← hw3, ← hbt]; exact heap_alloc_new w2 _
  have hb3 : Below w.heap.size w w3 := HB2.out.trans (hb23.mono HB2.out.size)
  have hs2 := HB2.out.size
  have hts3 : TS (fun k => w.heap.size ≤ k ∧ ¬ (w2.heap.size ≤ k)) w3 tt (joinL L) [] 1 0 := (HTS.out.shrink (N := fun k => w2.heap.size ≤ k) (fun k hk => hk)).below hb23
  have HLO : Hid (∀ W, Below w3.heap.size w3 W → Calls Try.prog 45 #[.slice a n c] W fun e w5 => ∃ gw, e = .returned (.slice (some ⟨gw, 0, none⟩) n n) ∧ Hid (Below w3.heap.size w3 w5 ∧ RdN w5 (some ⟨gw, 0, none⟩) n n (lens L) ∧ bt < gw)) := by
    intro W hW
    have hbl := heap_lt hg3
    have hsW := hW.size
    refine (lengthsOf_any G a n c L W (H.out.below (hb3.trans (hW.mono hb3.size))) (by omega)).mono ?_
    rintro e w5 ⟨rfl, ho, hb⟩
    exact ⟨_, rfl, hW.trans (hb.mono hsW), Rc.own ho, by omega⟩
  have HRE : Hid (∀ W gw, Hid (Below w3.heap.size w3 W ∧ RdN W (some ⟨gw, 0, none⟩) n n (lens L) ∧ bt < gw) → Calls Try.prog 44 #[.pointer (some ⟨bt, 1, none⟩), .int .i64 0, .int .i64 0, .slice (some ⟨gw, 0, none⟩) n n] W fun e w6 => e = .returned (.tuple #[]) ∧
      Hid (TX (fun k => w.heap.size ≤ k) w6 bt L 0 ∧ Below w.heap.size w w6)) := by
    intro W gw hh
    obtain ⟨hW, hrd, hgw⟩ := hh.out
    have hbl := heap_lt hg3
    have hsW := hW.size
    refine (treplace_0 (fun k => k = bt) (fun k => bt < k) bt (ifv tt) (lens L) (some ⟨gw, 0, none⟩) n n W ((hW.block bt hbl).trans hg3) rfl (fun k hk e => by omega) (fun k hk => by omega) hrd (fun _ ad e => by cases e; exact hgw) hn (by rw [HZ.out]; omega)).mono ?_
    intro e w6 hp
    exact ⟨hp.1, new_fin HNE.out HPL.out hts3 (fun k hk => by omega) hW (fun k hk => hk) (fun k hk => hk) (hb3.trans (hW.mono hb3.size)) (by omega) ⟨rfl, hp.2⟩⟩
  have HW3 : Hid (w2.alloc (.cells #[.iface 77 (.pointer (some ⟨tt, 0, none⟩)), .slice none 0 0, .int .i64 0] 71) = w3) := hw3
  have HBT := Lib.hid hbt
  clear hbt hw3 hb23 hg3 hb3 hs2 hts3 HTS HB2 HB1 HRD
  rw [HW3.out, HBT.out]
  go_region_with (first
    | (go_at_call 45; refine (HLO.out _ (by first | exact Below.refl _ _ | exact (Below.refl _ _).drew)).mono ?_; rintro e w5 ⟨gw, rfl, hl5⟩)
    | (go_at_call 44; refine (HRE.out _ gw hl5).mono ?_; rintro e w6 ⟨rfl, hfin⟩))
  all_goals
    go_wp2_with fail
    go_ret
    exact ⟨bt, rfl, hfin.out⟩

set_option maxHeartbeats 4000000 in
theorem new_none0 (aa : Option Addr) (cc : Nat) (w : World) :
    Calls Try.prog 21 #[.slice aa 0 cc] w fun e w' => ∃ bt, e = .returned (.pointer (some ⟨bt, 0, none⟩)) ∧ TX (fun k => w.heap.size ≤ k) w' bt [[]] 0 ∧ Below w.heap.size w w' := by
  obtain ⟨w0, hw0⟩ : ∃ w0, w.alloc (.cells #[.slice none 0 0] 31) = w0 := ⟨_, rfl⟩
  have h : RdL (fun k => k = w.heap.size) w0 (some ⟨w.heap.size, 0, none⟩) 1 1 [[]] := by rw [← hw0]; exact one_rdl0 w
  have hb0 : Below w.heap.size w w0 := by rw [← hw0]; exact (Below.refl _ _).alloc (Nat.le_refl _) _
  have hok : okL [[]] = true := by decide
  have HW0 := Lib.hid hw0
  have HB0 := Lib.hid hb0
  obtain ⟨L, hL⟩ : ∃ L : List (List Int), [[]] = L := ⟨_, rfl⟩
  rw [hL] at h hok ⊢
  obtain ⟨a, ha⟩ : ∃ a : Option Addr, some ⟨w.heap.size, 0, none⟩ = a := ⟨_, rfl⟩
  rw [ha] at h
  have HAA := Lib.hid ha
  have hn : 0 < 1 := by omega
  clear hL hw0 hb0 ha
  have hl := h.len
  have hne : L ≠ [] := by intro e; subst e; simp at hl
  have hj := joinL_len hne
  have hnm : normL L = L := if_neg hne
  unfold okL at hok
  rw [hnm, Bool.and_eq_true, decide_eq_true_eq] at hok
  obtain ⟨ho1, ho2⟩ := hok
  have hany : L.any has10 = false := by simpa using ho1
  have hpl : plainL L := plain_iff.1 hany
  have hsz : sizeN (lens L) ≤ 65537 := by omega
  have HSZ := Lib.hid (sizeOf_any _ a 1 1 L w0 h (by omega))
  have HE := Lib.hid (haveEnd_any _ a 1 1 L w0 h)
  have HJ := Lib.hid (joined_any _ a 1 1 L w0 h (by omega))
  rw [hany] at HE
  obtain ⟨Z, hZ⟩ : ∃ Z, sizeN (lens L) = Z := ⟨_, rfl⟩
  rw [hZ] at HSZ hj hsz
  have t1 : decide ((65536 : Int) < (Z : Int) - 1) = false := by simp; omega
  have t2 : ¬ ((65536 : Int) < (Z : Int) - 1) := by omega
  have hwf := rdl_wf h
  have hcnt := size_count L
  rw [hZ] at hcnt
  have H := Lib.hid h
  have HNE := Lib.hid hne
  have HPL := Lib.hid hpl
  have HWF := Lib.hid hwf
  have HO2 := Lib.hid ho2
  have HZ := Lib.hid hZ
  have HLL := Lib.hid hl
  clear ho1 hnm hj hZ hl h hany hne hpl hwf ho2
  go_enter Try.func21, Try.ntmps21
  go_upto_region 3 with fail
  rw [HW0.out, HAA.out]
  go_wp2_with (first
    | (go_at_call 40; refine HSZ.out.mono ?_; rintro e w' ⟨rfl, rfl⟩)
    | (go_at_call 41; refine HE.out.mono ?_; rintro e w' ⟨rfl, rfl⟩))
  refine HJ.out.mono ?_
  rintro e w1 ⟨ja, jc, rfl, ho, hb1⟩
  have HRD := Lib.hid (own_rd ho HWF.out)
  have HB1 : Hid (Below w.heap.size w w1) := HB0.out.trans (hb1.mono HB0.out.size)
  have HB01 := Lib.hid hb1
  clear ho hb1 HJ HSZ HE
  go_wp2_with fail
  refine (ts_new (fun k => w.heap.size ≤ k) ja _ jc (joinL L) w1 HRD.out HO2.out (fun k hk => Nat.le_trans HB1.out.size hk)).mono ?_
  rintro e w2 ⟨tt, rfl, hts, hb2⟩
  have HTS := Lib.hid hts
  have HB2 : Hid (Below w.heap.size w w2) := HB1.out.trans (hb2.mono HB1.out.size)
  have HB02 : Hid (Below w0.heap.size w0 w2) := HB01.out.trans (hb2.mono HB01.out.size)
  clear hts hb2
  go_wp2_with fail
  obtain ⟨bt, hbt⟩ : ∃ bt, w2.heap.size = bt := ⟨_, rfl⟩
  obtain ⟨w3, hw3⟩ : ∃ w3, w2.alloc (.cells #[ifv tt, .slice none 0 0, .int .i64 0] 71) = w3 := ⟨_, rfl⟩
  have hb23 : Below w2.heap.size w2 w3 := by rw [← hw3]; exact (Below.refl _ _).alloc (Nat.le_refl _) _
  have hg3 : w3.heap[bt]? = some (.cells #[ifv tt, .slice none 0 0, .int .i64 0] 71 (0, 0)) := by rw [← hw3, ← hbt]; exact heap_alloc_new w2 _
  have hb3 : Below w.heap.size w w3 := HB2.out.trans (hb23.mono HB2.out.size)
  have hs2 := HB2.out.size
  have hb03 : Below w0.heap.size w0 w3 := HB02.out.trans (hb23.mono HB02.out.size)
  have hts3 : TS (fun k => w.heap.size ≤ k ∧ ¬ (w2.heap.size ≤ k)) w3 tt (joinL L) [] 1 0 := (HTS.out.shrink (N := fun k => w2.heap.size ≤ k) (fun k hk => hk)).below hb23
  have HLO : Hid (∀ W, Below w3.heap.size w3 W → Calls Try.prog 45 #[.slice a 1 1] W fun e w5 => ∃ gw, e = .returned (.slice (some ⟨gw, 0, none⟩) 1 1) ∧ Hid (Below w3.heap.size w3 w5 ∧ RdN w5 (some ⟨gw, 0, none⟩) 1 1 (lens L) ∧ bt < gw)) := by
    intro W hW
    have hbl := heap_lt hg3
    have hsW := hW.size
    refine (lengthsOf_any _ a 1 1 L W (H.out.below (hb03.trans (hW.mono hb03.size))) (by omega)).mono ?_
    rintro e w5 ⟨rfl, ho, hb⟩
    exact ⟨_, rfl, hW.trans (hb.mono hsW), Rc.own ho, by omega⟩
  have HRE : Hid (∀ W gw, Hid (Below w3.heap.size w3 W ∧ RdN W (some ⟨gw, 0, none⟩) 1 1 (lens L) ∧ bt < gw) → Calls Try.prog 44 #[.pointer (some ⟨bt, 1, none⟩), .int .i64 0, .int .i64 0, .slice (some ⟨gw, 0, none⟩) 1 1] W fun e w6 => e = .returned (.tuple #[]) ∧
      Hid (TX (fun k => w.heap.size ≤ k) w6 bt L 0 ∧ Below w.heap.size w w6)) := by
    intro W gw hh
    obtain ⟨hW, hrd, hgw⟩ := hh.out
    have hbl := heap_lt hg3
    have hsW := hW.size
    refine (treplace_0 (fun k => k = bt) (fun k => bt < k) bt (ifv tt) (lens L) (some ⟨gw, 0, none⟩) 1 1 W ((hW.block bt hbl).trans hg3) rfl (fun k hk e => by omega) (fun k hk => by omega) hrd (fun _ ad e => by cases e; exact hgw) hn (by rw [HZ.out]; omega)).mono ?_
    intro e w6 hp
    exact ⟨hp.1, new_fin HNE.out HPL.out hts3 (fun k hk => by omega) hW (fun k hk => hk) (fun k hk => hk) (hb3.trans (hW.mono hb3.size)) (by omega) ⟨rfl, hp.2⟩⟩
  have HW3 : Hid (w2.alloc (.cells #[.iface 77 (.pointer (some ⟨tt, 0, none⟩)), .slice none 0 0, .int .i64 0] 71) = w3) := hw3
  have HBT := Lib.hid hbt
  clear hbt hw3 hb23 hg3 hb3 hs2 hb03 hts3 HTS HB2 HB1 HRD
  rw [HW3.out, HBT.out]
  go_region_with (first
    | (go_at_call 45; refine (HLO.out _ (by first | exact Below.refl _ _ | exact (Below.refl _ _).drew)).mono ?_; rintro e w5 ⟨gw, rfl, hl5⟩)
    | (go_at_call 44; refine (HRE.out _ gw hl5).mono ?_; rintro e w6 ⟨rfl, hfin⟩))
  all_goals
    go_wp2_with fail
    go_ret
    exact ⟨bt, rfl, hfin.out⟩

end Go.Proofs.Ytndlebopfojjeaa.U
