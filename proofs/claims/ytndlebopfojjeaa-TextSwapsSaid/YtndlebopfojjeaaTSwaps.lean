/-
  The walk of TextSwaps.
-/
import Derived.Test.YtndlebopfojjeaaTSwapP
import Derived.Test.YtndlebopfojjeaaTUndo
import Derived.Test.YtndlebopfojjeaaTRefN
namespace Go.Proofs.Ytndlebopfojjeaa.U
open Go.RowKit
set_option linter.unusedVariables false
set_option linter.unusedSimpArgs false
set_option maxRecDepth 100000

theorem okL_plain {L : List (List Int)} (h : okL L = true) : L.any has10 = false := by
  unfold okL at h
  rw [Bool.and_eq_true] at h
  simpa using h.1

theorem sizeN_drop_le (a : List Nat) (i : Nat) : sizeN (a.drop i) ≤ sizeN a := by
  have h : sizeN (a.take i) + sizeN (a.drop i) = sizeN a := by rw [← sizeN_append, List.take_append_drop]
  omega
set_option maxHeartbeats 8000000 in
theorem textSwaps_walk (a : Option Addr) (len cap : Nat) (L : List (List Int)) (p q : Int) (ma : Option Addr) (mn mc : Nat) (more : List (List Int)) (w : World) (h : RdL (fun k => k < w.heap.size) w a len cap L) (hp : (Lit.int .i64 p).wf = true) (hq : (Lit.int .i64 q).wf = true) (hm : RdL (fun k => k < w.heap.size) w ma mn mc more) (hs : sizeN (lens L) ≤ 1048576) (hs2 : sizeN (lens more) ≤ 1048576) :
    Calls Try.prog 7 #[.slice a len cap, .agg #[.int .i64 p, .int .i64 q], .slice ma mn mc] w fun e w' => e = .returned (.bool true) ∧ Below w.heap.size w w' := by
  obtain ⟨B, hB⟩ : ∃ B, w.heap.size = B := ⟨_, rfl⟩
  obtain ⟨w1, hw1⟩ : ∃ w1, w.alloc (.cells #[.int .i64 p, .int .i64 q] 38) = w1 := ⟨_, rfl⟩
  have b01 : Below w.heap.size w w1 := by rw [← hw1]; exact (Below.refl _ _).alloc (Nat.le_refl _) _
  have g1 : w1.heap[B]? = some (.cells #[.int .i64 p, .int .i64 q] 38 (0, 0)) := by rw [← hw1, ← hB]; exact heap_alloc_new w _
  have hs1 : w1.heap.size = B + 1 := by rw [← hw1, ← hB]; simp
  have HL := Lib.hid (h.below b01)
  have HMo := Lib.hid (hm.below b01)
  have HSM := Lib.hid (small_any _ a len cap L w1 HL.out hs)
  have HSM2 := Lib.hid (small_any _ ma mn mc more w1 HMo.out hs2)
  have hml := hm.len
  have HW := Lib.hid hw1
  have HBE := Lib.hid hB
  have HB1 : Hid (Below B w w1 ∧ B ≤ w1.heap.size) := ⟨by rw [← hB]; exact b01, by omega⟩
  have HS1 := Lib.hid hs1
  have HG1 := Lib.hid g1
  obtain ⟨p1, p2⟩ := wf_i64_in hp
  obtain ⟨q1, q2⟩ := wf_i64_in hq
  rw [hB] at HL HMo
  clear h hm b01 g1 hs1 hw1 hp hq
  rw [hB]
  clear hB
  cases hsm : smallL L with
  | false =>
    rw [hsm] at HSM
    go_enter Try.func7, Try.ntmps7
    go_upto_region 1 with fail
    rw [HBE.out, HW.out]
    go_wp2_with (first
      | (go_at_call 10; refine HSM.out.mono ?_; rintro e w' ⟨rfl, rfl⟩)
      | (go_at_call 14; refine (awake_any w1).mono ?_; rintro e w' ⟨rfl, hb⟩))
    go_ret
    exact ⟨rfl, HB1.out.1.trans (hb.mono HB1.out.2)⟩
  | true =>
    rw [hsm] at HSM
    cases hsm2 : smallL more with
    | false =>
      rw [hsm2] at HSM2
      go_enter Try.func7, Try.ntmps7
      go_upto_region 1 with fail
      rw [HBE.out, HW.out]
      go_wp2_with fail
      refine HSM.out.mono ?_
      rintro e w' ⟨rfl, rfl⟩
      go_wp2_with (first
        | (go_at_call 10; refine HSM2.out.mono ?_; rintro e w' ⟨rfl, rfl⟩)
        | (go_at_call 14; refine (awake_any w1).mono ?_; rintro e w' ⟨rfl, hb⟩))
      go_ret
      exact ⟨rfl, HB1.out.1.trans (hb.mono HB1.out.2)⟩
    | true =>
    rw [hsm2] at HSM2
    by_cases hmn : mn = 0
    · subst hmn
      go_enter Try.func7, Try.ntmps7
      go_upto_region 1 with fail
      rw [HBE.out, HW.out]
      go_wp2_with fail
      refine HSM.out.mono ?_
      rintro e w' ⟨rfl, rfl⟩
      go_wp2_with (first
        | (go_at_call 10; refine HSM2.out.mono ?_; rintro e w' ⟨rfl, rfl⟩)
        | (go_at_call 14; refine (awake_any w1).mono ?_; rintro e w' ⟨rfl, hb⟩))
      go_ret
      exact ⟨rfl, HB1.out.1.trans (hb.mono HB1.out.2)⟩
    have t0 : ((mn : Int) == 0) = false := by simp; omega
    have hmne : more ≠ [] := by intro e; subst e; simp at hml; omega
    have HNW := Lib.hid (new_any _ a len cap L w1 HL.out hs)
    have HNO : Hid (okL L = false → Calls Try.prog 22 #[.slice a len cap] w1 fun e w' => e = .returned (.pointer none) ∧ w1 = w') := rnew_no _ a len cap L w1 HL.out hs
    have hmsz := joinL_len hmne
    unfold smallL at hsm hsm2
    rw [Bool.and_eq_true, decide_eq_true_eq, decide_eq_true_eq] at hsm hsm2
    obtain ⟨hl1, hl2⟩ := hsm
    obtain ⟨hm1, hm2⟩ := hsm2
    rw [hml] at hm1
    have HMNE := Lib.hid hmne
    have HML := Lib.hid hml
    have HMSZ : Hid (sizeN (lens more) ≤ 3001) := by show _ ≤ _; omega
    have HJ : Hid ((joinL L).length ≤ 3000) := hl2
    have HSL := Lib.hid hs
    have HSMo := Lib.hid hs2
    clear hl1 hl2 hm2 hmne hml hmsz hs hs2
    go_enter Try.func7, Try.ntmps7
    go_upto_region 1 with fail
    rw [HBE.out, HW.out]
    go_wp2_with fail
    refine HSM.out.mono ?_
    rintro e w' ⟨rfl, rfl⟩
    go_wp2_with fail
    refine HSM2.out.mono ?_
    rintro e w' ⟨rfl, rfl⟩
    go_wp2_with fail
    refine HNW.out.mono ?_
    clear HSM HSM2 HNW
    rintro e w2 (⟨hno, rfl, rfl⟩ | ⟨hok, bt, rfl, T1, hb12⟩)
    · have HNO2 := Lib.hid (HNO.out hno)
      clear HNO hno
      go_wp2_with (go_at_call 22; refine HNO2.out.mono ?_; rintro e w' ⟨rfl, rfl⟩)
      go_ret
      exact ⟨rfl, HB1.out.1⟩
    have b2 : B + 1 ≤ w2.heap.size := by have := hb12.size; have := HS1.out; omega
    have HB12 : Hid (Below (B + 1) w1 w2) := by show Below _ _ _; rw [← HS1.out]; exact hb12
    have HB2 : Hid (Below B w w2) := HB1.out.1.trans (hb12.mono HB1.out.2)
    have HNW2 := Lib.hid (new_any _ ma mn mc more w2 (HMo.out.below hb12) HSMo.out)
    have HNO2 : Hid (okL more = false → ∀ W, Below w2.heap.size w2 W → Calls Try.prog 22 #[.slice ma mn mc] W fun e w' => e = .returned (.pointer none) ∧ W = w') := fun hno W hW => rnew_no _ ma mn mc more W ((HMo.out.below hb12).below hW) HSMo.out hno
    have HRN := Lib.hid (rnew_ok _ a len cap L w2 (HL.out.below hb12) HSL.out hok)
    obtain ⟨M, hM⟩ : ∃ M, normL L = M := ⟨_, rfl⟩
    rw [hM] at T1 HRN
    have hR0 : (joinL M).length ≤ 3000 := by
      rw [← hM, normL_join]
      exact HJ.out
    have HT1 := Lib.hid T1
    have HPLL := Lib.hid hok
    clear HNO hok hb12 T1 hM
    go_wp2_with fail
    refine HNW2.out.mono ?_
    clear HNW2
    rintro e w3 (⟨hno, rfl, rfl⟩ | ⟨hok2, bt2, rfl, _, hb23⟩)
    · have HNO3 := Lib.hid (HNO2.out hno)
      clear HNO2 hno
      go_wp2_with fail
      refine HRN.out.mono ?_
      rintro e w3 ⟨bx, rfl, _, hb3⟩
      have HNO4 := Lib.hid (HNO3.out w3 hb3)
      have HB3 : Hid (Below B w w3) := HB2.out.trans (hb3.mono (by omega))
      clear hb3
      go_wp2_with fail
      refine HNO4.out.mono ?_
      rintro e w' ⟨rfl, rfl⟩
      go_wp2_with fail
      go_ret
      exact ⟨rfl, HB3.out⟩
    have hanym := okL_plain hok2
    have hne := HT1.out.ne
    have hjl := joinL_len hne
    have hcnt := HT1.out.count
    have hpos := HT1.out.pos
    have hz3 := hb23.size
    have HWF := Lib.hid HT1.out.wf
    have HPL := Lib.hid HT1.out.plain
    have HNE := Lib.hid hne
    have HAM := Lib.hid hanym
    have HSZ : Hid (sizeN (lens M) ≤ 3001) := by show _ ≤ _; omega
    have T3 : TX (fun k => B + 1 ≤ k ∧ k < w2.heap.size) w3 bt M 0 := (HT1.out.bound.mono (fun k hk => ⟨by have := HS1.out; omega, hk.2⟩) (Nat.le_refl _)).below hb23
    have HB13 : Hid (Below (B + 1) w1 w3) := HB12.out.trans (hb23.mono b2)
    have HALL := Lib.hid (all_any _ bt 0 M w3 T3 (by decide))
    obtain ⟨N, hN⟩ : ∃ N, M.length = N := ⟨_, rfl⟩
    rw [hN] at HALL hcnt hpos
    have HN := Lib.hid hN
    have HT3 := Lib.hid T3
    obtain ⟨s2, hs2⟩ : ∃ s2, w2.heap.size = s2 := ⟨_, rfl⟩
    obtain ⟨s3, hs3⟩ : ∃ s3, w3.heap.size = s3 := ⟨_, rfl⟩
    have HS3 := Lib.hid hs3
    rw [hs2] at b2 hz3 HT3
    rw [hs3] at hz3
    clear HNO2 hok2 hb23 HRN T3 hne hjl hanym hN HT1 HB12 HB2 hs2 hs3
    go_wp2_with fail
    refine HALL.out.mono ?_
    rintro e w4 ⟨a2, c2, rfl, F4, hb34⟩
    rw [HS3.out] at F4
    have HR4 : Hid (RdL (fun k => s3 ≤ k ∧ k < w4.heap.size) w4 a2 N c2 M) := (F4.rdl (lines_wf HWF.out)).bound
    have hc2 : N ≤ c2 := by obtain ⟨vs, h1, _⟩ := HR4.out; exact h1.2.1
    have HT4 := Lib.hid (HT3.out.below hb34)
    have HB14 : Hid (Below (B + 1) w1 w4) := HB13.out.trans (hb34.mono (by have := HS3.out; omega))
    have hz4 : s3 ≤ w4.heap.size := by have := hb34.size; have := HS3.out; omega
    have HCT : Hid (∀ W, Below w4.heap.size w4 W → Calls Try.prog 24 #[.pointer (some ⟨bt, 0, none⟩)] W fun e w' => e = .returned (.int .i64 (N : Nat)) ∧ W = w') := by
      intro W hW
      have := count_any _ bt 0 M W (HT4.out.below hW)
      rw [HN.out] at this
      exact this
    have HCE : Hid (∀ W, Below w4.heap.size w4 W → W.cell? ⟨B, 0, none⟩ = some (.int .i64 p) ∧ W.cell? ⟨B, 1, none⟩ = some (.int .i64 q) ∧ B < W.heap.size) := by
      intro W hW
      have h14 : Below (B + 1) w1 W := HB14.out.trans (hW.mono (by omega))
      have g := (h14.block B (by omega)).trans HG1.out
      exact ⟨cell_row g 0, cell_row g 1, heap_lt g⟩
    clear HALL HT3 HB13 hb34 F4
    obtain ⟨x0, x1, x2⟩ := HCE.out w4 (Below.refl _ _)
    have y1 : IntKind.i64.wrap ((N : Int) - 1) = (N : Int) - 1 := by rw [IntKind.wrap_i64]; omega
    go_upto_region 7 with fail
    go_cut [9] (fun s9 wx => ∃ i : Nat, s9 = .int .i64 i ∧ i < N ∧ Hid (Below w4.heap.size w4 wx))
    case first =>
      go_region_with (go_at_call 24; refine (HCT.out _ (by first | exact Below.refl _ _ | exact (Below.refl _ _).drew)).mono ?_; rintro e w' ⟨rfl, rfl⟩)
      all_goals go_wp2_with fail
      all_goals
        go_meet
        exact ⟨(max 0 (min p ((N : Int) - 1))).toNat, by first | rfl | (congr 1; omega) | (congr 1; simp only [Int.min_def, Int.max_def]; split <;> split <;> omega), by omega, by first | exact Below.refl _ _ | exact (Below.refl _ _).drew | exact bdrewN (Below.refl _ _) _⟩
    case rest =>
    obtain ⟨i, rfl, hi, hcb⟩ := hcut
    obtain ⟨w5, hw5⟩ : ∃ x, x = wc := ⟨_, rfl⟩
    subst hw5
    obtain ⟨x3, x4, x5⟩ := HCE.out w5 hcb.out
    have y2 : IntKind.i64.wrap ((N : Int) - (i : Int)) = (N : Int) - (i : Int) := by rw [IntKind.wrap_i64]; omega
    clear x0 x1 x2 y1 p1 p2
    go_upto_region 8 with fail
    go_cut [10] (fun s10 wx => ∃ n : Nat, s10 = .int .i64 n ∧ 1 ≤ n ∧ i + n ≤ N ∧ Hid (Below w4.heap.size w4 wx))
    case first =>
      go_region_with (go_at_call 24; refine (HCT.out _ (by first | exact hcb.out | exact hcb.out.drew)).mono ?_; rintro e w' ⟨rfl, rfl⟩)
      all_goals go_wp2_with fail
      all_goals
        go_meet
        exact ⟨(max 1 (min q ((N : Int) - (i : Int)))).toNat, by first | rfl | (congr 1; omega) | (congr 1; simp only [Int.min_def, Int.max_def]; split <;> split <;> omega), by omega, by omega, by first | exact hcb.out | exact hcb.out.drew | exact bdrewN hcb.out _⟩
    case rest =>
    obtain ⟨n, rfl, hn1, hin, hcb6⟩ := hcut
    obtain ⟨w6, hw6⟩ : ∃ x, x = wc := ⟨_, rfl⟩
    subst hw6
    clear x3 x4 x5 y2 q1 q2 HCE HCT hcb
    have hinM : i + n ≤ M.length := by rw [HN.out]; exact hin
    have hz6 := hcb6.out.size
    obtain ⟨s4, hs4⟩ : ∃ s4, w4.heap.size = s4 := ⟨_, rfl⟩
    rw [hs4] at hz6 hz4
    have HB16 : Hid (Below (B + 1) w1 w6) := HB14.out.trans (hcb6.out.mono (by omega))
    have tq : TX (fun x => B + 1 ≤ x ∧ ¬ (s3 ≤ x ∧ x < s4)) w4 bt M 0 := HT4.out.mono (fun x hx => by omega) (Nat.le_refl _)
    have hm6 : RdL (fun k => k < B) w6 ma mn mc more := HMo.out.below (by rw [HS1.out]; exact HB16.out)
    have hqw : ∀ k, w6.heap.size ≤ k → (fun x => B + 1 ≤ x ∧ ¬ (s3 ≤ x ∧ x < s4)) k := fun k hk => by
      show _ ∧ _
      omega
    have HI := Lib.hid (rep_tq tq hcb6.out hqw (i : Nat) (n : Nat) ma mn mc more (hm6.mono (fun k hk => ⟨by omega, fun hq => by have := hq.1.1; omega⟩)) (by unfold i64b; omega) (by unfold i64b; omega) (by have := HMSZ.out; omega) (by decide) _ _ (rep_ok hinM HAM.out (by have := HSZ.out; have := HMSZ.out; omega)))
    obtain ⟨M', hM'⟩ : ∃ M', repL M i n more = M' := ⟨_, rfl⟩
    have hC : M'.length = N - n + mn := by rw [← hM', rep_count HMNE.out hinM, HN.out, HML.out]
    have HAT : Hid (∀ k x, more[k]? = some x → M'[i + k]? = some x) := by
      intro k x hx
      rw [← hM', rep_at HMNE.out hinM (List.getElem?_eq_some_iff.1 hx).1]
      exact hx
    have HBK : Hid (repT M' (i : Nat) (mn : Nat) ((M.drop i).take n) = (M, 0)) := by
      have := rep_back_ok HNE.out HPL.out HMNE.out hinM (by have := HSZ.out; omega)
      rw [hM', HML.out] at this
      exact this
    rw [hM'] at HI
    have HHZ : Hid (B + 1 ≤ s3 ∧ s3 ≤ s4 ∧ s4 ≤ w6.heap.size) := ⟨by omega, hz4, hz6⟩
    have HR6 : Hid (RdL (fun k => s3 ≤ k ∧ k < s4) w6 a2 N c2 M) := by
      have := HR4.out.below hcb6.out
      rw [hs4] at this
      exact this
    have HS4 := Lib.hid hs4
    clear HT4 HR4 HB14 tq hm6 hqw hcb6 hM' hz6 hz4 hz3 hs4 b2 hinM
    go_wp2_with fail
    refine HI.out.mono ?_
    rintro e w7 ⟨rfl, h7⟩
    have HT7 := Lib.hid h7.out.1
    have hf7 := h7.out.2
    rw [HS4.out] at hf7
    have hz7 := hf7.size
    obtain ⟨z1, z2, z3⟩ := HHZ.out
    have HB17 : Hid (Below (B + 1) w1 w7) := HB16.out.trans (hf7.below (by omega) (fun x hx => hx.1.1))
    have HR7 : Hid (RdL (fun k => s3 ≤ k ∧ k < s4) w7 a2 N c2 M) := HR6.out.frF hf7 (fun x hx h => by omega)
    have HZ7 : Hid (s4 ≤ w7.heap.size) := by show _ ≤ _; omega
    have HCN := Lib.hid (count_any _ bt _ M' w7 HT7.out)
    obtain ⟨C, hCC⟩ : ∃ C, N - n + mn = C := ⟨_, rfl⟩
    rw [hC, hCC] at HCN
    have y3 : IntKind.i64.wrap ((N : Int) - (n : Int)) = (N : Int) - (n : Int) := by rw [IntKind.wrap_i64]; omega
    have y4 : IntKind.i64.wrap ((N : Int) - (n : Int) + (mn : Int)) = (N : Int) - (n : Int) + (mn : Int) := by rw [IntKind.wrap_i64]; omega
    have y5 : ((C : Int) != (N : Int) - (n : Int) + (mn : Int)) = false := by simp; omega
    clear HI h7 hf7 hz7 z1 z2 z3 HR6 HB16 hC hCC
    go_upto_region 11 with (go_at_call 24; refine HCN.out.mono ?_; rintro e w' ⟨rfl, rfl⟩)
    clear HCN y3 y4 y5
    go_wp2_with fail
    go_loopw [11] (fun v wr => ∃ k : Nat, v = .int .i64 k ∧ k ≤ mn ∧ Hid (Below w7.heap.size w7 wr)) (fun v _ => mn - (intOf v).toNat)
    case atStart => exact ⟨0, rfl, Nat.zero_le _, Below.refl _ _⟩
    case round =>
      obtain ⟨k, rfl, hk, hbr⟩ := hrel
      by_cases hlt : k < mn
      · have t1 : (k : Int) < (mn : Int) := by omega
        obtain ⟨x, hx⟩ : ∃ x, more[k]? = some x := ⟨_, List.getElem?_eq_getElem (by rw [HML.out]; exact hlt)⟩
        have HX := Lib.hid hx
        have hL := line_ok _ bt _ (i + k) M' x wr (HT7.out.below hbr.out) (HAT.out k x hx) (by decide)
        rw [Int.natCast_add] at hL
        have HLN := Lib.hid hL
        have y6 : IntKind.i64.wrap ((i : Int) + (k : Int)) = (i : Int) + (k : Int) := by rw [IntKind.wrap_i64]; omega
        clear hx hL
        go_wp2_with fail
        refine HLN.out.mono ?_
        rintro e w8 ⟨a8, c8, rfl, ho8, hb8⟩
        have hbr8 : Below w7.heap.size w7 w8 := hbr.out.trans (hb8.mono hbr.out.size)
        have hb18 : Below w1.heap.size w1 w8 := by
          rw [HS1.out]
          exact HB17.out.trans (hbr8.mono (by have := HZ7.out; have := HHZ.out; omega))
        obtain ⟨b, off, ra, rc, rfl, hbl, _, hcell, hrd, _, _⟩ := HMo.out.get hb18 HX.out
        have hbl8 : b < w8.heap.size := by have := hb18.size; omega
        have hRN := runes_any a8 ra x.length x.length c8 rc x x w8 (own_rd ho8 hrd.2.2.2.1) hrd
        rw [decide_eq_true (rfl : x = x)] at hRN
        have HRN := Lib.hid hRN
        have HB78 := Lib.hid hbr8
        obtain ⟨y, hy⟩ : ∃ y, x.length = y := ⟨_, rfl⟩
        rw [hy] at HRN hcell ⊢
        clear hRN hbr8 hb18 hb8 ho8 hrd HLN HX hy
        go_wp2_with fail
        refine HRN.out.mono ?_
        rintro e w9 ⟨rfl, hb9⟩
        have HB9 : Hid (Below w7.heap.size w7 w9) := HB78.out.trans (hb9.mono HB78.out.size)
        clear hb9 HRN HB78
        go_wp2_with fail
        go_roundw
        case rel => exact ⟨k + 1, by go_num, by omega, HB9⟩
        case measure => simp [intOf]; omega
      · obtain rfl : k = mn := by omega
        have t1 : ¬ ((k : Int) < (k : Int)) := by omega
        obtain ⟨w8, hw8⟩ : ∃ x, x = wr := ⟨_, rfl⟩
        subst hw8
        have HT8 := Lib.hid (HT7.out.below hbr.out)
        have HR8 := Lib.hid (HR7.out.below hbr.out)
        have hz8 := hbr.out.size
        have HB18 : Hid (Below (B + 1) w1 w8) := HB17.out.trans (hbr.out.mono (by have := HZ7.out; have := HHZ.out; omega))
        have hsl := (HR8.out.take (i + n) hin).drop i (by omega)
        rw [List.drop_take] at hsl
        have hci : ¬ c2 = i := by omega
        rw [if_neg hci, Nat.mul_one, show i + n - i = n from by omega] at hsl
        obtain ⟨wa, hwa⟩ : ∃ wa, Option.map (fun x : Addr => x.add i) a2 = wa := ⟨_, rfl⟩
        rw [hwa] at hsl
        have HHZ8 : Hid (s4 ≤ w8.heap.size) := by show _ ≤ _; have := HZ7.out; omega
        have HI := Lib.hid (rep_tq HT8.out (Below.refl _ _) (fun x hx => by have := HHZ.out; have := HHZ8.out; show _ ∧ _; omega) (i : Nat) (k : Nat) wa n (c2 - i) _ (hsl.mono (fun x hx => ⟨by have := HHZ8.out; omega, fun hq => by have := hq.1.2; omega⟩)) (by unfold i64b; omega) (by unfold i64b; omega) (by
          have h1 := size_take_le (M.drop i) n
          have h2 := sizeN_drop_le (lens M) i
          rw [lens_drop] at h1
          have := HSZ.out
          omega) (by decide) _ _ HBK.out)
        have HWA := Lib.hid hwa
        clear hsl hbr HT7 HR7 hwa
        go_wp2_with fail
        rw [HWA.out]
        refine HI.out.mono ?_
        rintro e w9 ⟨rfl, h9⟩
        have HT9 := Lib.hid h9.out.1
        have hf9 := h9.out.2
        have hz9 := hf9.size
        have HB9 : Hid (Below B w w9 ∧ B ≤ w9.heap.size) := by
          obtain ⟨z1, z2, z3⟩ := HHZ.out
          have := HHZ8.out
          have h18 : Below (B + 1) w1 w9 := HB18.out.trans (hf9.below (by omega) (fun x hx => hx.1.1))
          exact ⟨HB1.out.1.trans (h18.mono (by omega)), by omega⟩
        have HR9 : Hid (RdL (fun k => s3 ≤ k ∧ k < s4) w9 a2 N c2 M) := HR8.out.frF hf9 (fun x hx h => by omega)
        have hA := all_any _ bt _ M w9 HT9.out (by decide)
        rw [HN.out] at hA
        have HA := Lib.hid hA
        clear h9 hf9 hz9 HI HT8 HR8 HB18 hA hz8
        go_wp2_with fail
        refine HA.out.mono ?_
        rintro e w10 ⟨a10, c10, rfl, F10, hb10⟩
        have hS := rsame_any _ _ a10 a2 N N c10 c2 M M w10 (F10.rdl (lines_wf HWF.out)) (HR9.out.below hb10)
        rw [decide_eq_true (rfl : M = M)] at hS
        have HSS := Lib.hid hS
        have HB10 : Hid (Below B w w10 ∧ B ≤ w10.heap.size) := ⟨HB9.out.1.trans (hb10.mono HB9.out.2), by have := hb10.size; have := HB9.out.2; omega⟩
        clear hS F10 hb10 HA
        go_wp2_with fail
        refine HSS.out.mono ?_
        rintro e w11 ⟨rfl, hb11⟩
        have HB11 : Hid (Below B w w11 ∧ B ≤ w11.heap.size) := ⟨HB10.out.1.trans (hb11.mono HB10.out.2), by have := hb11.size; have := HB10.out.2; omega⟩
        clear hb11 HSS
        go_wp2_with fail
        refine (awake_any w11).mono ?_
        rintro e w12 ⟨rfl, hb12⟩
        go_wp2_with fail
        go_ret
        exact ⟨rfl, HB11.out.1.trans (hb12.mono HB11.out.2)⟩
end Go.Proofs.Ytndlebopfojjeaa.U
