/-
  The walk of TextUndoes.
-/
import Derived.Test.YtndlebopfojjeaaTUndoP
import Derived.Test.YtndlebopfojjeaaTDeed
namespace Go.Proofs.Ytndlebopfojjeaa.U
open Go.RowKit
set_option linter.unusedVariables false
set_option linter.unusedSimpArgs false
set_option maxRecDepth 100000

theorem RdL.bound {F : Nat → Prop} {w : World} {a : Option Addr} {n c : Nat} {L : List (List Int)} (h : RdL F w a n c L) : RdL (fun k => F k ∧ k < w.heap.size) w a n c L := by
  obtain ⟨vs, h1, h2, h3⟩ := h
  refine ⟨vs, h1, fun hp ad e => ⟨h2 hp ad e, ?_⟩, h3.1, fun i x hx => ?_⟩
  · obtain ⟨b, off, e2, hb, _⟩ := h1.at_ hp
    rw [e] at e2
    cases e2
    exact hb
  · obtain ⟨ra, rc, e1, e2, e3⟩ := h3.2 i x hx
    exact ⟨ra, rc, e1, e2, fun hp ad e => ⟨e3 hp ad e, e2.inHeap hp ad e⟩⟩
theorem normL_join (L : List (List Int)) : joinL (normL L) = joinL L := by
  unfold normL
  split
  · next e => subst e; rfl
  · rfl

set_option maxHeartbeats 8000000 in
theorem textUndoes_walk (a : Option Addr) (len cap : Nat) (L : List (List Int)) (n : Int) (ma : Option Addr) (mn mc : Nat) (more : List Int) (w : World) (h : RdL (fun k => k < w.heap.size) w a len cap L) (hn : (Lit.int .i64 n).wf = true) (hm : Rd .i32 w ma mn mc more) (hs : sizeN (lens L) ≤ 1048576) (hs2 : mn ≤ 1048576) :
    Calls Try.prog 6 #[.slice a len cap, .int .i64 n, .slice ma mn mc] w fun e w' => e = .returned (.bool true) ∧ Below w.heap.size w w' := by
  have HSM := Lib.hid (small_any _ a len cap L w h hs)
  obtain ⟨n1, n2⟩ := wf_i64_in hn
  cases hsm : smallL L with
  | false =>
    rw [hsm] at HSM
    clear h hm
    go_enter Try.func6, Try.ntmps6
    go_wp2_with (go_at_call 10; refine HSM.out.mono ?_; rintro e w' ⟨rfl, rfl⟩)
    go_ret
    exact ⟨rfl, Below.refl _ _⟩
  | true =>
    rw [hsm] at HSM
    by_cases hmn : 1000 < mn
    · have t1 : decide ((1000 : Int) < (mn : Int)) = true := by simp; omega
      clear h hm
      go_enter Try.func6, Try.ntmps6
      go_wp2_with (go_at_call 10; refine HSM.out.mono ?_; rintro e w' ⟨rfl, rfl⟩)
      go_ret
      exact ⟨rfl, Below.refl _ _⟩
    have t1 : decide ((1000 : Int) < (mn : Int)) = false := by simp; omega
    have t1' : ¬ ((1000 : Int) < (mn : Int)) := by omega
    have HNW := Lib.hid (new_any _ a len cap L w h hs)
    have HNO : Hid (okL L = false → Calls Try.prog 22 #[.slice a len cap] w fun e w' => e = .returned (.pointer none) ∧ w = w') := rnew_no _ a len cap L w h hs
    have HM := Lib.hid hm
    clear h hm
    go_enter Try.func6, Try.ntmps6
    go_upto_region 3 with (go_at_call 10; refine HSM.out.mono ?_; rintro e w' ⟨rfl, rfl⟩)
    go_wp2_with fail
    refine HNW.out.mono ?_
    rintro e w1 (⟨hno, rfl, rfl⟩ | ⟨hok, bt, rfl, T1, hb1⟩)
    · have HNO2 := Lib.hid (HNO.out hno)
      clear HNW HNO hno HSM
      go_wp2_with (go_at_call 22; refine HNO2.out.mono ?_; rintro e w' ⟨rfl, rfl⟩)
      go_ret
      exact ⟨rfl, Below.refl _ _⟩
    · have hR0 : (joinL (normL L)).length ≤ 3000 := by
        rw [normL_join]
        unfold smallL at hsm
        rw [Bool.and_eq_true, decide_eq_true_eq, decide_eq_true_eq] at hsm
        exact hsm.2
      obtain ⟨M, hM⟩ : ∃ M, normL L = M := ⟨_, rfl⟩
      rw [hM] at T1 hR0
      have HNE := Lib.hid T1.ne
      have HPL := Lib.hid T1.plain
      have HWF := Lib.hid T1.wf
      obtain ⟨R, hR⟩ : ∃ R, (joinL M).length = R := ⟨_, rfl⟩
      rw [hR] at hR0
      have HR := Lib.hid hR
      have HB1 := Lib.hid hb1
      have HALL := Lib.hid (all_any _ bt 0 M w1 T1 (by decide))
      obtain ⟨N, hN⟩ : ∃ N, M.length = N := ⟨_, rfl⟩
      rw [hN] at HALL
      have HT1 := Lib.hid T1
      clear HNW HNO HSM hok T1 hM hb1 hR hs hs2 hn
      go_wp2_with fail
      refine HALL.out.mono ?_
      rintro e w2 ⟨a2, c2, rfl, F2, hb12⟩
      have HR2 : Hid (RdL (fun k => w1.heap.size ≤ k ∧ k < w2.heap.size) w2 a2 N c2 M) := (F2.rdl (lines_wf HWF.out)).bound
      have HB12 := Lib.hid hb12
      have HT2 := Lib.hid (HT1.out.below hb12)
      have HRT := Lib.hid (runesT_any _ bt 0 M w2 HT2.out)
      rw [HR.out] at HRT
      clear HALL F2 hb12 hN
      go_upto_region 7 with fail
      go_cut [1] (fun s1 wx => ∃ k : Nat, s1 = .int .i64 k ∧ k ≤ R ∧ wx = w2)
      case first =>
        by_cases h1 : n < 0
        · go_wp2_with (go_at_call 23; refine HRT.out.mono ?_; rintro e w' ⟨rfl, rfl⟩)
          all_goals
            go_meet
            exact ⟨0, by first | rfl | (congr 1; omega) | (congr 1; simp only [Int.min_def, Int.max_def]; split <;> split <;> omega), by omega, rfl⟩
        · by_cases h2 : n ≤ (R : Int)
          · go_wp2_with (go_at_call 23; refine HRT.out.mono ?_; rintro e w' ⟨rfl, rfl⟩)
            all_goals
              go_meet
              exact ⟨n.toNat, by first | rfl | (congr 1; omega) | (congr 1; simp only [Int.min_def, Int.max_def]; split <;> split <;> omega), by omega, rfl⟩
          · go_wp2_with (go_at_call 23; refine HRT.out.mono ?_; rintro e w' ⟨rfl, rfl⟩)
            all_goals
              go_meet
              exact ⟨R, by first | rfl | (congr 1; omega) | (congr 1; simp only [Int.min_def, Int.max_def]; split <;> split <;> omega), by omega, rfl⟩
      case rest =>
      obtain ⟨k, rfl, hk, rfl⟩ := hcut
      clear n1 n2 HRT
      have hkl : k ≤ (joinL M).length := by rw [HR.out]; exact hk
      have hml := HM.out.1
      have hP := place_any _ bt 0 k M wc HT2.out (by unfold i64b; omega)
      have hins := put_ins HNE.out hkl more (by rw [HR.out, hml]; omega)
      have hsli := put_sli HNE.out HPL.out hkl more
      have hdel := put_del HNE.out HPL.out hkl more
      have hlen2 := put_len hkl more
      have hpre : placeR M k = ((((findP (lens M) k).1 : Nat) : Int), (((findP (lens M) k).2 : Nat) : Int), 0) := by unfold placeR; rw [if_pos ⟨by omega, by omega⟩, Int.toNat_natCast]
      have hpre2 : placeR (putL M k more) ((k : Int) + (mn : Int)) = ((((findP (lens (putL M k more)) (k + mn)).1 : Nat) : Int), (((findP (lens (putL M k more)) (k + mn)).2 : Nat) : Int), 0) := by
        unfold placeR
        rw [if_pos ⟨by omega, by rw [hlen2, HR.out, hml]; omega⟩, show ((k : Int) + (mn : Int)).toNat = k + mn from by omega]
      rw [hml] at hsli hdel
      rw [hpre] at hP
      obtain ⟨x1, hx1, hc1, _⟩ := place_has HNE.out hkl
      have hcb := off_le hx1 hc1
      rw [HR.out] at hcb
      have hi1 := (List.getElem?_eq_some_iff.1 hx1).1
      have hcn := HT2.out.count
      obtain ⟨x2, hx2, hc2, _⟩ := place_has (put_ne M k more) (k := k + mn) (by rw [hlen2, HR.out, hml]; omega)
      have hdb := off_le hx2 hc2
      rw [hlen2, HR.out, hml] at hdb
      have hj1 := (List.getElem?_eq_some_iff.1 hx2).1
      have hjc : (putL M k more).length ≤ 65537 := by
        have h1 := split_count ((joinL M).take k ++ (more ++ (joinL M).drop k))
        have h2 : (joinL (putL M k more)).length = ((joinL M).take k ++ (more ++ (joinL M).drop k)).length := by rw [put_join]
        have h3 : (putL M k more).length = (splitL ((joinL M).take k ++ (more ++ (joinL M).drop k))).length := rfl
        rw [hlen2, HR.out, hml] at h2
        omega
      obtain ⟨i, hi⟩ : ∃ i, (findP (lens M) k).1 = i := ⟨_, rfl⟩
      obtain ⟨c, hc⟩ : ∃ c, (findP (lens M) k).2 = c := ⟨_, rfl⟩
      obtain ⟨j, hj⟩ : ∃ j, (findP (lens (putL M k more)) (k + mn)).1 = j := ⟨_, rfl⟩
      obtain ⟨d, hd⟩ : ∃ d, (findP (lens (putL M k more)) (k + mn)).2 = d := ⟨_, rfl⟩
      rw [hi, hc] at hins hsli hdel hP
      rw [hj, hd] at hsli hdel hpre2
      rw [hi] at hi1
      rw [hc] at hcb
      rw [hj] at hj1
      rw [hd] at hdb
      simp only at hP
      have HP := Lib.hid hP
      have HINS := Lib.hid hins
      have HSLI := Lib.hid hsli
      have HDEL := Lib.hid hdel
      have HPRE2 := Lib.hid hpre2
      have hbounds : i ≤ 65537 ∧ c ≤ 65536 ∧ j ≤ 65537 ∧ d ≤ 65536 := by omega
      clear hP hins hsli hdel hpre hpre2 hx1 hc1 hcb hi1 hx2 hc2 hdb hj1 hjc hi hc hj hd hlen2 hkl hcn
      go_wp2_with fail
      refine HP.out.mono ?_
      rintro e w3 ⟨rfl, hb3⟩
      have HB3 := Lib.hid hb3
      clear hb3 HP
      go_upto_region 9 with fail
      obtain ⟨pp, hpp⟩ : ∃ pp, w3.heap.size = pp := ⟨_, rfl⟩
      obtain ⟨w4, hw4⟩ : ∃ w4, w3.alloc (.cells #[.int .i64 (i : Nat), .int .i64 (c : Nat)] 30) = w4 := ⟨_, rfl⟩
      have g4 : w4.heap[pp]? = some (.cells #[.int .i64 (i : Nat), .int .i64 (c : Nat)] 30 (0, 0)) := by rw [← hw4, ← hpp]; exact heap_alloc_new w3 _
      have hs4 : w4.heap.size = pp + 1 := by rw [← hw4, ← hpp]; simp
      have b34 : Below pp w3 w4 := by rw [← hw4]; exact (Below.refl _ _).alloc (by omega) _
      rw [hpp, hw4]
      have hz1 := HB1.out.size
      have hz2 := HB12.out.size
      have hz3 := HB3.out.size
      have b24 : Below wc.heap.size wc w4 := HB3.out.trans (b34.mono (by omega))
      have b14 : Below w1.heap.size w1 w4 := HB12.out.trans (b24.mono hz2)
      have b04 : Below w.heap.size w w4 := HB1.out.trans (b14.mono hz1)
      obtain ⟨s1, hs1⟩ : ∃ s1, w1.heap.size = s1 := ⟨_, rfl⟩
      obtain ⟨B, hB⟩ : ∃ B, w.heap.size = B := ⟨_, rfl⟩
      have tq : TX (fun x => B ≤ x ∧ ¬ (s1 ≤ x ∧ x < pp + 1)) w1 bt M 0 := HT1.out.bound.mono (fun x hx => by omega) (Nat.le_refl _)
      have HI := Lib.hid (ins_tq tq b14 (fun x hx => by omega) (i : Nat) (c : Nat) ma mn mc more (HM.out.below b04) (HM.out.inHeap.mono (fun x hx => ⟨by have := b04.size; omega, fun hq => by omega⟩)) (by unfold i64b; omega) (by unfold i64b; omega) (by decide) _ _ HINS.out)
      have HR4 : Hid (RdL (fun x => s1 ≤ x ∧ x < pp) w4 a2 N c2 M) := (HR2.out.below b24).mono (fun x hx => by omega)
      have HS : Hid (B ≤ s1 ∧ s1 ≤ pp ∧ w4.heap.size = pp + 1) := ⟨by omega, by omega, hs4⟩
      have HB4 : Hid (Below B w w4) := by show Below _ _ _; rw [← hB]; exact b04
      have HBE := Lib.hid hB
      have a40 := cell_row g4 0
      have a41 := cell_row g4 1
      have l4 := heap_lt g4
      have HG4 := Lib.hid g4
      clear hpp hw4 g4 hs4 b34 hz1 hz2 hz3 b24 b14 b04 hs1 tq HR2 HB1 HB12 HB3 HT1 HT2 HINS hB
      go_wp2_with fail
      refine HI.out.mono ?_
      rintro e w5 ⟨rfl, h5⟩
      have T5 := Lib.hid h5.out.1
      have hf5 := h5.out.2
      obtain ⟨p1, p2, p3⟩ := HS.out
      have hz5 := hf5.size
      have HB5 : Hid (Below B w w5) := HB4.out.trans (hf5.below (by omega) (fun x hx => hx.1.1))
      have HR5 : Hid (RdL (fun x => s1 ≤ x ∧ x < pp) w5 a2 N c2 M) := HR4.out.frF hf5 (fun x hx h => by omega)
      have g5 : w5.heap[pp]? = some (.cells #[.int .i64 (i : Nat), .int .i64 (c : Nat)] 30 (0, 0)) := (hf5.block pp (by omega) (fun h => by omega)).trans HG4.out
      have HG5 := Lib.hid g5
      have HZ5 : Hid (pp + 1 ≤ w5.heap.size) := by show _ ≤ _; omega
      have hP2 := place_any _ bt _ ((k : Int) + (mn : Int)) _ w5 T5.out (by unfold i64b; omega)
      rw [HPRE2.out] at hP2
      simp only at hP2
      have HP2 := Lib.hid hP2
      have q1 : IntKind.i64.wrap ((k : Int) + (mn : Int)) = (k : Int) + (mn : Int) := by rw [IntKind.wrap_i64]; omega
      clear h5 hf5 p1 p2 p3 hz5 a40 a41 l4 HG4 HR4 HB4 HI g5 hP2 HPRE2
      go_wp2_with fail
      refine HP2.out.mono ?_
      rintro e w6 ⟨rfl, hb6⟩
      have HB6 := Lib.hid hb6
      clear hb6 HP2
      go_upto_region 12 with fail
      obtain ⟨qq, hqq⟩ : ∃ qq, w6.heap.size = qq := ⟨_, rfl⟩
      obtain ⟨w7, hw7⟩ : ∃ w7, w6.alloc (.cells #[.int .i64 (j : Nat), .int .i64 (d : Nat)] 30) = w7 := ⟨_, rfl⟩
      have g7 : w7.heap[qq]? = some (.cells #[.int .i64 (j : Nat), .int .i64 (d : Nat)] 30 (0, 0)) := by rw [← hw7, ← hqq]; exact heap_alloc_new w6 _
      have hs7 : w7.heap.size = qq + 1 := by rw [← hw7, ← hqq]; simp
      have b67 : Below qq w6 w7 := by rw [← hw7]; exact (Below.refl _ _).alloc (by omega) _
      rw [hqq, hw7]
      have hz6 := HB6.out.size
      have b57 : Below w5.heap.size w5 w7 := HB6.out.trans (b67.mono (by omega))
      have HSL := Lib.hid (sliceT_any _ bt _ _ (i : Nat) (c : Nat) (j : Nat) (d : Nat) w7 (T5.out.below b57) (by unfold i64b; omega) (by unfold i64b; omega) (by unfold i64b; omega) (by unfold i64b; omega) (by decide))
      rw [HSLI.out] at HSL
      simp only [hml] at HSL
      have HB57 := Lib.hid b57
      have HB7 : Hid (∀ W, Below w7.heap.size w7 W → Below w5.heap.size w5 W ∧ W.heap[pp]? = some (.cells #[.int .i64 (i : Nat), .int .i64 (c : Nat)] 30 (0, 0)) ∧ W.heap[qq]? = some (.cells #[.int .i64 (j : Nat), .int .i64 (d : Nat)] 30 (0, 0))) := by
        intro W hW
        have hx := b57.trans (hW.mono b57.size)
        exact ⟨hx, (hx.block pp (by have := HZ5.out; omega)).trans HG5.out, (hW.block qq (by omega)).trans g7⟩
      obtain ⟨_, G7, G7'⟩ := HB7.out w7 (Below.refl _ _)
      have a70 := cell_row G7 0
      have a71 := cell_row G7 1
      have a72 := cell_row G7' 0
      have a73 := cell_row G7' 1
      have l7 := heap_lt G7
      have l7' := heap_lt G7'
      clear hqq hw7 g7 hs7 b67 hz6 b57 HB6 G7 G7' HSLI HG5
      go_wp2_with fail
      refine HSL.out.mono ?_
      rintro e w8 ⟨a8, c8, rfl, ho8, hb78⟩
      have hrd8 := own_rd ho8 HM.out.2.2.2.1
      obtain ⟨hx8, G8, G8'⟩ := HB7.out w8 hb78
      have HX8 := Lib.hid hx8
      have hbw8 : Below B w w8 := HB5.out.trans (hx8.mono (by have := HZ5.out; have := HS.out; omega))
      have hRN := runes_any a8 ma mn mn c8 mc more more w8 hrd8 (HM.out.below (by rw [HBE.out]; exact hbw8))
      rw [decide_eq_true (rfl : more = more)] at hRN
      have HRN := Lib.hid hRN
      have HB78 := Lib.hid hb78
      clear a70 a71 a72 a73 l7 l7' HSL ho8 hrd8 hb78 hRN G8 G8' hx8 hbw8
      go_wp2_with fail
      refine HRN.out.mono ?_
      rintro e w9 ⟨rfl, hb89⟩
      have hb79 := HB78.out.trans (hb89.mono HB78.out.size)
      obtain ⟨hx9, G9, G9'⟩ := HB7.out w9 hb79
      have a70 := cell_row G9 0
      have a71 := cell_row G9 1
      have a72 := cell_row G9' 0
      have a73 := cell_row G9' 1
      have l7 := heap_lt G9
      have l7' := heap_lt G9'
      have HD := Lib.hid (del_tq T5.out hx9 (fun x hx => by have := hx9.size; have := HZ5.out; have := HS.out; omega) (i : Nat) (c : Nat) (j : Nat) (d : Nat) (by unfold i64b; omega) (by unfold i64b; omega) (by unfold i64b; omega) (by unfold i64b; omega) (by decide) _ _ HDEL.out)
      have HX9 := Lib.hid hx9
      clear hb89 hb79 hx9 G9 G9' HRN HB78 HB7 HX8
      go_wp2_with fail
      refine HD.out.mono ?_
      rintro e w10 ⟨rfl, h10⟩
      have T10 := Lib.hid h10.out.1
      have hf10 := h10.out.2
      have hz9 := HX9.out.size
      have hz10 := hf10.size
      have HB10 : Hid (Below B w w10 ∧ B ≤ w10.heap.size) := by
        obtain ⟨p1, p2, p3⟩ := HS.out
        have := HZ5.out
        exact ⟨(HB5.out.trans (HX9.out.mono (by omega))).trans (hf10.below (by omega) (fun x hx => hx.1.1)), by omega⟩
      have HR10 : Hid (RdL (fun x => s1 ≤ x ∧ x < pp) w10 a2 N c2 M) := (HR5.out.below HX9.out).frF hf10 (fun x hx h => by omega)
      have hA := all_any _ bt _ M w10 T10.out (by decide)
      obtain ⟨N', hN'⟩ : ∃ N', M.length = N' := ⟨_, rfl⟩
      rw [hN'] at hA
      have HA := Lib.hid hA
      clear h10 hf10 hz9 hz10 HD HX9 HR5 HB5 a70 a71 a72 a73 l7 l7' hA hN'
      go_wp2_with fail
      refine HA.out.mono ?_
      rintro e w11 ⟨a11, c11, rfl, F11, hb11⟩
      have hS := rsame_any _ _ a11 a2 N' N c11 c2 M M w11 (F11.rdl (lines_wf HWF.out)) (HR10.out.below hb11)
      rw [decide_eq_true (rfl : M = M)] at hS
      have HSS := Lib.hid hS
      have HB11 : Hid (Below B w w11 ∧ B ≤ w11.heap.size) := ⟨HB10.out.1.trans (hb11.mono HB10.out.2), by have := hb11.size; have := HB10.out.2; omega⟩
      clear hS F11 hb11 HA
      go_wp2_with fail
      refine HSS.out.mono ?_
      rintro e w12 ⟨rfl, hb12⟩
      have HB12 : Hid (Below B w w12 ∧ B ≤ w12.heap.size) := ⟨HB11.out.1.trans (hb12.mono HB11.out.2), by have := hb12.size; have := HB11.out.2; omega⟩
      clear hb12 HSS
      go_wp2_with fail
      refine (awake_any w12).mono ?_
      rintro e w13 ⟨rfl, hb13⟩
      go_wp2_with fail
      go_ret
      exact ⟨rfl, by rw [HBE.out]; exact HB12.out.1.trans (hb13.mono HB12.out.2)⟩
end Go.Proofs.Ytndlebopfojjeaa.U
