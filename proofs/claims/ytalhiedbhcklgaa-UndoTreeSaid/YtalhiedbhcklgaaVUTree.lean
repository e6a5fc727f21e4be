/-
  The walk of UndoTree.
-/
import Derived.Test.YtalhiedbhcklgaaVWas
import Derived.Test.YtalhiedbhcklgaaVHist
import Derived.Test.YtalhiedbhcklgaaVArg
import Derived.Test.YtalhiedbhcklgaaVAwakeW
namespace Go.Proofs.Ytalhiedbhcklgaa.U
open Go.RowKit
set_option linter.unusedVariables false
set_option linter.unusedSimpArgs false
set_option maxRecDepth 100000

theorem ne_of_sum2 {c : Ch} {x y : Nat} (h1 : c.old.length = x) (h2 : c.now.length = y) (hz : (x : Int) + (y : Int) > 0) : ¬ (c.old = [] ∧ c.now = []) := by
  rintro ⟨e1, e2⟩
  rw [e1] at h1
  rw [e2] at h2
  simp at h1 h2
  omega

set_option maxHeartbeats 8000000 in
theorem undoTree_wide (a : Option Addr) (len cap : Nat) (L : List (List Int)) (sa : Option Addr) (sn sc : Nat) (ja : Option Addr) (jn jc : Nat) (js : List Int) (w : World) (h : RdL (fun k => k < w.heap.size) w a len cap L) (hsw : RdSt 4 IsSw w sa sn sc) (hj : Rd .i64 w ja jn jc js) (hw : WideL L) (hju : jn * 8 ≤ 140737488351232) :
    Calls Try.prog 6 #[.slice a len cap, .slice sa sn sc, .slice ja jn jc] w fun e w' => e = .returned (.bool true) ∧ Below w.heap.size w w' := by
  have HSM := Lib.hid (small_wide _ a len cap L w h hw)
  have hl := h.len
  cases hsm : smallL L with
  | false =>
    rw [hsm] at HSM
    clear h hw hl hsm hsw hj hju
    go_enter Try.func6, Try.ntmps6
    go_wp2_with fail
    refine HSM.out.mono ?_
    rintro e w' ⟨rfl, rfl⟩
    go_wp2_with fail
    refine (awake_any w).mono ?_
    rintro e w' ⟨rfl, hb⟩
    have HB := Lib.hid hb
    clear hb
    go_wp2_with fail
    go_ret
    exact ⟨rfl, HB.out⟩
  | true =>
    rw [hsm] at HSM
    by_cases h0 : (len : Int) = 0
    · have h01 : ((len : Int) == 0) = true := by simpa using h0
      clear h hw hl hsm hsw hj hju
      go_enter Try.func6, Try.ntmps6
      go_wp2_with fail
      refine HSM.out.mono ?_
      rintro e w' ⟨rfl, rfl⟩
      go_wp2_with fail
      refine (awake_any w).mono ?_
      rintro e w' ⟨rfl, hb⟩
      have HB := Lib.hid hb
      clear hb
      go_wp2_with fail
      go_ret
      exact ⟨rfl, HB.out⟩
    · have h01 : ((len : Int) == 0) = false := by simpa using h0
      have hne : L ≠ [] := fun e => by subst e; simp at hl; omega
      have hsz := siz_small hsm
      have hwf : wfL L := lines_wf (rdl_wf h)
      have H := Lib.hid h
      have HWF := Lib.hid hwf
      have HSW := Lib.hid hsw
      have HJ := Lib.hid hj
      have HSZ := Lib.hid hsz
      have HNE := Lib.hid hne
      have hsn : sn ≤ 9223372036854775807 := by obtain ⟨q1, q2, _⟩ := hsw; unfold maxLen at q2; omega
      have hln := h.small
      clear h hw hl hsm hsw hwf hsz hne hj
      go_enter Try.func6, Try.ntmps6
      go_wp2_with fail
      refine HSM.out.mono ?_
      rintro e w' ⟨rfl, rfl⟩
      clear HSM
      go_wp2_with fail
      refine (new_any w).mono ?_
      rintro e w2 ⟨rfl, P0, F0, hT0, hf0, hP0⟩
      have hb2 : Below w.heap.size w w2 := hf0.below0
      have HT0 := Lib.hid hT0
      have HB2 := Lib.hid hb2
      have HP0 : Hid (∀ k, P0 k → w.heap.size ≤ k) := fun k hk => by rcases hP0 k hk with h | h; exact h.elim; omega
      have HR2 := Lib.hid (rtwin_any _ a len cap L w2 (H.out.below hb2) (by have := HSZ.out; unfold siz at this; omega))
      obtain ⟨bt, hbt⟩ : ∃ bt, w.heap.size + 1 = bt := ⟨_, rfl⟩
      rw [hbt] at HT0 ⊢
      clear hT0 hf0 hP0 hb2 hbt
      go_wp2_with fail
      refine HR2.out.mono ?_
      rintro e w3 ⟨a1, c1, rfl, hf1, hb3⟩
      clear HR2
      obtain ⟨w4, hw4⟩ : ∃ w4, w3.alloc (.cells #[.slice a1 len c1] 22) = w4 := ⟨_, rfl⟩
      have hb34 : Below w3.heap.size w3 w4 := by rw [← hw4]; exact (Below.refl _ _).alloc (Nat.le_refl _) _
      have hg4 : w4.heap[w3.heap.size]? = some (.cells #[.slice a1 len c1] 22 (0, 0)) := by rw [← hw4]; exact heap_alloc_new w3 _
      have hs3 := hb3.size
      have hb24 : Below w2.heap.size w2 w4 := hb3.trans (hb34.mono hs3)
      have HW4 := Lib.hid hw4
      obtain ⟨g, hg⟩ : ∃ g, w3.heap.size = g := ⟨_, rfl⟩
      have HG := Lib.hid hg
      have HST : Hid (∃ T Ls N, StB w.heap.size w w4 bt T (some ⟨g, 0, none⟩) 1 1 Ls a1 len c1 N none ∧ InvT T Ls N 0) := by
        have q3 := (hf1.rdl2 HWF.out).below hb34
        rw [hg] at hg4 q3 hs3
        have s1 := HB2.out.size
        have s2 := hb24.size
        have hgl := heap_lt hg4
        refine ⟨Tr.zero, [L], L, StB.start (H := fun k => w2.heap.size ≤ k ∧ k < g) (HT0.out.below hb24) HP0.out (HB2.out.trans (hb24.mono s1)) hg4 (by omega) (fun hp => by have := HT0.out.lt g hp; omega) (fun hh => by omega) (fun k hk => ⟨by omega, by omega, fun hp => by have := HT0.out.lt k hp; omega⟩) q3 q3, InvT.zero HNE.out HSZ.out HWF.out⟩
      clear hf1 hb3 hb34 hg4 hs3 hb24 hw4 hg HT0 HP0 HB2
      go_upto_region 8 with fail
      rw [HW4.out, HG.out]
      clear HW4 HG
      go_wp2_with fail
      go_loopw [8, 9, 10] (fun v8 v9 v10 wr => ∃ (i : Nat) (ra : Option Addr) (rn rc : Nat) (na : Option Addr) (nn nc : Nat), v10 = .int .i64 (i : Nat) ∧ v9 = .slice ra rn rc ∧ v8 = .slice na nn nc ∧ i ≤ 20 ∧ i ≤ sn ∧ Hid (∃ T Ls N, StB w.heap.size w wr bt T ra rn rc Ls na nn nc N none ∧ InvT T Ls N i)) (fun _ _ v10 _ => ((20 : Int) - intOf v10).toNat)
      case atStart => exact ⟨0, _, _, _, _, _, _, rfl, rfl, rfl, Nat.zero_le _, Nat.zero_le _, HST⟩
      case round =>
        obtain ⟨i, ra, rn, rc, na, nn, nc, rfl, rfl, rfl, hi20, hisn, hst⟩ := hrel
        clear HST
        by_cases hboth : (i : Int) < (sn : Int) ∧ (i : Int) < 20
        · obtain ⟨hlt, h20⟩ := hboth
          obtain ⟨T, Ls, N, hS, hI⟩ := hst.out
          obtain ⟨b, off, p, q, ma, mn, mc, M, ee, rfl, k0, k1, k2, k3, hbl, ip, iq, rM, wM⟩ := HSW.out.swap (W := wr) hS.bel (i := i) (by omega)
          have hbw : b < wr.heap.size := Nat.lt_of_lt_of_le hbl hS.bel.size
          have hrn := hS.wlen
          have hIl := hI.hst.len
          have hcnt := hI.cnt
          have hrnb : rn ≤ 21 := by omega
          have HS0 := Lib.hid hS
          have HI := Lib.hid hI
          have HM := Lib.hid (small_wide _ ma mn mc M wr rM wM)
          clear hst hS hI hrn hIl hcnt hbl
          cases hsm : smallL M with
          | false =>
            rw [hsm] at HM
            clear rM wM ip iq hsm
            go_wp2_with fail
            refine HM.out.mono ?_
            rintro e w' ⟨rfl, rfl⟩
            clear HM
            go_wp2_with fail
            go_roundw
            case rel => exact ⟨i + 1, _, _, _, _, _, _, rfl, rfl, rfl, by omega, by omega, T, Ls, N, HS0.out, HI.out.skip (by omega)⟩
            case measure => first | (simp [intOf]; done) | (simp [intOf]; omega)
          | true =>
            rw [hsm] at HM
            have hszM := siz_small hsm
            have hwfM : wfL M := lines_wf (rdl_wf rM)
            have hfits := HI.out.fits p q hszM hwfM
            have HF := Lib.hid (HS0.out.fits_ (e := ee) rM hfits.1 (by omega) hfits.2.1.ok)
            obtain ⟨c, hc⟩ : ∃ c, fitC N p q M = c := ⟨_, rfl⟩
            rw [hc] at HF hfits
            have HFT := Lib.hid hfits.2
            obtain ⟨x, hx⟩ : ∃ x, c.old.length = x := ⟨_, rfl⟩
            obtain ⟨y, hy⟩ : ∃ y, c.now.length = y := ⟨_, rfl⟩
            obtain ⟨pp, hpp⟩ : ∃ pp, c.pos = pp := ⟨_, rfl⟩
            have hx20 : x ≤ 1048576 := by have h1 := size_count c.old; have h2 := HFT.out.1.2.1.1; unfold siz capM at h2; omega
            have hy20 : y ≤ 1048576 := by have h1 := size_count c.now; have h2 := HFT.out.1.2.2.1.1; unfold siz capM at h2; omega
            rw [hx, hy, hpp] at HF
            have HX := Lib.hid hx
            have HY := Lib.hid hy
            have HPP := Lib.hid hpp
            clear rM wM ip iq hsm hszM hwfM hfits hc hx hy hpp
            go_wp2_with fail
            refine HM.out.mono ?_
            rintro e w' ⟨rfl, rfl⟩
            clear HM
            go_wp2_with fail
            refine HF.out.mono ?_
            rintro e w1 ⟨oa, oc, ca, cc, rfl, hS1⟩
            clear HF HS0 hbw k0 k1 k2 k3
            go_upto_region 13 with fail
            obtain ⟨w2', hw2⟩ : ∃ w2', w1.alloc (.cells #[.int .i64 pp, .slice oa x oc, .slice ca y cc] 24) = w2' := ⟨_, rfl⟩
            rw [hw2] at hS1 ⊢
            obtain ⟨gc, hgc⟩ : ∃ gc, w1.heap.size = gc := ⟨_, rfl⟩
            rw [hgc] at hS1 ⊢
            clear hw2 hgc
            obtain ⟨oa2, oc2, ca2, cc2, d0, d1, d2, dl⟩ := hS1.out.pend
            rw [HPP.out] at d0
            rw [HX.out] at d1
            rw [HY.out] at d2
            go_upto_if 69 with fail
            go_cut [8, 9] (fun v8 v9 wx => ∃ (ra : Option Addr) (rn rc : Nat) (na : Option Addr) (nn nc : Nat), v9 = .slice ra rn rc ∧ v8 = .slice na nn nc ∧ Hid (∃ T Ls N, StB w.heap.size w wx bt T ra rn rc Ls na nn nc N none ∧ InvT T Ls N (i + 1)))
            case first =>
              by_cases hz : (x : Int) + (y : Int) > 0
              · have hz1 : decide (0 < (x : Int) + (y : Int)) = true := by simpa using hz
                have hcne := ne_of_sum2 HX.out HY.out hz
                have HADDI := Lib.hid (HI.out.add (by omega) hcne HFT.out.1 HFT.out.2.2.1 HFT.out.2.1 HFT.out.2.2.2)
                have HDOM : Hid (DoM N [c] (doC N c).1) := DoM.one (by rw [← HFT.out.2.2.1]) HFT.out.1
                obtain ⟨N', hN'⟩ : ∃ N', (doC N c).1 = N' := ⟨_, rfl⟩
                rw [hN'] at HADDI HDOM
                have HOK := Lib.hid HFT.out.1.ok
                have HLIM : Hid (T.group.length < 1048576) := by show _ < _; rw [HI.out.grp]; simp
                clear hN' hcne d0 d1 d2 dl
                obtain ⟨oa3, oc3, ca3, cc3, d0, d1, d2, dl, HADD⟩ := hS1.out.add_ HOK.out HLIM.out
                rw [HPP.out] at d0 HADD
                rw [HX.out] at d1 HADD
                rw [HY.out] at d2 HADD
                go_wp2_with fail
                refine HADD.out.mono ?_
                rintro e w4' ⟨rfl, hS4⟩
                clear HADD d0 d1 d2 dl hS1
                obtain ⟨oa4, oc4, ca4, cc4, d0, d1, d2, dl, HDO⟩ := hS4.out.doc_ HDOM.out
                rw [HPP.out] at d0 HDO
                rw [HX.out] at d1 HDO
                rw [HY.out] at d2 HDO
                go_wp2_with fail
                refine HDO.out.mono ?_
                rintro e w5' ⟨xa, xn, xc, rfl, hS5⟩
                clear HDO d0 d1 d2 dl hS4
                obtain ⟨pa, pc, w7, hrun, hS7⟩ := hS5.out.push (by omega)
                have HRUN := Lib.hid hrun
                have HS7 := Lib.hid hS7
                clear hrun hS7 hS5
                go_wp2_with (at_builtin; go_must (with_reducible refine Lib.wpList_append_run _ rfl (.tmp 83) (.tmp 85) _ _ rfl _ _ rfl rfl _ _ (HRUN.out _) ?_))
                go_meet
                exact ⟨_, _, _, _, _, _, rfl, rfl, _, _, _, HS7.out, HADDI.out⟩
              · have hz1 : decide (0 < (x : Int) + (y : Int)) = false := by simpa using hz
                go_wp2_with fail
                go_meet
                exact ⟨_, _, _, _, _, _, rfl, rfl, _, _, _, hS1.out.drop, HI.out.skip (by omega)⟩
            case rest =>
              obtain ⟨ra', rn', rc', na', nn', nc', rfl, rfl, hst⟩ := hcut
              clear d0 d1 d2 dl hS1 HI HFT HX HY HPP hx20 hy20
              by_cases hjl : (i : Int) < (jn : Int)
              · obtain ⟨T, Ls, N, hS, hI⟩ := hst.out
                have hrn := hS.wlen
                have hIl := hI.hst.len
                have hcnt := hI.cnt
                have hrnb : rn' ≤ 22 := by omega
                have hrn0 : 0 < rn' := by omega
                obtain ⟨gw, rfl⟩ := hS.ra_ hrn0
                obtain ⟨jb, joff, rfl, hjc⟩ := HJ.out.2.2.2.2.2 (by omega)
                obtain ⟨v, hv⟩ : ∃ v, js.getD i 0 = v := ⟨_, rfl⟩
                have hjv : w.cell? ⟨jb, joff + i, none⟩ = some (.int .i64 v) := by rw [← hv]; exact hjc i (by omega)
                have hjbl := block_lt_of_cell hjv
                have j0 : wc.cell? ⟨jb, joff + i, none⟩ = some (.int .i64 v) := (hS.bel.cell (p := ⟨jb, joff + i, none⟩) hjbl).trans hjv
                have hjw : jb < wc.heap.size := Nat.lt_of_lt_of_le hjbl hS.bel.size
                have hvw : i64b v := by
                  have hil : i < js.length := by have := HJ.out.1; omega
                  have hm : v ∈ js := by rw [← hv, List.getD_eq_getElem?_getD, List.getElem?_eq_getElem hil]; exact List.getElem_mem hil
                  exact wf_i64b (HJ.out.2.2.2.1 v hm)
                obtain ⟨hv1, hv2⟩ := hvw
                obtain ⟨r, hr⟩ : ∃ r, Int.tmod v (rn' : Int) = r := ⟨_, rfl⟩
                have hr1 : -(rn' : Int) < r := by rw [← hr]; exact Int.lt_tmod_of_pos v (by omega)
                have hr2 : r < (rn' : Int) := by rw [← hr]; exact Int.tmod_lt_of_pos v (by omega)
                have hrz : ¬ (rn' : Int) = 0 := by omega
                have hrz2 : ¬ rn' = 0 := by omega
                have hrz3 : ((rn' : Int) == 0) = false := by simpa using hrz
                have HS0 := Lib.hid hS
                have HI0 := Lib.hid hI
                have HRN := Lib.hid (show T.nodes.length + 1 = rn' by omega)
                have HRL := Lib.hid hrn
                obtain ⟨wq, hwq⟩ : ∃ x, x = wc := ⟨_, rfl⟩
                subst hwq
                clear hst hS hI hrn hIl hcnt hjc hv hjv hjbl
                go_upto_if 99 with fail
                go_cut [14] (fun v14 wx => ∃ n : Nat, v14 = .int .i64 (n : Nat) ∧ n < rn' ∧ wx = wq)
                case first =>
                  by_cases hneg : r < 0
                  · obtain ⟨n, hn⟩ : ∃ n : Nat, r + (rn' : Int) = (n : Int) := ⟨(r + (rn' : Int)).toNat, by omega⟩
                    have hnb : n < rn' := by omega
                    go_wp2_with fail
                    go_meet
                    exact ⟨n, rfl, hnb, rfl⟩
                  · obtain ⟨n, rfl⟩ : ∃ n : Nat, r = (n : Int) := ⟨r.toNat, by omega⟩
                    have hnb : n < rn' := by omega
                    go_wp2_with fail
                    go_meet
                    exact ⟨n, rfl, hnb, rfl⟩
                case rest =>
                  obtain ⟨n, rfl, hnb, rfl⟩ := hcut
                  obtain ⟨q1, q2⟩ := HI0.out.hst.goTo HI0.out.grp HI0.out.isO (n := n) (by have := HRN.out; omega)
                  rw [HI0.out.now] at q2
                  have HU := Lib.hid (HS0.out.to_ q1 q2 (HS0.out.way_len HI0.out.hst.ok.2.1 (by have := HRN.out; omega)))
                  clear q1 q2 HS0 hr hr1 hr2 hrz hrz2 hrz3 hv1 hv2 j0 hjw
                  go_wp2_with fail
                  refine HU.out.mono ?_
                  rintro e w4 ⟨ma, mm, mc, rfl, hS4, HDO⟩
                  clear HU hS4
                  go_wp2_with fail
                  refine HDO.out.mono ?_
                  rintro e w5 ⟨xa, xn, xc, rfl, hS5⟩
                  clear HDO
                  obtain ⟨qa, qn, qc, c0, gl, HSAME⟩ := hS5.out.sameT (i := n) (getD_some (by have := HRL.out; omega))
                  have HAT := Lib.hid hS5.out.at_
                  go_wp2_with fail
                  refine HAT.out.mono ?_
                  rintro e w' ⟨rfl, rfl⟩
                  clear HAT
                  go_wp2_with fail
                  refine HSAME.out.mono ?_
                  rintro e w6 ⟨rfl, hS6⟩
                  clear HSAME c0 gl hS5
                  go_wp2_with fail
                  go_roundw
                  case rel => exact ⟨i + 1, _, _, _, _, _, _, rfl, rfl, rfl, by omega, by omega, _, _, _, hS6.out, HI0.out.go (by have := HRN.out; omega)⟩
                  case measure => first | (simp [intOf]; done) | (simp [intOf]; omega)
              · go_wp2_with fail
                go_roundw
                case rel => exact ⟨i + 1, _, _, _, _, _, _, rfl, rfl, rfl, by omega, by omega, hst⟩
                case measure => first | (simp [intOf]; done) | (simp [intOf]; omega)
        · go_upto_region 9 with fail
          go_cut [46] from 39 to 137 (fun s wx => s = .bool false ∧ wx = wr)
          case first =>
            by_cases hq : (i : Int) < (sn : Int)
            · have hq3 : decide ((i : Int) < 20) = false := by have hq2 : ¬ (i : Int) < 20 := fun h => hboth ⟨hq, h⟩; simpa using hq2
              go_wp2_with fail
              go_meet
              exact ⟨by first | rfl | exact congrArg Value.bool hq3, rfl⟩
            · go_wp2_with fail
              go_meet
              exact ⟨rfl, rfl⟩
          obtain ⟨rfl, rfl⟩ := hcut
          obtain ⟨T, Ls, N, hS, hI⟩ := hst.out
          have hcn := hI.cnt
          have hi20' := hI.i20
          have hrn := hS.wlen
          have hlsn := hI.hst.len
          obtain ⟨nl, hnl⟩ : ∃ nl, T.nodes.length = nl := ⟨_, rfl⟩
          rw [hnl] at hcn hlsn
          have hrnb : rn = nl + 1 := by omega
          have HG := Lib.hid hI.grp
          have HO := Lib.hid hI.isO
          have HNL := Lib.hid hnl
          have e1 : ((nl : Int) == (rn : Int) - 1) = true := by simp; omega
          have HT1 := Lib.hid (hS.to0 (Tr.goTo_none (v := (rn : Int)) hI.grp hI.isO (.inr (by omega))))
          have hrnp : 0 < rn := by omega
          have hrnm : rn ≤ 21 := by omega
          clear hst hS hI hrn hlsn hboth hnl hrnb hcn
          go_wp2_with fail
          refine HT1.out.mono ?_
          rintro e w4 ⟨rfl, hS4⟩
          clear HT1
          have HT2 := Lib.hid (hS4.out.to0 (Tr.goTo_none (v := -1) HG.out HO.out (.inl (by omega))))
          clear hS4
          go_wp2_with fail
          refine HT2.out.mono ?_
          rintro e w5 ⟨rfl, hS5⟩
          clear HT2
          have HLEN := Lib.hid hS5.out.len_
          rw [HNL.out] at HLEN
          go_wp2_with fail
          refine HLEN.out.mono ?_
          rintro e w' ⟨rfl, rfl⟩
          clear HLEN
          go_wp2_with fail
          refine (awake_any w5).mono ?_
          rintro e w9 ⟨rfl, hb9⟩
          have HB9 : Hid (Below w.heap.size w w9) := hS5.out.bel.trans (hb9.mono hS5.out.le)
          clear hb9 hS5
          go_wp2_with fail
          go_ret
          exact ⟨rfl, HB9.out⟩
end Go.Proofs.Ytalhiedbhcklgaa.U
