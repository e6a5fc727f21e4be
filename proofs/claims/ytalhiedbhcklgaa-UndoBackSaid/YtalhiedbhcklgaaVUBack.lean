/-
  The walk of UndoBack: the loop over the swaps.
-/
import Derived.Test.YtalhiedbhcklgaaVWas
import Derived.Test.YtalhiedbhcklgaaVHist
import Derived.Test.YtalhiedbhcklgaaVArg
import Derived.Test.YtalhiedbhcklgaaVAwakeW
namespace Go.Proofs.Ytalhiedbhcklgaa.U
open Go.RowKit
set_option linter.unusedVariables false
set_option linter.unusedSimpArgs false
set_option maxRecDepth 100000

theorem begin_same {T : Tr} (h : T.isOpen = true) : T.begin_ = T := by
  cases T
  simp only at h
  subst h
  rfl
theorem ne_of_sum {c : Ch} {x y : Nat} (h1 : c.old.length = x) (h2 : c.now.length = y) (hz : ¬ (x : Int) + (y : Int) = 0) : ¬ (c.old = [] ∧ c.now = []) := by
  rintro ⟨e1, e2⟩
  rw [e1] at h1
  rw [e2] at h2
  simp at h1 h2
  omega

set_option maxHeartbeats 8000000 in
theorem undoBack_wide (a : Option Addr) (len cap : Nat) (L : List (List Int)) (sa : Option Addr) (sn sc : Nat) (w : World) (h : RdL (fun k => k < w.heap.size) w a len cap L) (hsw : RdSt 4 IsSw w sa sn sc) (hw : WideL L) :
    Calls Try.prog 5 #[.slice a len cap, .slice sa sn sc] w fun e w' => e = .returned (.bool true) ∧ Below w.heap.size w w' := by
  have HSM := Lib.hid (small_wide _ a len cap L w h hw)
  have hl := h.len
  cases hsm : smallL L with
  | false =>
    rw [hsm] at HSM
    clear h hw hl hsm hsw
    go_enter Try.func5, Try.ntmps5
    go_wp2_with fail
    refine HSM.out.mono ?_
    rintro e w' ⟨rfl, rfl⟩
    go_wp2_with fail
    refine (awake_any w).mono ?_
    rintro e w' ⟨rfl, hb⟩
    have HB := Lib.hid hb
    clear hb
    go_wp2_with fail
    go_ret
    exact ⟨rfl, HB.out⟩
  | true =>
    rw [hsm] at HSM
    by_cases h0 : (len : Int) = 0
    · have h01 : ((len : Int) == 0) = true := by simpa using h0
      clear h hw hl hsm hsw
      go_enter Try.func5, Try.ntmps5
      go_wp2_with fail
      refine HSM.out.mono ?_
      rintro e w' ⟨rfl, rfl⟩
      go_wp2_with fail
      refine (awake_any w).mono ?_
      rintro e w' ⟨rfl, hb⟩
      have HB := Lib.hid hb
      clear hb
      go_wp2_with fail
      go_ret
      exact ⟨rfl, HB.out⟩
    · have h01 : ((len : Int) == 0) = false := by simpa using h0
      have hne : L ≠ [] := fun e => by subst e; simp at hl; omega
      have hsz := siz_small hsm
      have hwf : wfL L := lines_wf (rdl_wf h)
      have H := Lib.hid h
      have HWF := Lib.hid hwf
      have HSW := Lib.hid hsw
      have HSZ := Lib.hid hsz
      have HNE := Lib.hid hne
      have hsn : sn ≤ 9223372036854775807 := by obtain ⟨q1, q2, _⟩ := hsw; unfold maxLen at q2; omega
      have hln := h.small
      clear h hw hl hsm hsw hwf hsz hne
      go_enter Try.func5, Try.ntmps5
      go_wp2_with fail
      refine HSM.out.mono ?_
      rintro e w' ⟨rfl, rfl⟩
      clear HSM
      go_wp2_with fail
      refine (new_any w).mono ?_
      rintro e w2 ⟨rfl, P0, F0, hT0, hf0, hP0⟩
      have hb2 : Below w.heap.size w w2 := hf0.below0
      have HT0 := Lib.hid hT0
      have HB2 := Lib.hid hb2
      have HP0 : Hid (∀ k, P0 k → w.heap.size ≤ k) := fun k hk => by rcases hP0 k hk with h | h; exact h.elim; omega
      have HR2 := Lib.hid (rtwin_any _ a len cap L w2 (H.out.below hb2) (by have := HSZ.out; unfold siz at this; omega))
      obtain ⟨bt, hbt⟩ : ∃ bt, w.heap.size + 1 = bt := ⟨_, rfl⟩
      rw [hbt] at HT0 ⊢
      clear hT0 hf0 hP0 hb2 hbt
      go_wp2_with fail
      refine HR2.out.mono ?_
      rintro e w3 ⟨a1, c1, rfl, hf1, hb3⟩
      clear HR2
      obtain ⟨w4, hw4⟩ : ∃ w4, w3.alloc (.cells #[.slice a1 len c1] 22) = w4 := ⟨_, rfl⟩
      have hb34 : Below w3.heap.size w3 w4 := by rw [← hw4]; exact (Below.refl _ _).alloc (Nat.le_refl _) _
      have hg4 : w4.heap[w3.heap.size]? = some (.cells #[.slice a1 len c1] 22 (0, 0)) := by rw [← hw4]; exact heap_alloc_new w3 _
      have hs3 := hb3.size
      have hb24 : Below w2.heap.size w2 w4 := hb3.trans (hb34.mono hs3)
      have HR4 := Lib.hid (rtwin_any _ a len cap L w4 (((H.out.below HB2.out).below hb24)) (by have := HSZ.out; unfold siz at this; omega))
      have HW4 := Lib.hid hw4
      have H4 : Hid (Below w2.heap.size w2 w4 ∧ w4.heap[w3.heap.size]? = some (.cells #[.slice a1 len c1] 22 (0, 0)) ∧ RdL (fun k => w2.heap.size ≤ k ∧ k < w3.heap.size) w4 a1 len c1 L ∧ w2.heap.size ≤ w3.heap.size) := ⟨hb24, hg4, (hf1.rdl2 HWF.out).below hb34, hs3⟩
      obtain ⟨g, hg⟩ : ∃ g, w3.heap.size = g := ⟨_, rfl⟩
      rw [hg] at H4
      have HG := Lib.hid hg
      clear hf1 hb3 hb34 hg4 hs3 hb24 hw4 hg
      go_upto_region 7 with fail
      rw [HW4.out, HG.out]
      go_wp2_with fail
      refine HR4.out.mono ?_
      rintro e w5 ⟨a2, c2, rfl, hf2, hb5⟩
      have HST : Hid (∃ T Ls N, StB w.heap.size w w5 bt T (some ⟨g, 0, none⟩) 1 1 Ls a2 len c2 N none ∧ InvB T Ls N false 0) := by
        obtain ⟨q1, q2, q3, q4⟩ := H4.out
        have s1 := HB2.out.size
        have s2 := q1.size
        have s3 := hb5.size
        have hgl := heap_lt q2
        have s4 : w2.heap.size ≤ g := q4
        refine ⟨Tr.zero, [L], L, StB.start (H := fun k => (w2.heap.size ≤ k ∧ k < g) ∨ (w4.heap.size ≤ k ∧ k < w5.heap.size)) ((HT0.out.below q1).below hb5) HP0.out ((HB2.out.trans (q1.mono s1)).trans (hb5.mono (by omega))) ((hb5.block g hgl).trans q2) (by omega) (fun hp => by have := HT0.out.lt g hp; omega) (fun hh => by omega) (fun k hk => ⟨by omega, by omega, fun hp => by have := HT0.out.lt k hp; omega⟩) ((q3.below hb5).mono (fun k hk => .inl hk)) ((hf2.rdl2 HWF.out).mono (fun k hk => .inr hk)), InvB.zero HNE.out HSZ.out HWF.out⟩
      clear hf2 hb5 HR4 H4 HT0 HP0 HB2 HW4 HG
      go_wp2_with fail
      go_loopw [6, 7, 8, 9] (fun v6 v7 v8 v9 wr => ∃ (i : Nat) (ra : Option Addr) (rn rc : Nat) (na : Option Addr) (nn nc : Nat) (o : Bool), v9 = .int .i64 (i : Nat) ∧ v6 = .slice ra rn rc ∧ v7 = .slice na nn nc ∧ v8 = .bool o ∧ i ≤ 30 ∧ i ≤ sn ∧ Hid (∃ T Ls N, StB w.heap.size w wr bt T ra rn rc Ls na nn nc N none ∧ InvB T Ls N o i)) (fun _ _ _ v9 _ => ((30 : Int) - intOf v9).toNat)
      case atStart => exact ⟨0, _, _, _, _, _, _, false, rfl, rfl, rfl, rfl, Nat.zero_le _, Nat.zero_le _, HST⟩
      case round =>
        obtain ⟨i, ra, rn, rc, na, nn, nc, o, rfl, rfl, rfl, rfl, hi30, hisn, hst⟩ := hrel
        clear HST
        by_cases hboth : (i : Int) < (sn : Int) ∧ (i : Int) < 30
        · obtain ⟨hlt, h30⟩ := hboth
          · obtain ⟨T, Ls, N, hS, hI⟩ := hst.out
            obtain ⟨b, off, p, q, ma, mn, mc, M, ee, rfl, k0, k1, k2, k3, hbl, ip, iq, rM, wM⟩ := HSW.out.swap (W := wr) hS.bel (i := i) (by omega)
            have HK : Hid (∀ W, Below w.heap.size w W → W.cell? ⟨b, off + i * 4 + 3, none⟩ = some (.bool ee) ∧ b < W.heap.size) := fun W hW => by
              have e1 := hS.bel.cell (p := ⟨b, off + i * 4 + 3, none⟩) hbl
              have e2 := hW.cell (p := ⟨b, off + i * 4 + 3, none⟩) hbl
              exact ⟨e2.trans (e1.symm.trans k3), Nat.lt_of_lt_of_le hbl hW.size⟩
            have hbw : b < wr.heap.size := Nat.lt_of_lt_of_le hbl hS.bel.size
            have hrn := hS.wlen
            have hIl := hI.hst.len
            have hcnt := hI.cnt
            have hrnb : rn ≤ 31 := by omega
            have HS0 := Lib.hid hS
            have HI := Lib.hid hI
            have HM := Lib.hid (small_wide _ ma mn mc M wr rM wM)
            have HRM := Lib.hid rM
            clear hst hS hI hrn hIl hcnt hbl
            cases hsm : smallL M with
            | false =>
              rw [hsm] at HM
              clear rM wM ip iq hsm HK
              go_wp2_with fail
              refine HM.out.mono ?_
              rintro e w' ⟨rfl, rfl⟩
              clear HM
              go_wp2_with fail
              go_roundw
              case rel => exact ⟨i + 1, _, _, _, _, _, _, o, rfl, rfl, rfl, rfl, by omega, by omega, T, Ls, N, HS0.out, HI.out.skip (by omega)⟩
              case measure => first | (simp [intOf]; done) | (simp [intOf]; omega)
            | true =>
              rw [hsm] at HM
              have hszM := siz_small hsm
              have hwfM : wfL M := lines_wf (rdl_wf rM)
              have hfits := HI.out.fits p q hszM hwfM
              have hszN : siz N ≤ 1048576 := by have := HI.out.sz; omega
              have HF := Lib.hid (HS0.out.fits_ (e := ee) rM hszN (by omega) hfits.1.ok)
              obtain ⟨c, hc⟩ : ∃ c, fitC N p q M = c := ⟨_, rfl⟩
              rw [hc] at HF hfits
              have HFT := Lib.hid hfits
              obtain ⟨x, hx⟩ : ∃ x, c.old.length = x := ⟨_, rfl⟩
              obtain ⟨y, hy⟩ : ∃ y, c.now.length = y := ⟨_, rfl⟩
              obtain ⟨pp, hpp⟩ : ∃ pp, c.pos = pp := ⟨_, rfl⟩
              have hx20 : x ≤ 1048576 := by have h1 := size_count c.old; have h2 := hfits.1.2.1.1; unfold siz capM at h2; omega
              have hy20 : y ≤ 1048576 := by have h1 := size_count c.now; have h2 := hfits.1.2.2.1.1; unfold siz capM at h2; omega
              rw [hx, hy, hpp] at HF
              have HX := Lib.hid hx
              have HY := Lib.hid hy
              have HPP := Lib.hid hpp
              clear rM wM ip iq hsm hszM hwfM hfits hszN hc hx hy hpp HRM
              go_wp2_with fail
              refine HM.out.mono ?_
              rintro e w' ⟨rfl, rfl⟩
              clear HM
              go_wp2_with fail
              refine HF.out.mono ?_
              rintro e w1 ⟨oa, oc, ca, cc, rfl, hS1⟩
              clear HF HS0 hbw k0 k1 k2 k3
              go_upto_region 14 with fail
              obtain ⟨w2', hw2⟩ : ∃ w2', w1.alloc (.cells #[.int .i64 pp, .slice oa x oc, .slice ca y cc] 24) = w2' := ⟨_, rfl⟩
              rw [hw2] at hS1 ⊢
              obtain ⟨gc, hgc⟩ : ∃ gc, w1.heap.size = gc := ⟨_, rfl⟩
              rw [hgc] at hS1 ⊢
              clear hw2 hgc
              obtain ⟨oa2, oc2, ca2, cc2, d0, d1, d2, dl⟩ := hS1.out.pend
              rw [HPP.out] at d0
              rw [HX.out] at d1
              rw [HY.out] at d2
              by_cases hz : (x : Int) + (y : Int) = 0
              · have hz1 : ((x : Int) + (y : Int) == 0) = true := by simpa using hz
                go_wp2_with fail
                go_roundw
                case rel => exact ⟨i + 1, _, _, _, _, _, _, o, rfl, rfl, rfl, rfl, by omega, by omega, T, Ls, N, hS1.out.drop, HI.out.skip (by omega)⟩
                case measure => first | (simp [intOf]; done) | (simp [intOf]; omega)
              · have hz1 : ((x : Int) + (y : Int) == 0) = false := by simpa using hz
                have hcne := ne_of_sum HX.out HY.out hz
                have HADDI := Lib.hid (HI.out.add (by omega) hcne HFT.out.1 HFT.out.2.2.1 HFT.out.2.1 HFT.out.2.2.2)
                have HDOM : Hid (DoM N [c] (doC N c).1) := DoM.one (by rw [← HFT.out.2.2.1]) HFT.out.1
                obtain ⟨N', hN'⟩ : ∃ N', (doC N c).1 = N' := ⟨_, rfl⟩
                rw [hN'] at HADDI HDOM
                have HOK := Lib.hid HFT.out.1.ok
                have HLIM : Hid (T.begin_.group.length < 1048576) := by show _ < _; have := HI.out.cntg; have : T.begin_.group.length = T.group.length := rfl; omega
                have hso := HI.out.isO
                clear hN' hcne
                go_upto_if 76 with fail
                go_cut [8] (fun v8 wx => v8 = .bool o ∧ Hid (StB w.heap.size w wx bt T.begin_ ra rn rc Ls na nn nc N (some (gc, c))))
                case first =>
                  cases o with
                  | true =>
                    have HE : Hid (StB w.heap.size w w2' bt T.begin_ ra rn rc Ls na nn nc N (some (gc, c))) := by rw [begin_same hso]; exact hS1.out
                    clear d0 d1 d2 dl
                    go_wp2_with fail
                    go_meet
                    exact ⟨rfl, HE⟩
                  | false =>
                    have HBG := Lib.hid hS1.out.begin_
                    clear d0 d1 d2 dl
                    go_wp2_with fail
                    refine HBG.out.mono ?_
                    rintro e w3' ⟨rfl, hS3⟩
                    clear HBG
                    go_wp2_with fail
                    go_meet
                    exact ⟨rfl, hS3⟩
                case rest =>
                  obtain ⟨rfl, hS3⟩ := hcut
                  clear d0 d1 d2 dl hS1 hz hz1
                  obtain ⟨oa3, oc3, ca3, cc3, d0, d1, d2, dl, HADD⟩ := hS3.out.add_ HOK.out HLIM.out
                  rw [HPP.out] at d0 HADD
                  rw [HX.out] at d1 HADD
                  rw [HY.out] at d2 HADD
                  go_wp2_with fail
                  refine HADD.out.mono ?_
                  rintro e w4' ⟨rfl, hS4⟩
                  clear HADD d0 d1 d2 dl hS3
                  obtain ⟨oa4, oc4, ca4, cc4, d0, d1, d2, dl, HDO⟩ := hS4.out.doc_ HDOM.out
                  rw [HPP.out] at d0 HDO
                  rw [HX.out] at d1 HDO
                  rw [HY.out] at d2 HDO
                  go_wp2_with fail
                  refine HDO.out.mono ?_
                  rintro e w5' ⟨xa, xn, xc, rfl, hS5⟩
                  clear HDO d0 d1 d2 dl hS4
                  obtain ⟨k3, hbw⟩ := HK.out w5' hS5.out.bel
                  cases ee with
                  | false =>
                    go_wp2_with fail
                    go_roundw
                    case rel => exact ⟨i + 1, _, _, _, _, _, _, true, rfl, rfl, rfl, rfl, by omega, by omega, _, _, _, hS5.out, HADDI.out⟩
                    case measure => first | (simp [intOf]; done) | (simp [intOf]; omega)
                  | true =>
                    have HEND := Lib.hid hS5.out.end_
                    go_wp2_with fail
                    refine HEND.out.mono ?_
                    rintro e w6 ⟨rfl, hS6⟩
                    clear HEND k3 hbw hS5
                    obtain ⟨pa, pc, w7, hrun, hS7⟩ := hS6.out.push (by omega)
                    have HRUN := Lib.hid hrun
                    have HS7 := Lib.hid hS7
                    clear hrun hS7 hS6
                    go_wp2_with (at_builtin; go_must (with_reducible refine Lib.wpList_append_run _ rfl (.tmp 99) (.tmp 101) _ _ rfl _ _ rfl rfl _ _ (HRUN.out _) ?_))
                    go_roundw
                    case rel => exact ⟨i + 1, _, _, _, _, _, _, false, rfl, rfl, rfl, rfl, by omega, by omega, _, _, _, HS7.out, HADDI.out.close⟩
                    case measure => first | (simp [intOf]; done) | (simp [intOf]; omega)
        · go_upto_region 10 with fail
          go_cut [51] from 44 to 102 (fun s wx => s = .bool false ∧ wx = wr)
          case first =>
            by_cases hq : (i : Int) < (sn : Int)
            · have hq3 : decide ((i : Int) < 30) = false := by have hq2 : ¬ (i : Int) < 30 := fun h => hboth ⟨hq, h⟩; simpa using hq2
              go_wp2_with fail
              go_meet
              exact ⟨by first | rfl | exact congrArg Value.bool hq3, rfl⟩
            · go_wp2_with fail
              go_meet
              exact ⟨rfl, rfl⟩
          obtain ⟨rfl, rfl⟩ := hcut
          obtain ⟨T, Ls, N, hS, hI⟩ := hst.out
          have hi30' := hI.i30
          have hcn := hI.cnt
          have hrn := hS.wlen
          have hlsn := hI.hst.len
          have hrnb : rn ≤ 31 := by omega
          have HS0 := Lib.hid hS
          have HI0 := Lib.hid hI
          clear hst hS hI hrn hlsn hcn hboth
          go_upto_if 103 with fail
          go_cut [6] (fun v6 wx => ∃ ra rn rc, v6 = .slice ra rn rc ∧ Hid (∃ T Ls, StB w.heap.size w wx bt T ra rn rc Ls na nn nc N none ∧ InvB T Ls N false i))
          case first =>
            cases o with
            | false =>
              go_wp2_with fail
              go_meet
              exact ⟨_, _, _, rfl, T, Ls, HS0.out, HI0.out⟩
            | true =>
              have HEND := Lib.hid HS0.out.end_
              go_wp2_with fail
              refine HEND.out.mono ?_
              rintro e w6 ⟨rfl, hS6⟩
              clear HEND HS0
              obtain ⟨pa, pc, w7, hrun, hS7⟩ := hS6.out.push (by omega)
              have HRUN := Lib.hid hrun
              have HS7 := Lib.hid hS7
              clear hrun hS7 hS6
              go_wp2_with (at_builtin; go_must (with_reducible refine Lib.wpList_append_run _ rfl (.tmp 106) (.tmp 108) _ _ rfl _ _ rfl rfl _ _ (HRUN.out _) ?_))
              go_meet
              exact ⟨_, _, _, rfl, _, _, HS7.out, HI0.out.close⟩
          case rest =>
            obtain ⟨ra', rn', rc', rfl, hst⟩ := hcut
            obtain ⟨T, Ls, hS, hI⟩ := hst.out
            have hlen := hS.wlen
            have hll := hI.hst.len
            obtain ⟨nl, hnl⟩ : ∃ nl, T.nodes.length = nl := ⟨_, rfl⟩
            rw [hnl] at hll
            have hnl30 : nl ≤ 30 := by have := hI.cnt; omega
            have hrn' : rn' = nl + 1 := by omega
            obtain ⟨gw, rfl⟩ := hS.ra_ (by omega)
            have hh := hI.here
            rw [hnl] at hh
            have hN : Ls.getD nl [] = N := by
              have := hI.now
              rw [hI.grp rfl, hh] at this
              exact this
            have HSTA : Hid (StB w.heap.size w wc bt { T with here := nl } (some ⟨gw, 0, none⟩) rn' rc' Ls na nn nc (Ls.getD nl []) none) := by
              rw [here_same hh, hN]
              exact hS
            have HLEN := Lib.hid hS.len_
            rw [hnl] at HLEN
            have HT := Lib.hid hI.hst
            have HC := Lib.hid hI.chain
            have HG := Lib.hid (hI.grp rfl)
            have HO := Lib.hid hI.isO
            have HNL := Lib.hid hnl
            have HLL := Lib.hid hll
            have e1 : ((nl : Int) != (rn' : Int) - 1) = false := by simp; omega
            clear hst hS hI hlen hll hnl hh hN HI0 HS0 HSZ HNE HWF HSW H hisn
            go_wp2_with fail
            refine HLEN.out.mono ?_
            rintro e w' ⟨rfl, rfl⟩
            clear HLEN
            go_wp2_with fail
            go_loopw [7, 13] (fun v7 v13 wr => ∃ (j : Nat) (z : Int) (na : Option Addr) (nn nc : Nat), v13 = .int .i64 z ∧ z + 1 ≤ j ∧ (j : Int) ≤ z + 1 ∧ v7 = .slice na nn nc ∧ j ≤ nl ∧ Hid (StB w.heap.size w wr bt { T with here := j } (some ⟨gw, 0, none⟩) rn' rc' Ls na nn nc (Ls.getD j []) none)) (fun _ v13 _ => (intOf v13 + 1).toNat)
            case atStart => exact ⟨nl, _, _, _, _, rfl, by omega, by omega, rfl, Nat.le_refl _, HSTA⟩
            case round =>
              obtain ⟨j', z, na, nn, nc, rfl, hz1, hz2, rfl, hj, hst⟩ := hrel
              clear HSTA
              by_cases hlt : 0 ≤ z
              · obtain ⟨j, rfl⟩ : ∃ j : Nat, z = j := ⟨z.toNat, by omega⟩
                obtain rfl : j' = j + 1 := by omega
                obtain ⟨q1, q2⟩ := HT.out.undoAt HC.out HG.out HO.out (j := j) (by have := HNL.out; omega)
                have HU := Lib.hid (hst.out.undo_ q1 q2 (hst.out.undo_len (T := { T with here := j + 1 }) (i := j + 1) (by omega) (by have := HNL.out; simp only; omega)).2)
                clear q1 q2 hst
                go_wp2_with fail
                refine HU.out.mono ?_
                rintro e w4 ⟨ma, mm, mc, rfl, hS4, HDO⟩
                clear HU hS4
                go_wp2_with fail
                refine HDO.out.mono ?_
                rintro e w5 ⟨xa, xn, xc, rfl, hS5⟩
                clear HDO
                obtain ⟨qa, qn, qc, c0, gl, HSAME⟩ := hS5.out.sameT (i := j) (getD_some (by have := HLL.out; omega))
                have hjr : j < rn' := by omega
                go_wp2_with fail
                refine HSAME.out.mono ?_
                rintro e w6 ⟨rfl, hS6⟩
                clear HSAME c0 gl hS5
                go_wp2_with fail
                go_roundw
                case rel => exact ⟨j, _, _, _, _, rfl, by omega, by omega, rfl, by omega, hS6⟩
                case measure => first | (simp [intOf]; done) | (simp [intOf]; omega)
              · obtain rfl : j' = 0 := by omega
                have HU := Lib.hid (hst.out.undo0 (Tr.undo_none (T := { T with here := 0 }) HG.out HO.out rfl))
                clear hst
                go_wp2_with fail
                refine HU.out.mono ?_
                rintro e w4 ⟨rfl, hS4⟩
                clear HU
                go_wp2_with fail
                go_loopw [7, 20] (fun v7 v20 wr => ∃ (j : Nat) (na : Option Addr) (nn nc : Nat), v20 = .int .i64 ((j : Int) + 1) ∧ v7 = .slice na nn nc ∧ j ≤ nl ∧ Hid (StB w.heap.size w wr bt { T with here := j } (some ⟨gw, 0, none⟩) rn' rc' Ls na nn nc (Ls.getD j []) none)) (fun _ v20 _ => ((nl : Int) + 1 - intOf v20).toNat)
                case atStart => exact ⟨0, _, _, _, rfl, rfl, Nat.zero_le _, hS4⟩
                case round =>
                  obtain ⟨j, na, nn, nc, rfl, rfl, hj, hst⟩ := hrel
                  clear hS4
                  by_cases hlt : (j : Int) + 1 < (rn' : Int)
                  · obtain ⟨q1, q2⟩ := HT.out.redoAt HC.out HG.out HO.out (j := j) (by have := HNL.out; omega)
                    have HU := Lib.hid (hst.out.redo_ q1 q2 (hst.out.undo_len (T := { T with here := j }) (i := j + 1) (by omega) (by have := HNL.out; simp only; omega)).1)
                    clear q1 q2 hst
                    go_wp2_with fail
                    refine HU.out.mono ?_
                    rintro e w4 ⟨ma, mm, mc, rfl, hS4, HDO⟩
                    clear HU hS4
                    go_wp2_with fail
                    refine HDO.out.mono ?_
                    rintro e w5 ⟨xa, xn, xc, rfl, hS5⟩
                    clear HDO
                    obtain ⟨qa, qn, qc, c0, gl, HSAME⟩ := hS5.out.sameT (i := j + 1) (getD_some (by have := HLL.out; omega))
                    have hjr : j + 1 < rn' := by omega
                    go_wp2_with fail
                    refine HSAME.out.mono ?_
                    rintro e w6 ⟨rfl, hS6⟩
                    clear HSAME c0 gl hS5
                    go_wp2_with fail
                    go_roundw
                    case rel => exact ⟨j + 1, _, _, _, by push_cast; rfl, rfl, by omega, hS6⟩
                    case measure => first | (simp [intOf]; done) | (simp [intOf]; omega)
                  · obtain rfl : j = nl := by omega
                    have HU := Lib.hid (hst.out.redo0 (Tr.redo_none (T := { T with here := j }) HC.out HG.out HO.out HNL.out.symm))
                    clear hst
                    go_wp2_with fail
                    refine HU.out.mono ?_
                    rintro e w4 ⟨rfl, hS4⟩
                    clear HU
                    go_wp2_with fail
                    refine (awake_any w4).mono ?_
                    rintro e w9 ⟨rfl, hb9⟩
                    have HB9 : Hid (Below w.heap.size w w9) := hS4.out.bel.trans (hb9.mono hS4.out.le)
                    clear hb9 hS4
                    go_wp2_with fail
                    go_ret
                    exact ⟨rfl, HB9.out⟩
end Go.Proofs.Ytalhiedbhcklgaa.U
