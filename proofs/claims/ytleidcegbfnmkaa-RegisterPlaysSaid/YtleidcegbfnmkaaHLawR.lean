/-
  The walk of RegisterThere.
-/
import Derived.Test.YtleidcegbfnmkaaHLawT
namespace Go.Proofs.Ytleidcegbfnmkaa.U
open Go.RowKit
set_option linter.unusedVariables false
set_option linter.unusedSimpArgs false
set_option maxRecDepth 100000

theorem new_awD (w0 w : World) (D : Nat → Prop) (h : Below w0.heap.size w0 w) (hD : ∀ k, D k → w0.heap.size ≤ k ∧ k < w.heap.size) : Calls Try.prog 9 #[] w fun e w' => e = .returned (.pointer (some ⟨w.heap.size, 0, none⟩)) ∧ Hid (AwG w0 w' w.heap.size [] D ∧ Below w.heap.size w w') := by
  refine (pnew_any w).mono ?_
  rintro e w' ⟨rfl, h1, h2⟩
  have := h.size
  exact ⟨rfl, ⟨h.trans (h2.mono this), fun k q => ⟨(hD k q).1, Nat.lt_of_lt_of_le (hD k q).2 h2.size⟩, _, h1, fun k hk => by omega, fun k hk q => by have := (hD k q).2; omega⟩, h2⟩
theorem NmAt.boundN {F : Nat → Prop} {w : World} : ∀ {s : List Nm} {vs : List Value}, NmAt F w s vs → NmAt (fun k => F k ∧ k < w.heap.size) w s vs
  | [], _, h => h
  | x :: s, _, ⟨ra, rc, us, h1, h2, h3⟩ => ⟨ra, rc, us, h1, h2.boundG, NmAt.boundN h3⟩
theorem smallL_size {L : List (List Int)} (h : smallL L = true) (hne : L ≠ []) : sizeR L ≤ 65536 := by
  unfold smallL at h
  rw [Bool.and_eq_true, decide_eq_true_eq, decide_eq_true_eq] at h
  have := joinL_len hne
  unfold sizeR
  omega
/-- what is put under a letter, told behind it -/
theorem there_get {s : List Nm} {nm : Int} {r : Rg} (hn : littleR nm = true) : getR (finR s nm r) nm = (r, 0) ∧ getR (finR s nm r) 0 = (r, 0) := by
  refine ⟨nmB_some (by unfold nmB; rw [hn]; simp) (fin_holds s nm r), ?_⟩
  rw [get_zero]
  exact nmB_some (by decide) (by rw [holds_fin, if_pos (.inl rfl)])
theorem there_old {s : List Nm} {nm : Int} {r : Rg} {x : Nm} (hs : OkS s) (hN : OkN s) (hx : x ∈ s) (h1 : x.1 ≠ nm) (h2 : x.1 ≠ 34) : getR (finR s nm r) x.1 = (x.2, 0) := by
  refine nmB_some (hN x hx) ?_
  rw [holds_fin, if_neg (by rintro (e | e); exact h2 e; exact h1 e)]
  exact mem_holds hs.1 hx
set_option maxHeartbeats 8000000 in
theorem registerThere_wide (a : Option Addr) (len cap : Nat) (n0 : Int) (k : Int) (ra : Option Addr) (rn rc : Nat) (L : List (List Int)) (w : World) (h : RdSt 5 IsDr w a len cap) (hn0 : (Lit.int .i32 n0).wf = true) (hk : i64bG k) (hr : RdL (fun k => k < w.heap.size) w ra rn rc L) (hW : WideL L) :
    Calls Try.prog 4 #[.slice a len cap, .int .i32 n0, .agg #[.int .i64 k, .slice ra rn rc]] w fun e w' => e = .returned (.bool true) ∧ Below w.heap.size w w' := by
  have hln : len ≤ 9223372036854775807 := by have := h.1; have := h.2.1; unfold maxLen at this; omega
  have hrl := hr.len
  have hrs := hr.small
  obtain ⟨wb, hwb⟩ : ∃ wb, w.alloc (.cells #[.int .i64 k, .slice ra rn rc] 31) = wb := ⟨_, rfl⟩
  have hB : Below w.heap.size w wb := by rw [← hwb]; exact (Below.refl _ _).alloc (Nat.le_refl _) _
  have hrow : wb.heap[w.heap.size]? = some (.cells #[.int .i64 k, .slice ra rn rc] 31 (0, 0)) := by rw [← hwb]; exact heap_alloc_new w _
  obtain ⟨g5, hg5⟩ : ∃ g, w.heap.size = g := ⟨_, rfl⟩
  rw [hg5] at hrow
  have HD := Lib.hid h
  have HB := Lib.hid (And.intro hB (And.intro hg5 (heap_lt hrow)))
  have HW := Lib.hid hwb
  have HG5 := Lib.hid hg5
  have HR : Hid (RdL (fun k => k < w.heap.size) w ra rn rc L) := hr
  have HSM := Lib.hid (small_wide _ ra rn rc L wb (hr.below hB) hW)
  obtain ⟨c0, c1, c2, c3, c4⟩ := BoxS.of hrow
  have hrw := wf_i32_in hn0
  have HK : Hid (∀ W, Hid (Below w.heap.size w W) → Calls Try.prog 19 #[] W fun e w' => e = .returned (.bool true) ∧ Hid (Below w.heap.size w w')) := by
    intro W hWW
    refine (awake_any W).mono ?_
    rintro e w' ⟨rfl, hb⟩
    exact ⟨rfl, hWW.out.trans (hb.mono hWW.out.size)⟩
  have HRW : Hid (wb.heap[g5]? = some (.cells #[.int .i64 k, .slice ra rn rc] 31 (0, 0))) := hrow
  have HBW : Hid (Below w.heap.size w wb) := hB
  clear h hr hW hwb hB hg5 hrow hn0
  obtain ⟨good, hgood⟩ : ∃ good, (smallL L && decide (0 ≤ k) && decide (k ≤ 2) && decide (rn ≠ 0)) = good := ⟨_, rfl⟩
  have HGOOD := Lib.hid hgood
  clear hgood
  go_enter Try.func4, Try.ntmps4
  go_upto_region 1 with fail
  rw [HW.out, HG5.out]
  go_cut [36] (fun v wx => v = .bool (!good) ∧ wx = wb)
  case first =>
    cases hs : smallL L with
    | false =>
      have hg : good = false := by rw [← HGOOD.out, hs]; rfl
      subst hg
      rw [hs] at HSM
      go_wp2_with (go_at_call 10; (with_reducible refine HSM.out.mono ?_); rintro e w1 ⟨rfl, rfl⟩)
      go_meet
      exact ⟨rfl, rfl⟩
    | true =>
      rw [hs] at HSM
      by_cases k0 : 0 ≤ k
      · by_cases k2 : k ≤ 2
        · by_cases hn : rn = 0
          · have hg : good = false := by rw [← HGOOD.out, hs]; simp [hn]
            subst hg
            have q1 : decide (k < 0) = false := by simp; omega
            have q2 : decide (2 < k) = false := by simp; omega
            have q3 : ((rn : Int) == 0) = true := by simp [hn]
            clear hn
            go_wp2_with (go_at_call 10; (with_reducible refine HSM.out.mono ?_); rintro e w1 ⟨rfl, rfl⟩)
            go_meet
            exact ⟨rfl, rfl⟩
          · have hg : good = true := by rw [← HGOOD.out, hs]; simp [hn, k0, k2]
            subst hg
            have q1 : decide (k < 0) = false := by simp; omega
            have q2 : decide (2 < k) = false := by simp; omega
            have q3 : ((rn : Int) == 0) = false := by simpa using hn
            clear hn
            go_wp2_with (go_at_call 10; (with_reducible refine HSM.out.mono ?_); rintro e w1 ⟨rfl, rfl⟩)
            go_meet
            exact ⟨rfl, rfl⟩
        · have hg : good = false := by rw [← HGOOD.out, hs]; simp [k2]
          subst hg
          have q1 : decide (k < 0) = false := by simp; omega
          have q2 : decide (2 < k) = true := by simp; omega
          go_wp2_with (go_at_call 10; (with_reducible refine HSM.out.mono ?_); rintro e w1 ⟨rfl, rfl⟩)
          go_meet
          exact ⟨rfl, rfl⟩
      · have hg : good = false := by rw [← HGOOD.out, hs]; simp [k0]
        subst hg
        have q1 : decide (k < 0) = true := by simp; omega
        go_wp2_with (go_at_call 10; (with_reducible refine HSM.out.mono ?_); rintro e w1 ⟨rfl, rfl⟩)
        go_meet
        exact ⟨rfl, rfl⟩
  case rest =>
    obtain ⟨rfl, rfl⟩ := hcut
    obtain ⟨wa, hwa⟩ : ∃ x, x = wc := ⟨_, rfl⟩
    subst hwa
    cases good with
    | false =>
      go_wp2_with (go_at_call 19; (with_reducible refine (HK.out _ HBW).mono ?_); rintro e w9 ⟨rfl, HB9⟩)
      go_ret
      exact ⟨rfl, HB9.out⟩
    | true =>
      have hgg := HGOOD.out
      simp only [Bool.and_eq_true, decide_eq_true_eq] at hgg
      obtain ⟨⟨⟨g1, g2⟩, g3⟩, g4⟩ := hgg
      have hLne : L ≠ [] := by rintro rfl; simp at hrl; omega
      have HOK : Hid ((⟨k, L⟩ : Rg).ok) := ⟨g2, g3, hLne, smallL_size g1 hLne⟩
      clear g1 g2 g3 g4 hLne HGOOD HSM
      go_upto_region 3 with fail
      go_cut [1] (fun v1 wx => ∃ nm : Int, v1 = .int .i32 nm ∧ 97 ≤ nm ∧ nm ≤ 122 ∧ wx = wa)
      case first =>
        clear HD HB HW HG5 HR HK HRW HBW HOK c0 c1 c2 c3 c4
        have t1 := Int.lt_tmod_of_pos n0 (show (0 : Int) < 26 by decide)
        have t2 := Int.tmod_lt_of_pos n0 (show (0 : Int) < 26 by decide)
        obtain ⟨q, hq⟩ : ∃ q, n0.tmod 26 = q := ⟨_, rfl⟩
        rw [hq] at t1 t2
        have t3 := Int.lt_tmod_of_pos (q + 26) (show (0 : Int) < 26 by decide)
        have t4 := Int.tmod_lt_of_pos (q + 26) (show (0 : Int) < 26 by decide)
        have t5 := Int.tmod_nonneg (a := q + 26) 26 (by omega)
        obtain ⟨p, hp⟩ : ∃ p, (q + 26).tmod 26 = p := ⟨_, rfl⟩
        rw [hp] at t3 t4 t5
        have w1 : IntKind.i32.wrap q = q := by rw [IntKind.wrap_i32]; omega
        have w2 : IntKind.i32.wrap (q + 26) = q + 26 := by rw [IntKind.wrap_i32]; omega
        have w3 : IntKind.i32.wrap p = p := by rw [IntKind.wrap_i32]; omega
        have w4 : IntKind.i32.wrap (97 + p) = 97 + p := by rw [IntKind.wrap_i32]; omega
        go_wp2_with fail
        go_meet
        exact ⟨97 + p, by first | rfl | simp [hq, hp, w1, w2, w3, w4], by omega, by omega, rfl⟩
      case rest =>
        obtain ⟨nm, rfl, hnm1, hnm2, rfl⟩ := hcut
        obtain ⟨wa, hwa⟩ : ∃ x, x = wc := ⟨_, rfl⟩
        subst hwa
        have hlit : littleR nm = true := by unfold littleR; simp; omega
        have HLIT := Lib.hid hlit
        have HNW : Hid ((Lit.int .i32 nm).wf = true) := nmB_wf (by unfold nmB; rw [hlit]; simp)
        have HNM := Lib.hid (And.intro hnm1 hnm2)
        have HNEW := Lib.hid (new_awD w wa (fun x => x = g5) HBW.out (fun x hx => by have := HB.out.2; omega))
        obtain ⟨b, hbe⟩ : ∃ b, wa.heap.size = b := ⟨_, rfl⟩
        rw [hbe] at HNEW
        have HBE2 := Lib.hid hbe
        clear hlit hbe hnm1 hnm2
        go_upto_region 7 with (go_at_call 9; (with_reducible refine HNEW.out.mono ?_); rintro e w1 ⟨rfl, H1⟩)
        have HST : Hid (∃ s, AwG w w1 b s (fun x => x = g5) ∧ w1.heap[g5]? = some (.cells #[.int .i64 k, .slice ra rn rc] 31 (0, 0))) := ⟨[], H1.out.1, (H1.out.2.block g5 (by rw [← HBE2.out]; exact heap_lt HRW.out)).trans HRW.out⟩
        clear H1 HNEW c0 c1 c2 c3 c4 HRW HB HBW
        go_wp2_with fail
        go_loopw [8] (fun v8 wr => ∃ i : Nat, v8 = .int .i64 (i : Nat) ∧ i ≤ 50 ∧ i ≤ len ∧ Hid (∃ s, AwG w wr b s (fun x => x = g5) ∧ wr.heap[g5]? = some (.cells #[.int .i64 k, .slice ra rn rc] 31 (0, 0)))) (fun v8 _ => ((50 : Int) - intOf v8).toNat)
        case atStart => exact ⟨0, rfl, by omega, Nat.zero_le _, HST⟩
        case round =>
          obtain ⟨i, rfl, hi50, hil, hst⟩ := hrel
          clear HST
          by_cases hboth : (i : Int) < (len : Int) ∧ (i : Int) < 50
          · obtain ⟨hlt, h50⟩ := hboth
            obtain ⟨s, o1, o2⟩ := hst.out
            obtain ⟨db, doff, ask, dn, dk, da, dl, dc, DL, del, rfl, k0, k1, k2, k3, k4, hdb, i1, i2, hdr, hdw⟩ := HD.out.deedR o1.bel (i := i) (by omega)
            have hbw : db < wr.heap.size := Nat.lt_of_lt_of_le hdb o1.bel.size
            have HSM := Lib.hid (small_wide _ da dl dc DL wr hdr hdw)
            cases hs : smallL DL with
            | false =>
              rw [hs] at HSM
              have HN : Hid (∃ s, AwG w wr b s (fun x => x = g5) ∧ wr.heap[g5]? = some (.cells #[.int .i64 k, .slice ra rn rc] 31 (0, 0))) := hst
              clear o1 o2 hst hdr hdw hs
              go_wp2_with (go_at_call 10; (with_reducible refine HSM.out.mono ?_); rintro e w2 ⟨rfl, rfl⟩)
              go_roundw
              case rel => exact ⟨i + 1, by first | rfl | go_num, by omega, by omega, HN⟩
              case measure => first | (simp [intOf]; done) | (simp [intOf]; omega)
            | true =>
              rw [hs] at HSM
              have hsz := smallL_wide hs
              have HPU : Hid (Calls Try.prog 15 #[.pointer (some ⟨b, 0, none⟩), .int .i32 dn, .agg #[.int .i64 dk, .slice da dl dc], .bool del] wr.drew fun e w3 => e = .returned (.int .i64 (putR s dn ⟨dk, DL⟩ del).2) ∧ (w3.cell? ⟨db, doff + i * 5 + 1, none⟩ = some (.int .i32 dn) ∧ w3.cell? ⟨db, doff + i * 5 + 2, none⟩ = some (.int .i64 dk) ∧ w3.cell? ⟨db, doff + i * 5 + 3, none⟩ = some (.slice da dl dc) ∧ w3.cell? ⟨db, doff + i * 5 + 4, none⟩ = some (.bool del)) ∧
                  Hid (∃ s, AwG w w3 b s (fun x => x = g5) ∧ w3.heap[g5]? = some (.cells #[.int .i64 k, .slice ra rn rc] 31 (0, 0)))) := by
                refine ((o1.below (Below.refl _ _).drew).putF (hdr.below (Below.refl _ _).drew) (by unfold sizeR; omega) i1).mono ?_
                rintro e w3 ⟨rfl, h1, h2⟩
                have hblk : w3.heap[db]? = wr.heap[db]? := h2.block db hbw (fun q => by omega)
                refine ⟨rfl, ⟨(cell_block hblk).trans k1, (cell_block hblk).trans k2, (cell_block hblk).trans k3, (cell_block hblk).trans k4⟩, _, h1, (h2.block g5 (heap_lt o2) (fun q => q.2 rfl)).trans o2⟩
              have KS0 : Hid (wr.drew.cell? ⟨db, doff + i * 5 + 1, none⟩ = some (.int .i32 dn) ∧ wr.drew.cell? ⟨db, doff + i * 5 + 2, none⟩ = some (.int .i64 dk) ∧ wr.drew.cell? ⟨db, doff + i * 5 + 3, none⟩ = some (.slice da dl dc) ∧ wr.drew.cell? ⟨db, doff + i * 5 + 4, none⟩ = some (.bool del)) := ⟨k1, k2, k3, k4⟩
              have KS1 : Hid (wr.cell? ⟨db, doff + i * 5 + 1, none⟩ = some (.int .i32 dn) ∧ wr.cell? ⟨db, doff + i * 5 + 2, none⟩ = some (.int .i64 dk) ∧ wr.cell? ⟨db, doff + i * 5 + 3, none⟩ = some (.slice da dl dc) ∧ wr.cell? ⟨db, doff + i * 5 + 4, none⟩ = some (.bool del)) := ⟨k1, k2, k3, k4⟩
              clear o1 o2 hst hdr hdw hs hsz
              go_upto_region 11 with (go_at_call 10; (with_reducible refine HSM.out.mono ?_); rintro e w2 ⟨rfl, rfl⟩)
              go_region_held3 (fun W => (W.cell? ⟨db, doff + i * 5 + 1, none⟩ = some (.int .i32 dn) ∧ W.cell? ⟨db, doff + i * 5 + 2, none⟩ = some (.int .i64 dk) ∧ W.cell? ⟨db, doff + i * 5 + 3, none⟩ = some (.slice da dl dc) ∧ W.cell? ⟨db, doff + i * 5 + 4, none⟩ = some (.bool del)))
                (first | exact KS0.out | exact KS1.out | exact K3)
                (first | (go_at_call 15; (with_reducible refine HPU.out.mono ?_); rintro e w3 ⟨rfl, K3, HN⟩))
              all_goals
                go_wp2_with fail
                go_roundw
                case rel => exact ⟨i + 1, by first | rfl | go_num, by omega, by omega, HN⟩
                case measure => first | (simp [intOf]; done) | (simp [intOf]; omega)
          · go_upto_region 8 with fail
            go_cut [53] from 46 to 79 (fun s wx => s = .bool false ∧ wx = wr)
            case first =>
              by_cases hq : (i : Int) < (len : Int)
              · have hq3 : decide ((i : Int) < 50) = false := by have hq2 : ¬ (i : Int) < 50 := fun h => hboth ⟨hq, h⟩; simpa using hq2
                go_wp2_with fail
                go_meet
                exact ⟨by first | rfl | exact congrArg Value.bool hq3, rfl⟩
              · go_wp2_with fail
                go_meet
                exact ⟨rfl, rfl⟩
            obtain ⟨rfl, rfl⟩ := hcut
            obtain ⟨wz, hwz⟩ : ∃ x, x = wc := ⟨_, rfl⟩
            subst hwz
            obtain ⟨s, o1, o2⟩ := hst.out
            clear hst hboth HD
            obtain ⟨n9, hn9⟩ : ∃ n, s.length = n := ⟨_, rfl⟩
            have HN9 := Lib.hid hn9
            have HALL := Lib.hid o1.all
            rw [hn9] at HALL
            have hn9b : n9 ≤ 89 := by have := o1.ok.len; omega
            have HS := Lib.hid (And.intro o1.ok o1.names)
            have hzA : ∀ wA, Below wz.heap.size wz wA → BoxS wA g5 k ra rn rc := fun wA hb => BoxS.of ((hb.block g5 (heap_lt o2)).trans o2)
            have HBX := Lib.hid hzA
            have HPU : Hid (∀ wA a9 c9, Hid (RdN (fun k => wz.heap.size ≤ k) wA a9 n9 c9 s ∧ Below wz.heap.size wz wA) → Calls Try.prog 15 #[.pointer (some ⟨b, 0, none⟩), .int .i32 nm, .agg #[.int .i64 k, .slice ra rn rc], .bool true] wA fun e wB => e = .returned (.int .i64 0) ∧
                Hid (AwG w wB b (finR s nm ⟨k, L⟩) (fun x => x = g5 ∨ (wz.heap.size ≤ x ∧ x < wA.heap.size)) ∧ (∃ F, RdN F wB a9 n9 c9 s) ∧ wB.heap[g5]? = some (.cells #[.int .i64 k, .slice ra rn rc] 31 (0, 0)) ∧ (∃ F, RdL F wB ra rn rc L))) := by
              intro wA a9 c9 hA
              have hbA := hA.out.2
              have hg5 := heap_lt o2
              have hsA := hbA.size
              have hawA : AwG w wA b s (fun x => x = g5 ∨ (wz.heap.size ≤ x ∧ x < wA.heap.size)) := o1.turn hbA (fun x q => by
                rcases q with q | q
                · exact ⟨.inl q, by omega⟩
                · exact ⟨.inr q.1, q.2⟩)
              have hrA : RdL (fun k => k < w.heap.size) wA ra rn rc L := HR.out.below hawA.bel
              have hpl := put_letter s true HLIT.out HOK.out
              refine (hawA.putF (k := k) (d := true) hrA (by have := HOK.out.2.2.2; simp only at this; omega) HNW.out).mono ?_
              rw [hpl]
              rintro e wB ⟨rfl, h1, h2⟩
              have hrn := hA.out.1
              have hrnB : RdN (fun x => wz.heap.size ≤ x ∧ x < wA.heap.size) wA a9 n9 c9 s := by
                obtain ⟨vs, q1, q2, q3⟩ := hrn
                refine ⟨vs, q1, fun hp ad e => ⟨q2 hp ad e, ?_⟩, NmAt.boundN q3⟩
                obtain ⟨b2, off2, e2, hb2, _⟩ := q1.at_ hp
                rw [e] at e2
                cases e2
                exact hb2
              exact ⟨rfl, h1, ⟨_, hrnB.frF h2 (fun x q1 q2 => q2.2 (.inr q1))⟩, (h2.block g5 (by omega) (fun q => q.2 (.inl rfl))).trans ((hbA.block g5 hg5).trans o2), ⟨_, hrA.frF h2 (fun x q1 q2 => by omega)⟩⟩
            have HWZ : Hid (Below w.heap.size w wz) := o1.bel
            clear o1 o2 hn9 hzA HR HOK HNW
            go_upto_region 13 with (go_at_call 18; (with_reducible refine HALL.out.mono ?_); rintro e wA ⟨a9, c9, rfl, HA⟩)
            obtain ⟨c0, c1, c2, c3, c4⟩ := HBX.out wA HA.out.2
            go_upto_region 15 with (go_at_call 15; (with_reducible refine (HPU.out _ _ _ HA).mono ?_); rintro e wB ⟨rfl, HZ⟩)
            clear c0 c1 c2 c3 c4 HPU HA HALL HBX
            have hget := there_get (s := s) (r := ⟨k, L⟩) HLIT.out
            have HNW : Hid ((Lit.int .i32 nm).wf = true) := nmB_wf (by unfold nmB; rw [HLIT.out]; simp)
            have HG1 : Hid (Calls Try.prog 11 #[.pointer (some ⟨b, 0, none⟩), .int .i32 nm] wB fun e w2 => ∃ a2 c2, e = .returned (.tuple #[.agg #[.int .i64 k, .slice a2 rn c2], .int .i64 0]) ∧ Hid (∀ o, Below wB.heap.size wB (w2.alloc o) ∧ ∃ F, RdL F (w2.alloc o) a2 rn c2 L)) := by
              refine (HZ.out.1.get HNW.out hget.1).mono ?_
              rintro e w2 ⟨a2, c2, rfl, h⟩
              simp only at h
              rw [hrl] at h
              exact ⟨a2, c2, by simp only; rw [hrl], fun o => ⟨h.out.2.2.alloc h.out.2.2.size _, _, (h.out.1.rdl h.out.2.1).below ((Below.refl _ _).alloc (Nat.le_refl _) _)⟩⟩
            go_upto_region 16 with (go_at_call 11; (with_reducible refine HG1.out.mono ?_); rintro e w2 ⟨aX, cX, rfl, H2⟩)
            obtain ⟨wC, hwC⟩ : ∃ wC, w2.alloc (.cells #[.int .i64 k, .slice aX rn cX] 31) = wC := ⟨_, rfl⟩
            obtain ⟨gX, hgX⟩ : ∃ g, w2.heap.size = g := ⟨_, rfl⟩
            have HCX : Hid (wC.heap[gX]? = some (.cells #[.int .i64 k, .slice aX rn cX] 31 (0, 0)) ∧ Below wB.heap.size wB wC ∧ ∃ F, RdL F wC aX rn cX L) := by
              have h := H2.out (.cells #[.int .i64 k, .slice aX rn cX] 31)
              rw [hwC] at h
              exact ⟨by rw [← hwC, ← hgX]; exact heap_alloc_new w2 _, h.1, h.2⟩
            rw [hwC, hgX]
            clear hwC hgX H2 HG1
            have HG2 : Hid (Calls Try.prog 11 #[.pointer (some ⟨b, 0, none⟩), .int .i32 0] wC fun e w2 => ∃ a2 c2, e = .returned (.tuple #[.agg #[.int .i64 k, .slice a2 rn c2], .int .i64 0]) ∧ Hid (∀ o, Below wC.heap.size wC (w2.alloc o) ∧ ∃ F, RdL F (w2.alloc o) a2 rn c2 L)) := by
              refine ((HZ.out.1.below HCX.out.2.1).get rfl hget.2).mono ?_
              rintro e w2 ⟨a2, c2, rfl, h⟩
              simp only at h
              rw [hrl] at h
              exact ⟨a2, c2, by simp only; rw [hrl], fun o => ⟨h.out.2.2.alloc h.out.2.2.size _, _, (h.out.1.rdl h.out.2.1).below ((Below.refl _ _).alloc (Nat.le_refl _) _)⟩⟩
            go_upto_region 17 with (go_at_call 11; (with_reducible refine HG2.out.mono ?_); rintro e w3 ⟨aY, cY, rfl, H3⟩)
            obtain ⟨wE, hwE⟩ : ∃ wE, w3.alloc (.cells #[.int .i64 k, .slice aY rn cY] 31) = wE := ⟨_, rfl⟩
            obtain ⟨gY, hgY⟩ : ∃ g, w3.heap.size = g := ⟨_, rfl⟩
            have HE : Hid (wE.heap[gY]? = some (.cells #[.int .i64 k, .slice aY rn cY] 31 (0, 0)) ∧ wE.heap[gX]? = some (.cells #[.int .i64 k, .slice aX rn cX] 31 (0, 0)) ∧ wE.heap[g5]? = some (.cells #[.int .i64 k, .slice ra rn rc] 31 (0, 0)) ∧ Below wB.heap.size wB wE ∧ (∃ F, RdL F wE aX rn cX L) ∧ (∃ F, RdL F wE aY rn cY L) ∧ (∃ F, RdL F wE ra rn rc L)) := by
              have h := H3.out (.cells #[.int .i64 k, .slice aY rn cY] 31)
              rw [hwE] at h
              obtain ⟨F1, r1⟩ := HCX.out.2.2
              obtain ⟨F2, r2⟩ := HZ.out.2.2.2
              have hbE : Below wB.heap.size wB wE := HCX.out.2.1.trans (h.1.mono HCX.out.2.1.size)
              exact ⟨by rw [← hwE, ← hgY]; exact heap_alloc_new w3 _, (h.1.block gX (heap_lt HCX.out.1)).trans HCX.out.1, (hbE.block g5 (heap_lt HZ.out.2.2.1)).trans HZ.out.2.2.1, hbE, ⟨_, r1.below h.1⟩, h.2, ⟨_, r2.below hbE⟩⟩
            rw [hwE, hgY]
            have KS : Hid (∀ W, Below wE.heap.size wE W → (BoxS W gX k aX rn cX ∧ BoxS W gY k aY rn cY ∧ BoxS W g5 k ra rn rc)) := fun W hW => ⟨BoxS.of ((hW.block gX (heap_lt HE.out.2.1)).trans HE.out.2.1), BoxS.of ((hW.block gY (heap_lt HE.out.1)).trans HE.out.1), BoxS.of ((hW.block g5 (heap_lt HE.out.2.2.1)).trans HE.out.2.2.1)⟩
            have HS1 : Hid (Calls Try.prog 13 #[.agg #[.int .i64 k, .slice aX rn cX], .agg #[.int .i64 k, .slice ra rn rc]] wE fun e w' => e = .returned (.bool true) ∧ BoxS w' gX k aX rn cX ∧ BoxS w' gY k aY rn cY ∧ BoxS w' g5 k ra rn rc ∧ Hid (Below wE.heap.size wE w')) := by
              obtain ⟨F1, r1⟩ := HE.out.2.2.2.2.1
              obtain ⟨F2, r2⟩ := HE.out.2.2.2.2.2.2
              refine (rsameR_any F1 F2 k k aX ra rn rn cX rc L L wE r1 r2).mono ?_
              rintro e w' ⟨rfl, h⟩
              have := KS.out w' h
              exact ⟨by simp, this.1, this.2.1, this.2.2, h⟩
            have HS2 : Hid (∀ W, Hid (Below wE.heap.size wE W) → Calls Try.prog 13 #[.agg #[.int .i64 k, .slice aY rn cY], .agg #[.int .i64 k, .slice ra rn rc]] W fun e w' => e = .returned (.bool true) ∧ Hid (Below wE.heap.size wE w')) := by
              intro W hW
              obtain ⟨F1, r1⟩ := HE.out.2.2.2.2.2.1
              obtain ⟨F2, r2⟩ := HE.out.2.2.2.2.2.2
              refine (rsameR_any F1 F2 k k aY ra rn rn cY rc L L W (r1.below hW.out) (r2.below hW.out)).mono ?_
              rintro e w' ⟨rfl, h⟩
              exact ⟨by simp, hW.out.trans (h.mono hW.out.size)⟩
            obtain ⟨⟨d0, d1, d2, d3, d4⟩, ⟨e0, e1, e2, e3, e4⟩, ⟨f0, f1, f2, f3, f4⟩⟩ := KS.out wE (Below.refl _ _)
            clear hwE hgY H3 HG2 HCX
            go_upto_region 19 with (first
              | (go_at_call 13; (with_reducible refine HS1.out.mono ?_); rintro e w6 ⟨rfl, ⟨x0, x1, x2, x3, x4⟩, ⟨y0, y1, y2, y3, y4⟩, ⟨z0, z1, z2, z3, z4⟩, H6⟩)
              | (go_at_call 13; (with_reducible refine (HS2.out _ H6).mono ?_); rintro e w7 ⟨rfl, H7⟩))
            clear d0 d1 d2 d3 d4 e0 e1 e2 e3 e4 f0 f1 f2 f3 f4 x0 x1 x2 x3 x4 y0 y1 y2 y3 y4 z0 z1 z2 z3 z4 HS1 HS2 KS H6
            have HBE7 : Hid (Below wB.heap.size wB w7) := HE.out.2.2.2.1.trans (H7.out.mono HE.out.2.2.2.1.size)
            clear HE H7
            go_wp2_with fail
            go_loopw [14] (fun v14 wr => ∃ j : Nat, v14 = .int .i64 (j : Nat) ∧ j ≤ n9 ∧ Hid (Below wB.heap.size wB wr)) (fun v14 _ => ((n9 : Int) - intOf v14).toNat)
            case atStart => exact ⟨0, rfl, Nat.zero_le _, HBE7⟩
            case round =>
              obtain ⟨j, rfl, hjn, HJ⟩ := hrel
              clear HBE7
              by_cases hlt : j < n9
              · obtain ⟨F9, hrd9⟩ := HZ.out.2.1
                have hx : s[j]? = some (s.getD j nm0) := by rw [List.getD_eq_getElem?_getD, List.getElem?_eq_getElem (by have := HN9.out; omega)]; rfl
                obtain ⟨⟨xm, ⟨xk, xL⟩⟩, hxe⟩ : ∃ x, s.getD j nm0 = x := ⟨_, rfl⟩
                rw [hxe] at hx
                obtain ⟨vb, voff, va, vc, rfl, hvb, -, k0, k1, k2, hvl⟩ := hrd9.get HJ.out hx
                simp only at k0 k1 k2 hvl
                have hmem : (xm, (⟨xk, xL⟩ : Rg)) ∈ s := List.mem_of_getElem? hx
                have hvw : vb < wr.heap.size := Nat.lt_of_lt_of_le hvb HJ.out.size
                have hltI : (j : Int) < (n9 : Int) := by omega
                by_cases hskip : xm = nm ∨ xm = 34
                · clear hx hxe hmem hvl hrd9
                  by_cases h1 : xm = nm
                  · have q1 : (xm == nm) = true := by simpa using h1
                    clear hskip h1
                    go_wp2_with fail
                    go_roundw
                    case rel => exact ⟨j + 1, by first | rfl | go_num, by omega, HJ⟩
                    case measure => first | (simp [intOf]; done) | (simp [intOf]; omega)
                  · have q1 : (xm == nm) = false := by simpa using h1
                    have q2 : (xm == 34) = true := by
                      have := hskip.resolve_left h1
                      simpa using this
                    clear hskip h1
                    go_wp2_with fail
                    go_roundw
                    case rel => exact ⟨j + 1, by first | rfl | go_num, by omega, HJ⟩
                    case measure => first | (simp [intOf]; done) | (simp [intOf]; omega)
                · have h1 : xm ≠ nm := fun e => hskip (.inl e)
                  have h2 : xm ≠ 34 := fun e => hskip (.inr e)
                  have q1 : (xm == nm) = false := by simpa using h1
                  have q2 : (xm == 34) = false := by simpa using h2
                  have hgo := there_old (r := ⟨k, L⟩) HS.out.1 HS.out.2 hmem h1 h2
                  simp only at hgo
                  have HG3 : Hid (Calls Try.prog 11 #[.pointer (some ⟨b, 0, none⟩), .int .i32 xm] wr fun e w2 => ∃ a2 c2, e = .returned (.tuple #[.agg #[.int .i64 xk, .slice a2 xL.length c2], .int .i64 0]) ∧ Hid (∀ o, Below wr.heap.size wr (w2.alloc o) ∧ ∃ F, RdL F (w2.alloc o) a2 xL.length c2 xL)) := by
                    refine ((HZ.out.1.below HJ.out).get (nmB_wf (HS.out.2 _ hmem)) hgo).mono ?_
                    rintro e w2 ⟨a2, c2, rfl, h⟩
                    exact ⟨a2, c2, rfl, fun o => ⟨h.out.2.2.alloc h.out.2.2.size _, _, (h.out.1.rdl h.out.2.1).below ((Below.refl _ _).alloc (Nat.le_refl _) _)⟩⟩
                  have HVL := Lib.hid hvl
                  obtain ⟨m, hm⟩ : ∃ m, xL.length = m := ⟨_, rfl⟩
                  rw [hm] at HG3 k2 HVL
                  clear hx hxe hmem hvl hskip h1 h2 hgo hm hrd9
                  go_upto_region 24 with (go_at_call 11; (with_reducible refine HG3.out.mono ?_); rintro e w2 ⟨a2, c2, rfl, H2⟩)
                  obtain ⟨w3, hw3⟩ : ∃ w3, w2.alloc (.cells #[.int .i64 xk, .slice a2 m c2] 31) = w3 := ⟨_, rfl⟩
                  obtain ⟨g, hg⟩ : ∃ g, w2.heap.size = g := ⟨_, rfl⟩
                  have hrow3 : w3.heap[g]? = some (.cells #[.int .i64 xk, .slice a2 m c2] 31 (0, 0)) := by rw [← hw3, ← hg]; exact heap_alloc_new w2 _
                  obtain ⟨hb3, F3, hr3⟩ := H2.out (.cells #[.int .i64 xk, .slice a2 m c2] 31)
                  rw [hw3] at hb3 hr3
                  have HB3 : Hid (Below wr.heap.size wr w3) := hb3
                  have HSM : Hid (∀ W, Hid (Below w3.heap.size w3 W) → Calls Try.prog 13 #[.agg #[.int .i64 xk, .slice a2 m c2], .agg #[.int .i64 xk, .slice va m vc]] W fun e w' => e = .returned (.bool true) ∧ Hid (Below w3.heap.size w3 w')) := by
                    intro W hW
                    refine (rsameR_any _ _ xk xk a2 va m m c2 vc xL xL W (hr3.below hW.out) (HVL.out.below (hb3.trans (hW.out.mono hb3.size)))).mono ?_
                    rintro e w' ⟨rfl, hb⟩
                    exact ⟨by simp, hW.out.trans (hb.mono hW.out.size)⟩
                  have KS : Hid (∀ W, Below w3.heap.size w3 W → (W.cell? ⟨g, 0, none⟩ = some (.int .i64 xk) ∧ W.cell? ⟨g, 1, none⟩ = some (.slice a2 m c2) ∧ W.cell? ⟨vb, voff + j * 3 + 1, none⟩ = some (.int .i64 xk) ∧ W.cell? ⟨vb, voff + j * 3 + 2, none⟩ = some (.slice va m vc))) := by
                    intro W hW
                    have e1 := (hW.block g (heap_lt hrow3)).trans hrow3
                    have hbW := hb3.trans (hW.mono hb3.size)
                    exact ⟨cell_row e1 0, cell_row e1 1, (hbW.cell (p := ⟨vb, voff + j * 3 + 1, none⟩) hvw).trans k1, (hbW.cell (p := ⟨vb, voff + j * 3 + 2, none⟩) hvw).trans k2⟩
                  have HR0 : Hid (Below w3.heap.size w3 w3) := Below.refl _ _
                  have HR1 : Hid (Below w3.heap.size w3 w3.drew) := (Below.refl _ _).drew
                  rw [hw3, hg]
                  obtain ⟨c0, c1, c2', c3⟩ := KS.out _ HR0.out
                  clear hw3 hg hrow3 hb3 hr3 H2 k0 k1 k2
                  go_region_held3 (fun W => (W.cell? ⟨g, 0, none⟩ = some (.int .i64 xk) ∧ W.cell? ⟨g, 1, none⟩ = some (.slice a2 m c2) ∧ W.cell? ⟨vb, voff + j * 3 + 1, none⟩ = some (.int .i64 xk) ∧ W.cell? ⟨vb, voff + j * 3 + 2, none⟩ = some (.slice va m vc)))
                    (first | exact KS.out _ HR0.out | exact KS.out _ HR1.out | exact KS.out _ HB5.out)
                    (first | (go_at_call 13; (with_reducible refine (HSM.out _ (by first | exact HR1 | exact HR0)).mono ?_); rintro e w5 ⟨rfl, HB5⟩))
                  all_goals
                    have HN : Hid (Below wB.heap.size wB w5) := HJ.out.trans ((HB3.out.trans (HB5.out.mono HB3.out.size)).mono HJ.out.size)
                    go_wp2_with fail
                    go_roundw
                    case rel => exact ⟨j + 1, by first | rfl | go_num, by omega, HN⟩
                    case measure => first | (simp [intOf]; done) | (simp [intOf]; omega)
              · obtain rfl : j = n9 := by omega
                have HBW : Hid (Below w.heap.size w wr) := HZ.out.1.bel.trans (HJ.out.mono HZ.out.1.bel.size)
                go_wp2_with (go_at_call 19; (with_reducible refine (HK.out _ HBW).mono ?_); rintro e w9 ⟨rfl, HB9⟩)
                go_ret
                exact ⟨rfl, HB9.out⟩
end Go.Proofs.Ytleidcegbfnmkaa.U
