/-
  The walk of PieceKeeps.
-/
import Derived.Test.YtblbbcgdgbajnaaPDoI
namespace Go.Proofs.Ytblbbcgdgbajnaa.U
open Go.RowKit
set_option linter.unusedVariables false
set_option linter.unusedSimpArgs false

/-- a deed of a kind below 2: each of the two rows becomes what it becomes by itself -/
theorem do_loose (B : Nat) (Q : Nat → Prop) (w : World) (bt bx : Nat) (row : List Int) (kept : List (List Int)) (L : List Int) (S : List (List Int)) (ng : Nat) (hB : B ≤ w.heap.size) (hQ : ∀ k, Q k → k < w.heap.size) (h : Both B Q w bt bx row kept L S ng)
    (k p n : Int) (al : Option Addr) (ll cl : Nat) (LL : List Int) (hk : k < 2) (hp : i64b p) (hn : i64b n) (hg : ng + ll ≤ lim) (hl : ll ≤ 2000) (hr : ∀ W, Below B w W → Rd .i32 W al ll cl LL) (hkl : kept.length ≤ lim) (hsl : S.length ≤ lim) (hsr : ∀ x ∈ S, x.length ≤ 65536) :
    Calls Try.prog 11 #[.pointer (some ⟨bt, 0, none⟩), .pointer (some ⟨bx, 0, none⟩), .agg #[.int .i64 k, .int .i64 p, .int .i64 n, .slice al ll cl]] w fun e w' => ∃ b, e = .returned (.bool b) ∧ ∃ f : List Int → List (List Int) → List Int, Both B Q w' bt bx (f row kept) kept (f L S) S (ng + 2000) ∧ Fr (fun k => B ≤ k ∧ ¬ Q k) w w' := by
  by_cases h0 : k = 0
  · subst h0
    refine (do_ins B Q w bt bx row kept L S ng hB hQ h p n al ll cl LL hp hg hl hr).mono ?_
    rintro e w' ⟨⟨b, rfl, _⟩, hbo, hf⟩
    exact ⟨b, rfl, fun r _ => (insM r p LL).1, hbo.mono (by omega), hf⟩
  by_cases h1 : k = 1
  · subst h1
    refine (do_del B Q w bt bx row kept L S ng hB hQ h p n al ll cl hp hn (by omega)).mono ?_
    rintro e w' ⟨⟨b, rfl, _⟩, hbo, hf⟩
    exact ⟨b, rfl, fun r _ => (delM r p n).1, hbo.mono (by omega), hf⟩
  · refine (do_back B Q w bt bx row kept L S ng hB hQ h k p n al ll cl h0 h1 (by omega) (by omega) hkl hsl hsr).mono ?_
    rintro e w' ⟨⟨b, rfl, _⟩, hbo, hf⟩
    exact ⟨b, rfl, fun r s => (backM r s n).1, hbo.mono (by omega), hf⟩

/-- both, just made -/
theorem both_new {B : Nat} {w1 w2 : World} {bt bx : Nat} {xs : List Int} {np : Nat} {G : Nat → Prop} (T : TS (fun k => B ≤ k) w1 bt xs [] np 0) (R : RefOk w2 G bx xs []) (hb : Below w1.heap.size w1 w2) (hG : ∀ k, G k → w1.heap.size ≤ k) (hB : B ≤ w1.heap.size) :
    Both B (fun _ => False) w2 bt bx xs [] xs [] 0 :=
  ⟨G, fun k hk => ⟨by have := hG k hk; omega, fun h => h⟩, (((T.many.shrink (N := fun k => w1.heap.size ≤ k) (fun k hk => hk)).below hb).mono (fun k hk => ⟨hk.1, fun g => hk.2 (hG k g), fun h => h⟩) (Nat.le_refl _) (Nat.le_refl _)), R⟩

/-- another row is laid into the document's table -/
theorem Both.lay {B : Nat} {Q : Nat → Prop} {w w1 : World} {bt bx : Nat} {row : List Int} {kept : List (List Int)} {L L' : List Int} {S : List (List Int)} {ng : Nat} {la : Option Addr} {lc : Nat} (h : Both B Q w bt bx row kept L S ng) (hB : B ≤ w.heap.size) (hQ : ∀ k, Q k → k < w.heap.size)
    (hb : Below w.heap.size w w1) (ho : w1.ownsRow w.heap.size 21 1 (.slice la L'.length lc) L'.length (ints L')) (hw : ∀ x ∈ L', (Lit.int .i32 x).wf = true) (hr : L'.length ≤ 65536) :
    Both B Q (w1.setCell ⟨bx, 0, none⟩ (.slice la L'.length lc)) bt bx row kept L' S ng ∧ Fr (fun k => B ≤ k ∧ ¬ Q k) w (w1.setCell ⟨bx, 0, none⟩ (.slice la L'.length lc)) := by
  obtain ⟨G, hG, T, R⟩ := h
  obtain ⟨R', hf⟩ := R.lay hb ho hw hr
  exact Both.x hB hQ hG T ⟨_, R', hf, fun k hk => hk.1⟩
theorem Both.rd {B : Nat} {Q : Nat → Prop} {w : World} {bt bx : Nat} {row : List Int} {kept : List (List Int)} {L : List Int} {S : List (List Int)} {ng : Nat} (h : Both B Q w bt bx row kept L S ng) :
    ∃ la lc, w.cell? ⟨bx, 0, none⟩ = some (.slice la L.length lc) ∧ Rd .i32 w la L.length lc L ∧ bx < w.heap.size ∧ w.frozen? ⟨bx, 0, none⟩ = false := by
  obtain ⟨G, hG, T, R⟩ := h
  obtain ⟨la, lc, h1, h2⟩ := R.rd
  exact ⟨la, lc, h1, h2, R.lt _ R.inG, R.fz 0⟩
theorem both_whole {B : Nat} {Q : Nat → Prop} {w : World} {bt bx : Nat} {row : List Int} {kept : List (List Int)} {L : List Int} {S : List (List Int)} {ng : Nat} (h : Both B Q w bt bx row kept L S ng) (hg : ng ≤ lim) :
    Calls Try.prog 13 #[.pointer (some ⟨bt, 0, none⟩)] w fun e w' => ∃ a c, e = .returned (.tuple #[.slice a row.length c, .bool true]) ∧ Rd .i32 w' a row.length c row ∧ Below w.heap.size w w' := by
  obtain ⟨G, hG, T, R⟩ := h
  refine (ts_whole _ bt row kept 65536 ng w T hg).mono ?_
  rintro e w' ⟨a, c, rfl, ho, hb⟩
  exact ⟨a, c, rfl, own_rd ho T.wf, hb⟩

/-- in the first loop -/
def K1 (B : Nat) (w wr : World) (bt bx i : Nat) : Prop := ∃ L, Both B (fun _ => False) wr bt bx L [] L [] (2000 * i) ∧ Below B w wr
/-- in the second -/
def K2 (B : Nat) (w wr : World) (bt bx : Nat) (R0 : List Int) (a : Option Addr) (c i : Nat) : Prop :=
  ∃ row L, Both B (fun k => some k = (Value.slice a R0.length c).ownBlock) wr bt bx row [R0] L [] (60000 + 2000 * i) ∧ Below B w wr ∧ wr.ownsRow B 21 1 (.slice a R0.length c) R0.length (ints R0)

set_option maxRecDepth 100000 in
set_option maxHeartbeats 4000000 in
theorem pieceKeeps_walk (a : Option Addr) (len cap : Nat) (xs : List Int) (da : Option Addr) (dl dc : Nat) (ea : Option Addr) (el ec : Nat) (w : World) (h1 : Rd .i32 w a len cap xs) (h2 : RdD w da dl dc) (h3 : RdD w ea el ec) :
    Calls Try.prog 6 #[.slice a len cap, .slice da dl dc, .slice ea el ec] w fun e w' => e = .returned (.bool true) ∧ Below w.heap.size w w' := by
  have hs1 := h1.small
  have hs2 : dl ≤ 9223372036854775807 := by have := h2.1; have := h2.2.1; unfold maxLen at this; omega
  have hs3 : el ≤ 9223372036854775807 := by have := h3.1; have := h3.2.1; unfold maxLen at this; omega
  by_cases hL : 2000 < len
  · clear h1 h2 h3
    go_enter Try.func6, Try.ntmps6
    go_wp2_with fail
    go_ret
    exact ⟨rfl, Below.refl _ _⟩
  have hL' : len ≤ 2000 := by omega
  obtain rfl := h1.len
  have HX := Lib.hid h1
  have HD := Lib.hid h2
  have HE := Lib.hid h3
  clear h1 h2 h3
  obtain ⟨B, hB⟩ : ∃ B, w.heap.size = B := ⟨_, rfl⟩
  have HBE := Lib.hid hB
  rw [hB]
  clear hB
  go_enter Try.func6, Try.ntmps6
  go_wp2_with fail
  refine (ts_new (fun k => B ≤ k) a xs.length cap xs _ HX.out (by omega) (fun k hk => by have := HBE.out; omega)).mono ?_
  rintro e w1 ⟨bt, rfl, T1, hb1⟩
  have HB1 : Hid (Below B w w1) := by show Below _ _ _; rw [← HBE.out]; exact hb1
  have T1' := Lib.hid T1
  clear hb1 T1
  go_wp2_with fail
  refine (rNew a xs.length cap xs w1 (HX.out.at_ HBE.out HB1.out) (by omega)).mono ?_
  rintro e w2 ⟨bx, G, rfl, hR, hb2, hG⟩
  have HS : Hid (K1 B w w2 bt bx 0) := ⟨xs, both_new T1'.out hR hb2 hG (by have := HB1.out.size; have := HBE.out; omega), HB1.out.trans (hb2.mono (by have := HB1.out.size; have := HBE.out; omega))⟩
  clear hR hb2 hG T1' HB1
  go_wp2_with fail
  go_loopw [9] (fun s9 wr => ∃ i : Nat, s9 = .int .i64 i ∧ i ≤ dl ∧ i ≤ 30 ∧ Hid (K1 B w wr bt bx i)) (fun s9 _ => 30 - (intOf s9).toNat)
  case atStart => exact ⟨0, rfl, by omega, by omega, HS⟩
  case round =>
    obtain ⟨i, rfl, hi, hi3, hk1⟩ := hrel
    clear HS
    have rest : True := trivial
    by_cases hlt : i < dl ∧ i < 30
    · obtain ⟨hlt, h30⟩ := hlt
      obtain ⟨row, hbo, hb⟩ := hk1.out
      have hsz : B ≤ wr.heap.size := by have := hb.size; have := HBE.out; omega
      obtain ⟨db, off, rfl, hdb, k, p, n, al, ll, cl, LL, q1, q2, q3, q4, q5, c0, c1, c2, c3⟩ := HD.out.get HBE.out hb hlt
      have hll := q4.small
      have hdw : db < wr.heap.size := by omega
      have HDO : Hid (k < 2 → ll ≤ 2000 → Calls Try.prog 11 #[.pointer (some ⟨bt, 0, none⟩), .pointer (some ⟨bx, 0, none⟩), .agg #[.int .i64 k, .int .i64 p, .int .i64 n, .slice al ll cl]] wr fun e w' => ∃ b, e = .returned (.bool b) ∧ Hid (K1 B w w' bt bx (i + 1))) := by
        intro z1 z2
        refine (do_loose B (fun _ => False) wr bt bx row [] row [] (2000 * i) hsz (fun _ h => h.elim) hbo k p n al ll cl LL z1 q2 q3 (by unfold lim; omega) z2 (fun W hW => q5.at_ HBE.out (hb.trans hW)) (by decide) (by decide) (fun x hx => by cases hx)).mono ?_
        rintro e w' ⟨b, rfl, f, hbo', hf⟩
        exact ⟨b, rfl, _, hbo'.mono (by omega), hb.trans (hf.below hsz (fun k hk => hk.1))⟩
      have HN : Hid (K1 B w wr bt bx (i + 1)) := ⟨row, hbo.mono (by omega), hb⟩
      clear q1 q2 q3 q4 q5 hbo hb hk1
      go_wp2_with (go_at_call 11; refine (HDO.out (by omega) (by omega)).mono ?_; rintro e w3 ⟨b, rfl, HN3⟩)
      all_goals
        go_roundw
        case rel => exact ⟨i + 1, by go_num, by omega, by omega, by first | exact HN3 | exact HN⟩
        case measure => simp [intOf]; omega
    · obtain ⟨row, hbo, hb⟩ := hk1.out
      have hsz : B ≤ wr.heap.size := by have := hb.size; have := HBE.out; omega
      have hrl := hbo.lenX
      have hwfr := hbo.wfX
      obtain ⟨la, lc, e0, er, ebx, ef⟩ := hbo.rd
      obtain ⟨a3, c3, w3, hrun, ho, hb3⟩ := app_lit wr la row.length lc row er (by omega)
      have HRUN := Lib.hid hrun
      have hw3 : B ≤ w3.heap.size := by have := hb3.size; omega
      have hbo3 : Both B (fun k => some k = (Value.slice a3 row.length c3).ownBlock) w3 bt bx row [] row [] 60000 := ((hbo.mono (ng' := 60000) (by omega)).more (fun k hk => (ho.lt k hk.symm).1) hb3).less (fun k hk => .inr hk)
      have HSV : Hid (Calls Try.prog 20 #[.pointer (some ⟨bt, 0, none⟩)] w3 fun e w' => e = .returned (.int .i64 1) ∧ Hid (K2 B w w' bt bx row a3 c3 0)) := by
        refine (both_t_save hw3 (fun k hk => (ho.lt k hk.symm).2) hbo3 (by decide)).mono ?_
        rintro e w' ⟨rfl, hbo', hf⟩
        exact ⟨rfl, row, row, hbo', (hb.trans (hb3.mono hsz)).trans (hf.below hw3 (fun k hk => hk.1)), own_mono (own_fr ho hf (fun k e hk => hk.2 e.symm)) hsz⟩
      have HWF := Lib.hid hwfr
      clear hrun ho hb3 hbo3 hbo hb hk1 hwfr
      go_upto_region 7 with fail
      go_cut [32] from 25 to 56 (fun s wx => s = .bool false ∧ wx = wr)
      case first =>
        by_cases hq : i < dl
        · have hq3 : decide ((i : Int) < 30) = false := by have hq2 : ¬ i < 30 := fun h => hlt ⟨hq, h⟩; simp; omega
          go_wp2_with fail
          go_meet
          exact ⟨by first | rfl | exact congrArg Value.bool hq3, rfl⟩
        · go_wp2_with fail
          go_meet
          exact ⟨rfl, rfl⟩
      obtain ⟨rfl, rfl⟩ := hcut
      go_wp2_with (first
        | (at_builtin; go_must (with_reducible refine Lib.wpList_append_run _ rfl (.tmp 57) (.tmp 61) _ _ rfl _ _ rfl rfl _ _ (HRUN.out _) ?_))
        | (go_at_call 20; refine HSV.out.mono ?_; rintro e w4 ⟨rfl, HS2⟩))
      all_goals
        clear e0 er ebx ef hw3 hsz
        go_loopw [12, 13, 14, 15] (fun s12 s13 s14 s15 wr => ∃ kk : Nat, s12 = .int .i64 kk ∧ kk ≤ 2 ∧ Hid (K2 B w wr bt bx row a3 c3 (30 * kk))) (fun s12 _ _ _ _ => 2 - (intOf s12).toNat)
        case atStart => exact ⟨0, rfl, by omega, HS2⟩
        case round =>
          obtain ⟨kk, rfl, hkk, hk2⟩ := hrel
          clear HS2
          by_cases hk22 : kk < 2
          · have hkb : decide ((kk : Int) < 2) = true := by simp; omega
            go_wp2_with fail
            try rw [hkb]
            go_loopw [13] (fun s13 wr => ∃ j : Nat, s13 = .int .i64 j ∧ j ≤ el ∧ j ≤ 30 ∧ Hid (K2 B w wr bt bx row a3 c3 (30 * kk + j))) (fun s13 _ => 30 - (intOf s13).toNat)
            case atStart => exact ⟨0, rfl, by omega, by omega, hk2⟩
            case round =>
              obtain ⟨j, rfl, hj, hj3, hk3⟩ := hrel
              clear hk2
              obtain ⟨rw', L', hbo, hb, hown⟩ := hk3.out
              by_cases hlt : j < el ∧ j < 30
              · obtain ⟨hlt, h30⟩ := hlt
                have hsz : B ≤ wr.heap.size := by have := hb.size; have := HBE.out; omega
                obtain ⟨db, off, rfl, hdb, k, p, n, al, ll, cl, LL, q1, q2, q3, q4, q5, c0, c1, c2, c3'⟩ := HE.out.get HBE.out hb hlt
                have hll := q4.small
                have hdw : db < wr.heap.size := by omega
                have HDO : Hid (k < 2 → ll ≤ 2000 → Calls Try.prog 11 #[.pointer (some ⟨bt, 0, none⟩), .pointer (some ⟨bx, 0, none⟩), .agg #[.int .i64 k, .int .i64 p, .int .i64 n, .slice al ll cl]] wr fun e w' => ∃ b, e = .returned (.bool b) ∧ Hid (K2 B w w' bt bx row a3 c3 (30 * kk + (j + 1)))) := by
                  intro z1 z2
                  refine (do_loose B _ wr bt bx rw' [row] L' [] (60000 + 2000 * (30 * kk + j)) hsz (fun k hk => (hown.lt k hk.symm).2) hbo k p n al ll cl LL z1 q2 q3 (by unfold lim; omega) z2 (fun W hW => q5.at_ HBE.out (hb.trans hW)) (by simp [lim]) (by decide) (fun x hx => by cases hx)).mono ?_
                  rintro e w' ⟨b, rfl, f, hbo', hf⟩
                  exact ⟨b, rfl, _, _, hbo'.mono (by omega), hb.trans (hf.below hsz (fun k hk => hk.1)), own_fr hown hf (fun k e hk => hk.2 e.symm)⟩
                have HN : Hid (K2 B w wr bt bx row a3 c3 (30 * kk + (j + 1))) := ⟨rw', L', hbo.mono (by omega), hb, hown⟩
                clear q1 q2 q3 q4 q5 hbo hb hk3 hown
                go_wp2_with (go_at_call 11; refine (HDO.out (by omega) (by omega)).mono ?_; rintro e w3 ⟨b, rfl, HN3⟩)
                all_goals
                  go_roundw
                  case rel =>
                    first
                      | exact ⟨j + 1, by go_num, by omega, by omega, by first | exact HN3 | exact HN⟩
                      | ((repeat apply Exists.intro); refine ⟨?_, rfl⟩; exact ⟨j + 1, by go_num, by omega, by omega, HN⟩)
                  case measure => simp [intOf]; omega
              · have hsz : B ≤ wr.heap.size := by have := hb.size; have := HBE.out; omega
                have HBK : Hid (Calls Try.prog 21 #[.pointer (some ⟨bt, 0, none⟩), .int .i64 1] wr fun e w' => e = .returned (.int .i64 0) ∧ Hid (Both B (fun k => some k = (Value.slice a3 row.length c3).ownBlock) w' bt bx row [row] L' [] (60000 + 60000 * kk + 60000) ∧ Below B w w' ∧ w'.ownsRow B 21 1 (.slice a3 row.length c3) row.length (ints row))) := by
                  refine (both_t_back hsz (fun k hk => (hown.lt k hk.symm).2) hbo 1 (by simp [lim])).mono ?_
                  rintro e w' ⟨rfl, hbo', hf⟩
                  have hbm : backM rw' [row] 1 = (row, 0) := by simp [backM]
                  rw [hbm] at hbo' ⊢
                  exact ⟨rfl, hbo'.mono (by omega), hb.trans (hf.below hsz (fun k hk => hk.1)), own_fr hown hf (fun k e hk => hk.2 e.symm)⟩
                clear hbo hb hk3 hown hsz
                go_upto_region 17 with fail
                go_cut [76] from 69 to 100 (fun s wx => s = .bool false ∧ wx = wr)
                case first =>
                  by_cases hq : j < el
                  · have hq3 : decide ((j : Int) < 30) = false := by have hq2 : ¬ j < 30 := fun h => hlt ⟨hq, h⟩; simp; omega
                    go_wp2_with fail
                    go_meet
                    exact ⟨by first | rfl | exact congrArg Value.bool hq3, rfl⟩
                  · go_wp2_with fail
                    go_meet
                    exact ⟨rfl, rfl⟩
                obtain ⟨rfl, rfl⟩ := hcut
                go_upto_region 23 with (go_at_call 21; refine HBK.out.mono ?_; rintro e w5 ⟨rfl, hst⟩)
                all_goals
                  obtain ⟨hbo, hb, hown⟩ := hst.out
                  have hsz : B ≤ w5.heap.size := by have := hb.size; have := HBE.out; omega
                  obtain ⟨a6, c6, w6, hrun6, ho6, hb6⟩ := app_lit w5 a3 row.length c3 row (own_rd hown HWF.out) (by omega)
                  have HRUN6 := Lib.hid hrun6
                  obtain ⟨_, _, f1, _, f2, f3⟩ := (hbo.below hb6).rd
                  obtain ⟨hlay, hfr6⟩ := hbo.lay hsz (fun k hk => (hown.lt k hk.symm).2) hb6 ho6 HWF.out hrl
                  have hb7 := hb.trans (hfr6.below hsz (fun k hk => hk.1))
                  have hown7 := own_fr hown hfr6 (fun k e hk => hk.2 e.symm)
                  have HST : Hid (Both B (fun k => some k = (Value.slice a3 row.length c3).ownBlock) (w6.setCell ⟨bx, 0, none⟩ (.slice a6 row.length c6)) bt bx row [row] row [] (60000 + 60000 * kk + 60000) ∧ Below B w (w6.setCell ⟨bx, 0, none⟩ (.slice a6 row.length c6)) ∧ (w6.setCell ⟨bx, 0, none⟩ (.slice a6 row.length c6)).ownsRow B 21 1 (.slice a3 row.length c3) row.length (ints row)) := ⟨hlay, hb7, hown7⟩
                  have hsz7 : B ≤ (w6.setCell ⟨bx, 0, none⟩ (.slice a6 row.length c6)).heap.size := by have := hb7.size; have := HBE.out; omega
                  clear hst hbo hb hown hrun6 ho6 hb6 hlay hfr6 hb7 hown7 hsz
                  go_wp2_with (at_builtin; go_must (with_reducible refine Lib.wpList_append_run _ rfl (.tmp 106) (.tmp 107) _ _ rfl _ _ rfl rfl _ _ (HRUN6.out _) ?_))
                  refine (both_whole HST.out.1 (by unfold lim; omega)).mono ?_
                  rintro e w8 ⟨a8, c8, rfl, R8, hb8⟩
                  have hs8 : B ≤ w8.heap.size := by have := hb8.size; omega
                  have R8' := Lib.hid R8
                  have HO8 := Lib.hid (own_block HST.out.2.2 (fun k e => hb8.block k (HST.out.2.2.lt k e).2))
                  have HB8 := Lib.hid (HST.out.1.below hb8)
                  have HW8 := Lib.hid (HST.out.2.1.trans (hb8.mono hsz7))
                  clear R8 hb8
                  go_wp2_with fail
                  refine (runes_same a8 a3 row.length c8 c3 row w8 R8'.out (own_rd HO8.out HWF.out)).mono ?_
                  rintro e w9 ⟨rfl, hb9⟩
                  have HN : Hid (K2 B w w9 bt bx row a3 c3 (30 * (kk + 1))) := ⟨row, row, (HB8.out.below hb9).mono (by omega), HW8.out.trans (hb9.mono hs8), own_block HO8.out (fun k e => hb9.block k (HO8.out.lt k e).2)⟩
                  clear hb9
                  go_wp2_with fail
                  go_roundw
                  case rel => exact ⟨kk + 1, by go_num, by omega, HN⟩
                  case measure => simp [intOf]; omega
          · go_wp2_with fail
            refine (awake_any wr).mono ?_
            rintro e w9 ⟨rfl, hb9⟩
            go_wp2_with fail
            go_ret
            exact ⟨rfl, by obtain ⟨_, _, _, hb, _⟩ := hk2.out; exact hb.trans (hb9.mono (by have := hb.size; have := HBE.out; omega))⟩
end Go.Proofs.Ytblbbcgdgbajnaa.U
