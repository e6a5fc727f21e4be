/-
  The walk of PiecePlays.
-/
import Derived.Test.YtblbbcgdgbajnaaPDoS
import Derived.Test.YtblbbcgdgbajnaaPKeeps
namespace Go.Proofs.Ytblbbcgdgbajnaa.U
open Go.RowKit
set_option linter.unusedVariables false
set_option linter.unusedSimpArgs false

/-- the two tables say the same -/
def Eqs (B : Nat) (Q : Nat → Prop) (w : World) (bt bx : Nat) (L : List Int) (S : List (List Int)) (ng m : Nat) : Prop := Both B Q w bt bx L S L S ng ∧ S.length ≤ m ∧ ∀ x ∈ S, x.length ≤ 65536

/-- any deed with two tables that say the same: they say the same, and answered the same -/
theorem do_play (B : Nat) (Q : Nat → Prop) (w : World) (bt bx : Nat) (L : List Int) (S : List (List Int)) (ng m : Nat) (hB : B ≤ w.heap.size) (hQ : ∀ k, Q k → k < w.heap.size) (h : Eqs B Q w bt bx L S ng m)
    (k p n : Int) (al : Option Addr) (ll cl : Nat) (LL : List Int) (hp : i64b p) (hn : i64b n) (hg : ng + 2000 ≤ lim) (hm : m ≤ 1000000) (hl : ll ≤ 2000) (hr : ∀ W, Below B w W → Rd .i32 W al ll cl LL) :
    Calls Try.prog 11 #[.pointer (some ⟨bt, 0, none⟩), .pointer (some ⟨bx, 0, none⟩), .agg #[.int .i64 k, .int .i64 p, .int .i64 n, .slice al ll cl]] w fun e w' => e = .returned (.bool true) ∧ ∃ L' S', Eqs B Q w' bt bx L' S' (ng + 2000) (m + 1) ∧ Fr (fun k => B ≤ k ∧ ¬ Q k) w w' := by
  obtain ⟨hb, hs, hx⟩ := h
  by_cases h0 : k = 0
  · subst h0
    refine (do_ins B Q w bt bx L S L S ng hB hQ hb p n al ll cl LL hp (by omega) hl hr).mono ?_
    rintro e w' ⟨⟨b, rfl, e1⟩, hbo, hf⟩
    exact ⟨by rw [e1 rfl], _, S, ⟨hbo.mono (by omega), by omega, hx⟩, hf⟩
  by_cases h1 : k = 1
  · subst h1
    refine (do_del B Q w bt bx L S L S ng hB hQ hb p n al ll cl hp hn (by omega)).mono ?_
    rintro e w' ⟨⟨b, rfl, e1⟩, hbo, hf⟩
    exact ⟨by rw [e1 rfl], _, S, ⟨hbo.mono (by omega), by omega, hx⟩, hf⟩
  by_cases h2 : k = 2
  · subst h2
    refine (do_slice B Q w bt bx L S ng hB hQ hb p n al ll cl hp hn (by omega)).mono ?_
    rintro e w' ⟨rfl, hbo, hf⟩
    exact ⟨rfl, _, S, ⟨hbo.mono (by omega), by omega, hx⟩, hf⟩
  by_cases h3 : k = 3
  · subst h3
    refine (do_save B Q w bt bx L S ng hB hQ hb p n al ll cl (by omega)).mono ?_
    rintro e w' ⟨rfl, hbo, hf⟩
    refine ⟨rfl, L, S ++ [L], ⟨hbo.mono (by omega), by simp; omega, fun x hh => ?_⟩, hf⟩
    rcases List.mem_append.1 hh with hh | hh
    · exact hx x hh
    · simp only [List.mem_cons, List.not_mem_nil, or_false] at hh
      subst hh
      exact hb.lenX
  · refine (do_back B Q w bt bx L S L S ng hB hQ hb k p n al ll cl h0 h1 h2 h3 (by unfold lim; omega) (by unfold lim; omega) hx).mono ?_
    rintro e w' ⟨⟨b, rfl, e1⟩, hbo, hf⟩
    exact ⟨by rw [e1 rfl], _, S, ⟨hbo.mono (by omega), by omega, hx⟩, hf⟩

theorem both_made {B : Nat} {P Q : Nat → Prop} {w1 w2 : World} {bt bx : Nat} {xs : List Int} {np : Nat} {G : Nat → Prop} (T : TS P w1 bt xs [] np 0) (R : RefOk w2 G bx xs []) (hb : Below w1.heap.size w1 w2) (hG : ∀ k, G k → w1.heap.size ≤ k) (hP : ∀ k, P k → B ≤ k ∧ ¬ Q k) (hGQ : ∀ k, w1.heap.size ≤ k → B ≤ k ∧ ¬ Q k) :
    Both B Q w2 bt bx xs [] xs [] 0 :=
  ⟨G, fun k hk => hGQ k (hG k hk), (((T.many.shrink (N := fun k => w1.heap.size ≤ k) (fun k hk => hk)).below hb).mono (fun k hk => ⟨(hP k hk.1).1, fun g => hk.2 (hG k g), (hP k hk.1).2⟩) (Nat.le_refl _) (Nat.le_refl _)), R⟩

/-- in the second loop -/
def Y1 (B : Nat) (w wr : World) (bt bx i : Nat) : Prop := ∃ L S, Eqs B (fun _ => False) wr bt bx L S (2000 * i) i ∧ Below B w wr
/-- behind a deed -/
def Y2 (B : Nat) (w wr : World) (bt bx i : Nat) (L : List Int) (la : Option Addr) (lc N : Nat) : Prop := ∃ S, Eqs B (fun _ => False) wr bt bx L S (2000 * i) i ∧ Below B w wr ∧ L.length = N ∧ wr.cell? ⟨bx, 0, none⟩ = some (.slice la N lc) ∧ bx < wr.heap.size ∧ Rd .i32 wr la N lc L
theorem Y2.below {B : Nat} {w wr W : World} {bt bx i : Nat} {L : List Int} {la : Option Addr} {lc N : Nat} (h : Y2 B w wr bt bx i L la lc N) (hb : Below wr.heap.size wr W) (hw : B ≤ w.heap.size) : Y2 B w W bt bx i L la lc N := by
  obtain ⟨S, ⟨h1, h2, h3⟩, h4, h5, h6, h7, h8⟩ := h
  have := hb.size
  have := h4.size
  exact ⟨S, ⟨h1.below hb, h2, h3⟩, h4.trans (hb.mono (by omega)), h5, (hb.cell (p := ⟨bx, 0, none⟩) h7).trans h6, by omega, h8.below hb⟩

set_option maxRecDepth 100000 in
set_option maxHeartbeats 4000000 in
theorem piecePlays_walk (a : Option Addr) (len cap : Nat) (xs : List Int) (da : Option Addr) (dl dc : Nat) (w : World) (h1 : Rd .i32 w a len cap xs) (h2 : RdD w da dl dc) :
    Calls Try.prog 3 #[.slice a len cap, .slice da dl dc] w fun e w' => e = .returned (.bool true) ∧ Below w.heap.size w w' := by
  have hs1 := h1.small
  have hs2 : dl ≤ 9223372036854775807 := by have := h2.1; have := h2.2.1; unfold maxLen at this; omega
  by_cases hL : 2000 < len
  · clear h1 h2
    go_enter Try.func3, Try.ntmps3
    go_wp2_with fail
    go_ret
    exact ⟨rfl, Below.refl _ _⟩
  have hL' : len ≤ 2000 := by omega
  obtain rfl := h1.len
  have hwf := Lib.hid h1.2.2.2.1
  have HX := Lib.hid h1
  have HD := Lib.hid h2
  obtain ⟨a1, c1, w1, hrun, ho, hb1⟩ := app_lit w a xs.length cap xs h1 (by omega)
  have HRUN := Lib.hid hrun
  obtain ⟨B, hB⟩ : ∃ B, w.heap.size = B := ⟨_, rfl⟩
  have HBE := Lib.hid hB
  have HB1 : Hid (Below B w w1) := by show Below _ _ _; rw [← hB]; exact hb1
  have hsz1 : B ≤ w1.heap.size := by have := hb1.size; omega
  rw [hB] at ho ⊢
  have HO := Lib.hid ho
  have HSOME : Hid (0 < xs.length → ∃ g, a1 = some ⟨g, 0, none⟩) := fun hp => own_some ho hp
  clear h1 h2 hb1 hB hrun ho
  go_enter Try.func3, Try.ntmps3
  go_wp2_with (at_builtin; go_must (with_reducible refine Lib.wpList_append_run _ rfl (.tmp 15) (.tmp 16) _ _ rfl _ _ rfl rfl _ _ (HRUN.out _) ?_))
  refine (ts_new (fun k => w1.heap.size ≤ k) a1 xs.length c1 xs _ (own_rd HO.out hwf.out) (by omega) (fun k hk => hk)).mono ?_
  rintro e w2 ⟨bt, rfl, T2, hb2⟩
  have T2' := Lib.hid T2
  have HB2 := Lib.hid hb2
  have hs2' := hb2.size
  clear T2 hb2
  go_wp2_with fail
  refine (rNew a xs.length cap xs w2 (HX.out.at_ HBE.out (HB1.out.trans (HB2.out.mono hsz1))) (by omega)).mono ?_
  rintro e w3 ⟨bx, G, rfl, hR, hb3, hG⟩
  have HI : Hid (Both B (fun k => some k = (Value.slice a1 xs.length c1).ownBlock) w3 bt bx xs [] xs [] 0 ∧ Mine w3 (.slice a1 xs.length c1) xs.length ∧ Below B w w3) :=
    ⟨both_made T2'.out hR hb3 hG (fun k hk => ⟨by omega, fun e => by have := (HO.out.lt k e.symm).2; omega⟩) (fun k hk => ⟨by omega, fun e => by have := (HO.out.lt k e.symm).2; omega⟩),
      ((Mine.of_own HO.out).fr (Fr.of_below (fun _ => False) HB2.out) (fun _ _ h => h)).fr (Fr.of_below (fun _ => False) hb3) (fun _ _ h => h),
      (HB1.out.trans (HB2.out.mono hsz1)).trans (hb3.mono (by omega))⟩
  have HAP : Hid (∀ g, a1 = some ⟨g, 0, none⟩ → B ≤ g) := fun g e => (HO.out.lt g (by rw [e]; rfl)).1
  clear hR hb3 hG T2' HB2 hs2' HB1 HRUN HO
  go_wp2_with fail
  go_loopw [8] (fun s8 wr => ∃ j : Nat, s8 = .int .i64 j ∧ j ≤ xs.length ∧ Hid (Both B (fun k => some k = (Value.slice a1 xs.length c1).ownBlock) wr bt bx xs [] xs [] 0 ∧ Mine wr (.slice a1 xs.length c1) xs.length ∧ Below B w wr)) (fun s8 _ => xs.length - (intOf s8).toNat)
  case atStart => exact ⟨0, rfl, Nat.zero_le _, HI⟩
  case round =>
    obtain ⟨j, rfl, hj, hst⟩ := hrel
    clear HI
    by_cases hlt : j < xs.length
    · obtain ⟨g, rfl⟩ := HSOME.out (by omega)
      obtain ⟨⟨u, g1⟩, g2, g3⟩ := hst.out.2.1.get hlt
      have HN : Hid (Both B (fun k => some k = (Value.slice (some ⟨g, 0, none⟩) xs.length c1).ownBlock) (wr.setCell ⟨g, j, none⟩ (.int .i32 7)) bt bx xs [] xs [] 0 ∧ Mine (wr.setCell ⟨g, j, none⟩ (.int .i32 7)) (.slice (some ⟨g, 0, none⟩) xs.length c1) xs.length ∧ Below B w (wr.setCell ⟨g, j, none⟩ (.int .i32 7))) :=
        ⟨hst.out.1.fr (F := fun k => k = g) ((Fr.refl _ _).setCell _ _ (fun _ => rfl)) (fun k e => by rw [e]; rfl), hst.out.2.1.set, hst.out.2.2.setCell (HAP.out g rfl) _⟩
      go_wp2_with fail
      go_roundw
      case rel => exact ⟨j + 1, by go_num, by omega, HN⟩
      case measure => simp [intOf]; omega
    · obtain rfl : j = xs.length := by omega
      have HS : Hid (Y1 B w wr bt bx 0) := ⟨xs, [], ⟨hst.out.1.less (fun _ h => h.elim), by simp, fun x hx => by cases hx⟩, hst.out.2.2⟩
      clear hst HSOME HAP
      go_wp2_with fail
      go_loopw [9, 10, 11] (fun s9 s10 s11 wr => ∃ i : Nat, s9 = .int .i64 i ∧ i ≤ dl ∧ i ≤ 60 ∧ Hid (Y1 B w wr bt bx i)) (fun s9 _ _ _ => 60 - (intOf s9).toNat)
      case atStart => exact ⟨0, rfl, by omega, by omega, HS⟩
      case round =>
        obtain ⟨i, rfl, hi, hi6, hy⟩ := hrel
        clear HS
        by_cases hlt : i < dl ∧ i < 60
        · obtain ⟨hlt, h60⟩ := hlt
          obtain ⟨L, S, heq, hb⟩ := hy.out
          have hsz : B ≤ wr.heap.size := by have := hb.size; have := HBE.out; omega
          obtain ⟨db, off, rfl, hdb, k, p, n, al, ll, cl, LL, q1, q2, q3, q4, q5, c0, c1', c2, c3⟩ := HD.out.get HBE.out hb hlt
          have hll := q4.small
          have hdw : db < wr.heap.size := by omega
          have HDO : Hid (ll ≤ 2000 → ∀ W, Below wr.heap.size wr W → Calls Try.prog 11 #[.pointer (some ⟨bt, 0, none⟩), .pointer (some ⟨bx, 0, none⟩), .agg #[.int .i64 k, .int .i64 p, .int .i64 n, .slice al ll cl]] W fun e w' => ∃ (N : Nat) (la : Option Addr) (lc : Nat) (L' : List Int), e = .returned (.bool true) ∧ w'.cell? ⟨bx, 0, none⟩ = some (.slice la N lc) ∧ bx < w'.heap.size ∧ ((N : Int) != (N : Int)) = false ∧ N ≤ 65536 ∧ Hid (Y2 B w w' bt bx (i + 1) L' la lc N)) := by
            intro z W hW
            have hWs := hW.size
            refine (do_play B (fun _ => False) W bt bx L S (2000 * i) i (by omega) (fun _ h => h.elim) ⟨heq.1.below hW, heq.2⟩ k p n al ll cl LL q2 q3 (by unfold lim; omega) (by omega) z (fun W' hW' => q5.at_ HBE.out ((hb.trans (hW.mono hsz)).trans hW'))).mono ?_
            rintro e w' ⟨rfl, L', S', he', hf⟩
            obtain ⟨la, lc, e1, e2, e3, e4⟩ := he'.1.rd
            exact ⟨L'.length, la, lc, L', rfl, e1, e3, by simp, he'.1.lenX, S', ⟨he'.1.mono (by omega), he'.2⟩, (hb.trans (hW.mono hsz)).trans (hf.below (by omega) (fun k hk => hk.1)), rfl, e1, e3, e2⟩
          have HLEN : Hid (∀ W L' la lc (N : Nat), Hid (Y2 B w W bt bx (i + 1) L' la lc N) → Calls Try.prog 12 #[.pointer (some ⟨bt, 0, none⟩)] W fun e w' => e = .returned (.int .i64 N) ∧ W = w') := by
            intro W L' la lc N hy2
            obtain ⟨S', ⟨⟨G, hG, T, R⟩, _⟩, _, hN, _⟩ := hy2.out
            rw [← hN]
            exact ts_len _ bt _ _ _ _ W T
          have hBw : B ≤ w.heap.size := Nat.le_of_eq HBE.out.symm
          have HWH : Hid (∀ W L' la lc (N : Nat), Hid (Y2 B w W bt bx (i + 1) L' la lc N) → Calls Try.prog 13 #[.pointer (some ⟨bt, 0, none⟩)] W fun e w' => ∃ a c, e = .returned (.tuple #[.slice a N c, .bool true]) ∧ w'.cell? ⟨bx, 0, none⟩ = some (.slice la N lc) ∧ bx < w'.heap.size ∧ Hid (Y2 B w w' bt bx (i + 1) L' la lc N ∧ Rd .i32 w' a N c L')) := by
            intro W L' la lc N hy2
            have hy3 := hy2.out
            obtain ⟨S', ⟨hbo, _⟩, _, hN, _⟩ := hy2.out
            refine (both_whole hbo (by unfold lim; omega)).mono ?_
            rintro e w' ⟨a, c, rfl, hrd, hbb⟩
            rw [hN] at hrd ⊢
            have hy4 := hy3.below hbb hBw
            obtain ⟨_, _, _, _, z6, z7, _⟩ := id hy4
            exact ⟨a, c, rfl, z6, z7, hy4, hrd⟩
          have HRN : Hid (∀ W a c L' la lc (N : Nat), Hid (Y2 B w W bt bx (i + 1) L' la lc N ∧ Rd .i32 W a N c L') → Calls Try.prog 14 #[.slice a N c, .slice la N lc] W fun e w' => e = .returned (.bool true) ∧ Hid (Y1 B w w' bt bx (i + 1))) := by
            intro W a c L' la lc N hy2
            obtain ⟨hy3, hrd⟩ := hy2.out
            obtain ⟨_, _, _, _, _, _, z8⟩ := id hy3
            refine (runes_same a la N c lc L' W hrd z8).mono ?_
            rintro e w' ⟨rfl, hbb⟩
            obtain ⟨S', z1, z2, _⟩ := hy3.below hbb hBw
            exact ⟨rfl, L', S', z1, z2⟩
          have HN : Hid (Y1 B w wr bt bx (i + 1)) := ⟨L, S, ⟨heq.1.mono (by omega), by have := heq.2.1; omega, heq.2.2⟩, hb⟩
          clear q1 q2 q3 q4 q5 heq hb hy
          by_cases hll2 : ll ≤ 2000
          · go_upto_region 15 with fail
            go_region_with (first
              | (go_at_call 11; refine (HDO.out hll2 _ (by first | exact Below.refl _ _ | exact (Below.refl _ _).drew)).mono ?_; rintro e w4 ⟨N, la, lc, L', rfl, r1, r2, r3, r4, hy2⟩)
              | (go_at_call 12; refine (HLEN.out _ _ _ _ _ hy2).mono ?_; rintro e w5 ⟨rfl, rfl⟩))
            all_goals
              go_wp2_with (first
                | (go_at_call 13; refine (HWH.out _ _ _ _ _ hy2).mono ?_; rintro e w6 ⟨a6, c6, rfl, r5, r6, hy6⟩)
                | (go_at_call 14; refine (HRN.out _ _ _ _ _ _ _ hy6).mono ?_; rintro e w7 ⟨rfl, hy7⟩))
              go_roundw
              case rel => exact ⟨i + 1, by go_num, by omega, by omega, hy7⟩
              case measure => simp [intOf]; omega
          · go_wp2_with fail
            go_roundw
            case rel => exact ⟨i + 1, by go_num, by omega, by omega, HN⟩
            case measure => simp [intOf]; omega
        · obtain ⟨_, _, _, hb⟩ := hy.out
          have HA : Hid (Calls Try.prog 15 #[] wr fun e w' => e = .returned (.bool true) ∧ Hid (Below B w w')) := by
            refine (awake_any wr).mono ?_
            rintro e w9 ⟨rfl, hb9⟩
            exact ⟨rfl, hb.trans (hb9.mono (by have := hb.size; have := HBE.out; omega))⟩
          clear hb hy
          go_wp2_with (go_at_call 15; refine HA.out.mono ?_; rintro e w9 ⟨rfl, hfin⟩)
          all_goals
            go_ret
            exact ⟨rfl, hfin.out⟩
end Go.Proofs.Ytblbbcgdgbajnaa.U
