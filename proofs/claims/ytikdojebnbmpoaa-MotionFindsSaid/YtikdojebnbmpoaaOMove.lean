/-
  The program's Move: the contract that the laws want.
-/
import Derived.Test.YtikdojebnbmpoaaOMoveA
import Derived.Laws.EntriesVeiled
namespace Go.Proofs.Ytikdojebnbmpoaa.U
open Go.RowKit
set_option linter.unusedVariables false
set_option linter.unusedSimpArgs false
set_option maxRecDepth 100000

/-- what lies in Move's first boxes: the place, the motion, the result's place -/
def MbS (w : World) (x y key cnt arg want : Int) (W : World) : Prop := Below w.heap.size w W ∧ W.heap[w.heap.size]? = some (.cells #[.int .i64 x, .int .i64 y] 24 (0, 0)) ∧ W.heap[w.heap.size + 1]? = some (.cells #[.int .i32 key, .int .i64 cnt, .int .i32 arg, .int .i64 want] 26 (0, 0)) ∧ W.heap[w.heap.size + 1 + 1]? = some (.cells #[.int .i64 0, .int .i64 0] 24 (0, 0))
theorem MbS.below {w W W2 : World} {x y key cnt arg want : Int} (h : MbS w x y key cnt arg want W) (hb : Below W.heap.size W W2) : MbS w x y key cnt arg want W2 := by
  obtain ⟨h1, h2, h3, h4⟩ := h
  exact ⟨h1.trans (hb.mono h1.size), (hb.block _ (Array.getElem?_eq_some_iff.1 h2).1).trans h2, (hb.block _ (Array.getElem?_eq_some_iff.1 h3).1).trans h3, (hb.block _ (Array.getElem?_eq_some_iff.1 h4).1).trans h4⟩
theorem MbS.drew {w W : World} {x y key cnt arg want : Int} (h : MbS w x y key cnt arg want W) : MbS w x y key cnt arg want W.drew := h.below ((Below.refl _ W).drew)
theorem MbS.set {w W : World} {x y key cnt arg want : Int} (h : MbS w x y key cnt arg want W) (u v : Int) : MbS w u v key cnt arg want ((W.setCell ⟨w.heap.size, 0, none⟩ (.int .i64 u)).setCell ⟨w.heap.size, 1, none⟩ (.int .i64 v)) := by
  obtain ⟨h1, h2, h3, h4⟩ := h
  refine ⟨setCell_below (setCell_below h1 _ _ _ (by omega)) _ _ _ (by omega), heap_set (heap_set h2 0 _) 1 _, ?_, ?_⟩
  · exact (Below.heap_setCell _ _ _ _ (by show ¬ _ = _; first | (simp; done) | (simp; omega) | omega)).trans ((Below.heap_setCell _ _ _ _ (by show ¬ _ = _; first | (simp; done) | (simp; omega) | omega)).trans h3)
  · exact (Below.heap_setCell _ _ _ _ (by show ¬ _ = _; first | (simp; done) | (simp; omega) | omega)).trans ((Below.heap_setCell _ _ _ _ (by show ¬ _ = _; first | (simp; done) | (simp; omega) | omega)).trans h4)
theorem MbS.ends {w W : World} {x y key cnt arg want : Int} (h : MbS w x y key cnt arg want W) (u v : Value) : Below w.heap.size w ((W.setCell ⟨w.heap.size + 1 + 1, 0, none⟩ u).setCell ⟨w.heap.size + 1 + 1, 1, none⟩ v) := setCell_below (setCell_below h.1 _ _ _ (by omega)) _ _ _ (by omega)
theorem MbS.pos {w W : World} {x y key cnt arg want : Int} (h : MbS w x y key cnt arg want W) : W.cell? ⟨w.heap.size, 0, none⟩ = some (.int .i64 x) ∧ W.cell? ⟨w.heap.size, 1, none⟩ = some (.int .i64 y) ∧ W.frozen? ⟨w.heap.size, 0, none⟩ = false ∧ W.frozen? ⟨w.heap.size, 1, none⟩ = false := row2 h.2.1
theorem MbS.mot {w W : World} {x y key cnt arg want : Int} (h : MbS w x y key cnt arg want W) : W.cell? ⟨w.heap.size + 1, 0, none⟩ = some (.int .i32 key) ∧ W.cell? ⟨w.heap.size + 1, 1, none⟩ = some (.int .i64 cnt) ∧ W.cell? ⟨w.heap.size + 1, 2, none⟩ = some (.int .i32 arg) ∧ W.cell? ⟨w.heap.size + 1, 3, none⟩ = some (.int .i64 want) :=
  ⟨by rw [cell_row h.2.2.1]; rfl, by rw [cell_row h.2.2.1]; rfl, by rw [cell_row h.2.2.1]; rfl, by rw [cell_row h.2.2.1]; rfl⟩
theorem MbS.res {w W : World} {x y key cnt arg want : Int} (h : MbS w x y key cnt arg want W) : W.cell? ⟨w.heap.size + 1 + 1, 0, none⟩ = some (.int .i64 0) ∧ W.cell? ⟨w.heap.size + 1 + 1, 1, none⟩ = some (.int .i64 0) ∧ W.frozen? ⟨w.heap.size + 1 + 1, 0, none⟩ = false ∧ W.frozen? ⟨w.heap.size + 1 + 1, 1, none⟩ = false := row2 h.2.2.2
theorem move_start (w : World) (x y key cnt arg want : Int) : ∃ w1, ((w.alloc (.cells #[.int .i64 x, .int .i64 y] 24)).alloc (.cells #[.int .i32 key, .int .i64 cnt, .int .i32 arg, .int .i64 want] 26)).alloc (.cells #[.int .i64 0, .int .i64 0] 24) = w1 ∧ MbS w x y key cnt arg want w1 := by
  obtain ⟨w1, hw1, hsz, g1, g2, hb1⟩ := two2 w (.cells #[.int .i64 x, .int .i64 y] 24) (.cells #[.int .i32 key, .int .i64 cnt, .int .i32 arg, .int .i64 want] 26)
  have hb2 := bal w1 (.cells #[.int .i64 0, .int .i64 0] 24)
  refine ⟨w1.alloc (.cells #[.int .i64 0, .int .i64 0] 24), by rw [← hw1], btr hb1 hb2, ?_, ?_, ?_⟩
  · exact (hb2.block _ (Array.getElem?_eq_some_iff.1 g1).1).trans g1
  · exact (hb2.block _ (Array.getElem?_eq_some_iff.1 g2).1).trans g2
  · have := heap_alloc_new w1 (.cells #[.int .i64 0, .int .i64 0] 24)
    rw [hsz] at this
    exact this
def outR (p : Pl) : Option (Pl × Int) → Pl × Int × Bool
  | none => (p, 0, false)
  | some (y, h) => (y, h, true)
theorem outR_eq (L : List (List Int)) (p : Pl) (m : Mo) (op : Bool) : mvR L p m op = outR p (mvP L p m op) := by
  unfold mvR
  cases mvP L p m op <;> rfl
theorem max_tms (c : Int) : max c 1 = ((tms c : Nat) : Int) := by unfold tms; omega
set_option maxHeartbeats 4000000 in
theorem wmove_any : MoveC := by
  intro F a n c L q m op w h hq hm hs hL
  obtain ⟨u, v⟩ := q
  obtain ⟨key, cnt, arg, want⟩ := m
  obtain ⟨hkey, hcnt, harg, hwant⟩ := hm
  simp only at hkey hcnt harg hwant
  show Calls Try.prog 10 #[.slice a n c, .agg #[.int .i64 u, .int .i64 v], .agg #[.int .i32 key, .int .i64 cnt, .int .i32 arg, .int .i64 want], .bool op] w fun e w' => e = .returned (mvV (mvR L (clipP L u v) ⟨key, cnt, arg, want⟩ op)) ∧ Below w.heap.size w w'
  have hok := clipP_ok hL u v
  obtain ⟨⟨p1, p2⟩, hcp⟩ : ∃ p, clipP L u v = p := ⟨_, rfl⟩
  rw [hcp] at hok ⊢
  have hCL : Hid (∀ W, Below w.heap.size w W → Calls Try.prog 13 #[.slice a n c, .agg #[.int .i64 u, .int .i64 v]] W fun e w' => e = .returned (.agg #[.int .i64 (p1 : Nat), .int .i64 (p2 : Nat)]) ∧ Below W.heap.size W w') := by
    intro W hW
    have := wclip_any F a n c L ⟨u, v⟩ W (h.below hW) hq
    simp only [hcp] at this
    exact this
  have hn : n ≠ 0 := by rintro rfl; exact hL (List.eq_nil_of_length_eq_zero h.len)
  have n0 : ((n : Int) == 0) = false := by simp [hn]
  have n1 : ¬ n = 0 := hn
  have htm : ((tms cnt : Nat) : Int) ≤ 9223372036854775807 := by have := hcnt.2; unfold tms; omega
  obtain ⟨k, hk⟩ : ∃ k : Int, ((tms cnt : Nat) : Int) = k := ⟨_, rfl⟩
  have hmx : max cnt 1 = k := by rw [← hk]; exact max_tms cnt
  obtain ⟨X, hX⟩ : ∃ X, mvP L (p1, p2) ⟨key, cnt, arg, want⟩ op = X := ⟨_, rfl⟩
  have HLE : Hid (∀ (i : Nat), i < 28 → keyT.getD i 0 = key → ∀ W, Below w.heap.size w W → Calls Try.prog (fnT.getD i 0) #[askL a n c p1 p2 k key cnt arg want op] W fun e w' => ∃ r ok, e = .returned (.tuple #[r, .bool ok]) ∧ Below W.heap.size W w' ∧ Tells X r ok (howT.getD i 0)) := by
    intro i hi hki W hW
    have := lead_any F a n c p1 p2 key cnt arg want op L W (h.below hW) hok htm hwant hs hi hki
    rw [hk, hX] at this
    exact this
  have HXE : Hid ((∀ i, i < 28 → keyT.getD i 0 = key → X = none) → X = none) := by
    intro hh
    rw [← hX] at hh ⊢
    exact mvP_all hh
  have HMV : Hid (mvR L (p1, p2) ⟨key, cnt, arg, want⟩ op = outR (p1, p2) X) := by
    show _ = _
    rw [← hX]; exact outR_eq _ _ _ _
  obtain ⟨w1, hw1, ha1⟩ := move_start w u v key cnt arg want
  obtain ⟨x0, x1, xf0, xf1⟩ := ha1.pos
  have HW1 := Lib.hid hw1
  have HA1 := Lib.hid ha1
  obtain ⟨rv, hrv⟩ : ∃ y, mvR L (p1, p2) ⟨key, cnt, arg, want⟩ op = y := ⟨_, rfl⟩
  rw [hrv] at HMV ⊢
  clear hw1 ha1 hq hcp h hok hkey harg hwant hs hL hX hk htm hrv hn
  go_enter Try.func10, Try.ntmps10
  go_upto_region 1 with fail
  rw [HW1.out]
  go_upto_region 4 with (go_at_call 13; refine (hCL.out _ HA1.out.1).mono ?_; rintro e w2 ⟨rfl, hb2⟩; have HA2 := Lib.hid (HA1.out.below hb2); obtain ⟨x0, x1, xf0, xf1⟩ := HA2.out.pos)
  obtain ⟨w3, hw3⟩ : ∃ w3, (w2.setCell ⟨w.heap.size, 0, none⟩ (.int .i64 (p1 : Nat))).setCell ⟨w.heap.size, 1, none⟩ (.int .i64 (p2 : Nat)) = w3 := ⟨_, rfl⟩
  have HA3 : Hid (MbS w (p1 : Nat) (p2 : Nat) key cnt arg want w3) := by
    rw [← hw3]; exact HA2.out.set _ _
  rw [hw3]
  clear hw3 x0 x1 xf0 xf1
  obtain ⟨x0, x1, xf0, xf1⟩ := HA3.out.pos
  obtain ⟨m0, m1, m2, m3⟩ := HA3.out.mot
  go_upto_region 5 with fail
  obtain ⟨w4, hw4, hsz4, g4, hb4⟩ := one1 w3 (askO a n c p1 p2 k key cnt arg want op)
  rw [hw4]
  obtain ⟨C, hC⟩ : ∃ C, w3.heap.size = C := ⟨_, rfl⟩
  rw [hC] at g4
  rw [hC]
  have HA4 := Lib.hid (HA3.out.below hb4)
  have G4 := Lib.hid g4
  clear hw4 hC hb4 g4 x0 x1 xf0 xf1 m0 m1 m2 m3 hsz4
  go_wp2_with (go_at_call 14; refine (rows_any _).mono ?_; rintro e w5 ⟨B, rfl, hb5, HRW⟩; have HA5 := Lib.hid (HA4.out.below hb5); have G5 := Lib.hid ((hb5.block _ (Array.getElem?_eq_some_iff.1 G4.out).1).trans G4.out))
  go_loopw [33] (fun v33 wr => ∃ i : Nat, v33 = .int .i64 (i : Nat) ∧ i ≤ 28 ∧ Hid (∀ j, j < i → keyT.getD j 0 = key → X = none) ∧ Hid (Below w5.heap.size w5 wr)) (fun v33 _ => 28 - (intOf v33).toNat)
  case atStart => exact ⟨0, rfl, by omega, fun j hj => absurd hj (by omega), Below.refl _ _⟩
  case round =>
    obtain ⟨i, rfl, hi28, HNO, HBW⟩ := hrel
    have HA6 := Lib.hid (HA5.out.below HBW.out)
    by_cases hi : i < 28
    · obtain ⟨c0, c1, c2⟩ := HRW.out i hi
      have hBl : B < w5.heap.size := block_lt_of_cell_any c0
      have c0 := (HBW.out.cell (p := ⟨B, i * 3, none⟩) hBl).trans c0
      have c1 := (HBW.out.cell (p := ⟨B, i * 3 + 1, none⟩) hBl).trans c1
      have c2 := (HBW.out.cell (p := ⟨B, i * 3 + 2, none⟩) hBl).trans c2
      have hcf := fnT_run hi
      have hle := HLE.out i hi
      obtain ⟨ky, hky⟩ : ∃ y, keyT.getD i 0 = y := ⟨_, rfl⟩
      obtain ⟨hw, hhw⟩ : ∃ y, howT.getD i 0 = y := ⟨_, rfl⟩
      obtain ⟨fn, hfn⟩ : ∃ y, fnT.getD i 0 = y := ⟨_, rfl⟩
      rw [hky] at c0 hle
      rw [hhw] at c1 hle
      rw [hfn] at c2 hle hcf
      have HKY := Lib.hid hky
      have HI := Lib.hid hi
      have d0 : (i : Int) < 28 := by omega
      have d1 : decide ((i : Int) < 28) = true := by simp; omega
      have d2 : ¬ (i : Int) < 0 := by omega
      have d3 : decide ((i : Int) < 0) = false := by simp
      obtain ⟨w6, hw6⟩ : ∃ w6, wr.alloc (.cells #[.int .i32 ky, .int .i64 hw, .func (.func fn) #[] #[]] 45) = w6 := ⟨_, rfl⟩
      have hb6 : Below wr.heap.size wr w6 := by rw [← hw6]; exact bal _ _
      have hn6 : w6.heap[wr.heap.size]? = some (.cells #[.int .i32 ky, .int .i64 hw, .func (.func fn) #[] #[]] 45 (0, 0)) := by rw [← hw6]; exact heap_alloc_new wr _
      have r0 : w6.cell? ⟨wr.heap.size, 0, none⟩ = some (.int .i32 ky) := by rw [cell_row hn6]; rfl
      have r1 : w6.cell? ⟨wr.heap.size, 1, none⟩ = some (.int .i64 hw) := by rw [cell_row hn6]; rfl
      have r2 : w6.cell? ⟨wr.heap.size, 2, none⟩ = some (.func (.func fn) #[] #[]) := by rw [cell_row hn6]; rfl
      have HA7 := Lib.hid (HA6.out.below hb6)
      obtain ⟨m0, m1, m2, m3⟩ := HA7.out.mot
      have g6 := (hb6.block _ (by have := (Array.getElem?_eq_some_iff.1 G5.out).1; have := HBW.out.size; omega)).trans ((HBW.out.block _ (Array.getElem?_eq_some_iff.1 G5.out).1).trans G5.out)
      obtain ⟨a0, a1, a2, a3, a4, a5, a6, a7, a8⟩ := row9 g6
      have HB7 : Hid (Below w5.heap.size w5 w6) := btr HBW.out hb6
      have HN6 := Lib.hid hn6
      have HCE := Lib.hid hle
      clear hky hhw hfn hle hb6 hn6 g6 hi
      by_cases hk : ky = key
      · have HLC : Hid (Calls Try.prog fn #[askL a n c p1 p2 k key cnt arg want op] w6 fun e w' => ∃ r ok, e = .returned (.tuple #[r, .bool ok]) ∧ Below w6.heap.size w6 w' ∧ Tells X r ok hw) := HCE.out hk w6 HA7.out.1
        have HKI : Hid (keyT.getD i 0 = key) := by show _ = _; rw [HKY.out, hk]
        have k0 : (key != key) = false := by simp
        rw [hk] at c0 r0 hw6
        clear hk HCE
        go_upto_region 10 with ((with_reducible (refine HLC.out.mono ?_)); rintro e w7 ⟨r, ok, rfl, hb7, x, y, rfl, htl⟩; obtain ⟨w8, hw8⟩ : ∃ w8, w7.alloc (.cells #[.int .i64 x, .int .i64 y] 24) = w8 := ⟨_, rfl⟩; have hb8 : Below w7.heap.size w7 w8 := (by rw [← hw8]; exact bal _ _); have hn8 : w8.heap[w7.heap.size]? = some (.cells #[.int .i64 x, .int .i64 y] 24 (0, 0)) := (by rw [← hw8]; exact heap_alloc_new w7 _); have HB8 : Hid (Below w6.heap.size w6 w8) := btr hb7 hb8; have hn6 := (HB8.out.block _ (Array.getElem?_eq_some_iff.1 HN6.out).1).trans HN6.out; have q0 : w8.cell? ⟨wr.heap.size, 1, none⟩ = some (.int .i64 hw) := (by rw [cell_row hn6]; rfl); have HA8 := Lib.hid (HA7.out.below HB8.out); obtain ⟨z0, z1, z2, z3⟩ := HA8.out.res; obtain ⟨y0, y1, -, -⟩ := row2 hn8; have HTL := Lib.hid htl; clear hn6 hn8 hb7 hb8 htl)
        rcases HTL.out with ⟨rfl, hX⟩ | ⟨rfl, q1, q2, hX, rfl, rfl⟩
        · have HN2 : Hid (∀ j, j < i + 1 → keyT.getD j 0 = key → X = none) := by
            intro j h1 h2
            exact hX
          have HB9 : Hid (Below w5.heap.size w5 w8) := btr HB7.out HB8.out
          clear hX
          go_wp2_with fail
          go_roundw
          case rel => exact ⟨i + 1, by go_num, by have := HI.out; omega, HN2.out, HB9.out⟩
          case measure => have := HI.out; simp [intOf]; omega
        · have HRV : Hid (rv = ((q1, q2), hw, true)) := by
            show _ = _
            rw [HMV.out, hX]; rfl
          have hlt := (Array.getElem?_eq_some_iff.1 HA6.out.2.2.2).1
          have nb : ¬ wr.heap.size = w.heap.size + 1 + 1 := by omega
          have nb2 : ¬ w.heap.size + 1 + 1 = wr.heap.size := by omega
          clear hX HTL hlt
          go_wp2_with fail
          go_region
          all_goals
            go_wp2_with fail
            refine bodyPost_ret (v := .tuple #[.agg #[.int .i64 (q1 : Nat), .int .i64 (q2 : Nat)], .int .i64 hw, .bool true]) ?_ rfl ⟨by rw [HRV.out]; rfl, ?_⟩
            · rw [results_ctt rfl]
              go_simp
            · first
                | with_reducible exact HA8.out.ends _ _
                | with_reducible exact HA8.out.drew.ends _ _
                | with_reducible exact Below.drew (HA8.out.ends _ _)
      · have k0 : (ky != key) = true := by simp [hk]
        have HN2 : Hid (∀ j, j < i + 1 → keyT.getD j 0 = key → X = none) := by
          intro j h1 h2
          by_cases e : j < i
          · exact HNO.out j e h2
          · exfalso
            rw [show j = i by omega, HKY.out] at h2
            exact hk h2
        clear hk
        go_wp2_with fail
        go_roundw
        case rel => exact ⟨i + 1, by go_num, by have := HI.out; omega, HN2.out, HB7.out⟩
        case measure => have := HI.out; simp [intOf]; omega
    · have HX0 := HXE.out (fun j h1 h2 => HNO.out j (by omega) h2)
      have HRV : Hid (rv = ((p1, p2), 0, false)) := by
        show _ = _
        rw [HMV.out, HX0]; rfl
      obtain ⟨x0, x1, xf0, xf1⟩ := HA6.out.pos
      obtain ⟨z0, z1, z2, z3⟩ := HA6.out.res
      have d0 : ¬ (i : Int) < 28 := by omega
      have d1 : decide ((i : Int) < 28) = false := by simp; omega
      clear HX0
      go_wp2_with fail
      refine bodyPost_ret (v := .tuple #[.agg #[.int .i64 (p1 : Nat), .int .i64 (p2 : Nat)], .int .i64 0, .bool false]) ?_ rfl ⟨by rw [HRV.out]; rfl, ?_⟩
      · rw [results_ctt rfl]
        go_simp
      · with_reducible exact HA6.out.ends _ _
end Go.Proofs.Ytikdojebnbmpoaa.U
