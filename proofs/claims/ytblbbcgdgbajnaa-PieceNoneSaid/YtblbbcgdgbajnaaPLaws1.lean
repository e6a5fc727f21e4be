/-
  The walks of PieceNone, PieceRoom.
-/
import Derived.Test.YtblbbcgdgbajnaaPAwake
namespace Go.Proofs.Ytblbbcgdgbajnaa.U
open Go.RowKit
set_option linter.unusedVariables false
set_option linter.unusedSimpArgs false

theorem lacks_nil (i n : Int) (w : World) : Calls Try.prog 29 #[.pointer none, .int .i64 i, .int .i64 n] w fun e w' => e = .returned (.int .i64 1) ∧ w = w' := by
  go_enter Try.func29, Try.ntmps29
  go_wp2
  go_ret
  exact ⟨rfl, rfl⟩
theorem slice_nil (i n : Int) (w : World) : Calls Try.prog 19 #[.pointer none, .int .i64 i, .int .i64 n] w fun e w' => e = .returned (.tuple #[.slice none 0 0, .int .i64 1]) ∧ w = w' := by
  go_enter Try.func19, Try.ntmps19
  go_wp2_with (go_at_call 29; refine (lacks_nil _ _ _).mono ?_; rintro e w' ⟨rfl, rfl⟩)
  go_ret2
  exact ⟨rfl, rfl⟩
theorem insert_nil (i : Int) (v : Value) (w : World) : Calls Try.prog 16 #[.pointer none, .int .i64 i, v] w fun e w' => e = .returned (.int .i64 1) ∧ w = w' := by
  go_enter Try.func16, Try.ntmps16
  go_wp2_with (go_at_call 29; refine (lacks_nil _ _ _).mono ?_; rintro e w' ⟨rfl, rfl⟩)
  go_ret
  exact ⟨rfl, rfl⟩
theorem delete_nil (i n : Int) (w : World) : Calls Try.prog 17 #[.pointer none, .int .i64 i, .int .i64 n] w fun e w' => e = .returned (.int .i64 1) ∧ w = w' := by
  go_enter Try.func17, Try.ntmps17
  go_wp2_with (go_at_call 29; refine (lacks_nil _ _ _).mono ?_; rintro e w' ⟨rfl, rfl⟩)
  go_ret
  exact ⟨rfl, rfl⟩
theorem len_nil (w : World) : Calls Try.prog 12 #[.pointer none] w fun e w' => e = .returned (.int .i64 0) ∧ w = w' := by
  go_enter Try.func12, Try.ntmps12
  go_wp2
  go_ret
  exact ⟨rfl, rfl⟩
theorem save_nil (w : World) : Calls Try.prog 20 #[.pointer none] w fun e w' => e = .returned (.int .i64 0) ∧ w = w' := by
  go_enter Try.func20, Try.ntmps20
  go_wp2
  go_ret
  exact ⟨rfl, rfl⟩
theorem pieces_nil (w : World) : Calls Try.prog 18 #[.pointer none] w fun e w' => e = .returned (.int .i64 0) ∧ w = w' := by
  go_enter Try.func18, Try.ntmps18
  go_wp2
  go_ret
  exact ⟨rfl, rfl⟩
theorem back_nil (n : Int) (w : World) : Calls Try.prog 21 #[.pointer none, .int .i64 n] w fun e w' => e = .returned (.int .i64 1) ∧ w = w' := by
  go_enter Try.func21, Try.ntmps21
  go_wp2
  go_ret
  exact ⟨rfl, rfl⟩

theorem pieceNone_walk (k i n : Int) (a : Option Addr) (len cap : Nat) (w : World) :
    Calls Try.prog 8 #[.agg #[.int .i64 k, .int .i64 i, .int .i64 n, .slice a len cap]] w fun e w' => e = .returned (.bool true) ∧ Below w.heap.size w w' := by
  go_enter Try.func8, Try.ntmps8
  go_wp2_with (first
    | (go_at_call 19; refine (slice_nil _ _ _).mono ?_; rintro e w' ⟨rfl, rfl⟩)
    | (go_at_call 12; refine (len_nil _).mono ?_; rintro e w' ⟨rfl, rfl⟩)
    | (go_at_call 16; refine (insert_nil _ _ _).mono ?_; rintro e w' ⟨rfl, rfl⟩)
    | (go_at_call 17; refine (delete_nil _ _ _).mono ?_; rintro e w' ⟨rfl, rfl⟩)
    | (go_at_call 20; refine (save_nil _).mono ?_; rintro e w' ⟨rfl, rfl⟩)
    | (go_at_call 21; refine (back_nil _ _).mono ?_; rintro e w' ⟨rfl, rfl⟩)
    | (go_at_call 18; refine (pieces_nil _).mono ?_; rintro e w' ⟨rfl, rfl⟩)
    | (go_at_call 15; refine (awake_any _).mono ?_; rintro e w1 ⟨rfl, hb⟩))
  go_ret
  exact ⟨rfl, ((Below.refl _ w).alloc (Nat.le_refl _) _).trans (hb.mono (by simp))⟩

theorem zeros_rd (w : World) (n : Nat) (hn : n ≤ 1073741824) : Rd .i32 (w.alloc (.cells (madeCells #[.int .i32 0] n) 21)) (some ⟨w.heap.size, 0, none⟩) n n (List.replicate n 0) := by
  refine Rd_new .i32 w _ _ _ n ?_ (by simp) (by unfold maxLen; omega) (by intro x hx; rw [List.mem_replicate] at hx; rw [hx.2]; rfl)
  apply Array.toList_inj.1
  rw [toList_madeCells_one]
  simp

set_option maxHeartbeats 1000000 in
theorem pieceRoom_walk (n : Int) (w : World) (hn : (Lit.int .i64 n).wf = true) :
    Calls Try.prog 7 #[.int .i64 n] w fun e w' => e = .returned (.bool true) ∧ Below w.heap.size w w' := by
  obtain ⟨n1, n2⟩ := wf_i64_in hn
  clear hn
  obtain ⟨B, hB⟩ : ∃ B, w.heap.size = B := ⟨_, rfl⟩
  rw [hB]
  have HBE := Lib.hid hB
  clear hB
  go_enter Try.func7, Try.ntmps7
  go_upto_region 1 with fail
  go_cut [0] (fun s0 wx => ∃ m : Nat, s0 = .int .i64 m ∧ m ≤ 65536 ∧ wx = w)
  case first =>
    by_cases h1 : n < 0
    · go_wp2_with fail
      go_meet
      exact ⟨0, by first | rfl | (congr 1; omega) | (congr 1; simp only [Int.min_def, Int.max_def]; split <;> split <;> omega), by omega, rfl⟩
    · by_cases h2 : n ≤ 65536
      · go_wp2_with fail
        all_goals
          go_meet
          exact ⟨n.toNat, by first | rfl | (congr 1; omega) | (congr 1; simp only [Int.min_def, Int.max_def]; split <;> split <;> omega), by omega, rfl⟩
      · go_wp2_with fail
        go_meet
        exact ⟨65536, by first | rfl | (congr 1; omega) | (congr 1; simp only [Int.min_def, Int.max_def]; split <;> split <;> omega), by omega, rfl⟩
  case rest =>
    obtain ⟨m, rfl, hm, rfl⟩ := hcut
    have hmk1 := makeI wc m (by omega)
    have HMK : Hid (∀ (W : World) (k : Nat), k ≤ 1073741824 → (Instr.makeSlice 22 (.int .i64 k) (.int .i64 k)).run Try.prog W = .ok (.slice (some ⟨W.heap.size, 0, none⟩) k k) (W.alloc (.cells (madeCells #[.int .i32 0] k) 21))) := fun W k hk => makeI W k hk
    go_wp2_with fail
    refine (ts_new (fun k => B ≤ k) _ m m _ _ (zeros_rd wc m (by omega)) hm (fun k hk => by have := HBE.out; simp at hk; omega)).mono ?_
    rintro e w1 ⟨bt, rfl, T1, hb1⟩
    have HB1 : Hid (Below B wc w1) := by
      show Below _ _ _
      have := ((Below.refl wc.heap.size wc).alloc (Nat.le_refl _) _).trans (hb1.mono (by simp))
      rw [HBE.out] at this
      exact this
    have T1' := Lib.hid T1
    have hs1 : B ≤ w1.heap.size := by have := HB1.out.size; have := HBE.out; omega
    clear hb1 T1 hmk1
    have hmk2 : (Instr.makeSlice 22 (.int .i64 65537) (.int .i64 65537)).run Try.prog w1 = .ok (.slice (some ⟨w1.heap.size, 0, none⟩) 65537 65537) (w1.alloc (.cells (madeCells #[.int .i32 0] 65537) 21)) := HMK.out w1 65537 (by omega)
    go_wp2_with fail
    refine (new_none _ 65537 65537 _ (by omega)).mono ?_
    rintro e w2 ⟨rfl, rfl⟩
    obtain ⟨w2, hw2⟩ : ∃ w2, w1.alloc (.cells (madeCells #[.int .i32 0] 65537) 21) = w2 := ⟨_, rfl⟩
    rw [hw2]
    have hb12 : Below w1.heap.size w1 w2 := by rw [← hw2]; exact (Below.refl _ _).alloc (Nat.le_refl _) _
    have T2 := Lib.hid (T1'.out.below hb12)
    have HB2 : Hid (Below B wc w2) := HB1.out.trans (hb12.mono hs1)
    have hs2 : B ≤ w2.heap.size := by have := hb12.size; omega
    have hmk3 : (Instr.makeSlice 22 (.int .i64 (65536 - (m : Int) + 1)) (.int .i64 (65536 - (m : Int) + 1))).run Try.prog w2 = .ok (.slice (some ⟨w2.heap.size, 0, none⟩) (65537 - m) (65537 - m)) (w2.alloc (.cells (madeCells #[.int .i32 0] (65537 - m)) 21)) := by
      have h := HMK.out w2 (65537 - m) (by omega)
      rw [show ((65537 - m : Nat) : Int) = 65536 - (m : Int) + 1 from by omega] at h
      exact h
    have q1 : (0 : Int) ≤ 65536 - (m : Int) := by omega
    clear hmk2 hw2 hb12
    go_wp2_with fail
    have hrl : (List.replicate m (0 : Int)).length = m := by simp
    have e1 : insM (List.replicate m 0) 0 (List.replicate (65537 - m) 0) = (List.replicate m 0, 3) := by
      unfold insM
      rw [hrl, hasB_iff.2 ⟨by omega, by omega, by omega⟩, if_pos rfl, if_pos (by simp; omega)]
    have H3 := ts_insert (fun k => B ≤ k) bt _ _ _ _ _ (65537 - m) (65537 - m) _ 0 _ (T2.out.below ((Below.refl _ w2).alloc (Nat.le_refl _) _)) (fun k hk => by simp at hk; omega) (zeros_rd w2 (65537 - m) (by omega)) (by unfold i64b; omega) (by unfold lim; omega)
    rw [e1] at H3
    refine H3.mono ?_
    rintro e w3 ⟨rfl, T3, hf3⟩
    have HB3 : Hid (Below B wc w3) := HB2.out.trans (((Below.refl w2.heap.size w2).alloc (Nat.le_refl _) _).mono hs2 |>.trans (hf3.below (by simp; omega) (fun k hk => hk)))
    have hs3 : B ≤ w3.heap.size := by have := HB3.out.size; have := HBE.out; omega
    have T3' := Lib.hid T3
    have hmk4 : (Instr.makeSlice 22 (.int .i64 (65536 - (m : Int))) (.int .i64 (65536 - (m : Int)))).run Try.prog w3 = .ok (.slice (some ⟨w3.heap.size, 0, none⟩) (65536 - m) (65536 - m)) (w3.alloc (.cells (madeCells #[.int .i32 0] (65536 - m)) 21)) := by
      have h := HMK.out w3 (65536 - m) (by omega)
      rw [show ((65536 - m : Nat) : Int) = 65536 - (m : Int) from by omega] at h
      exact h
    clear hmk3 H3 T3 hf3 e1
    go_wp2_with fail
    have e2 : insM (List.replicate m 0) (m : Nat) (List.replicate (65536 - m) 0) = (List.replicate 65536 0, 0) := by
      unfold insM
      rw [hrl, hasB_iff.2 ⟨by omega, by omega, by omega⟩, if_pos rfl, if_neg (by simp; omega), Int.toNat_natCast, List.take_of_length_le (by omega), List.drop_eq_nil_of_le (by omega), List.append_nil, List.replicate_append_replicate, show m + (65536 - m) = 65536 from by omega]
    have H4 := ts_insert (fun k => B ≤ k) bt _ _ _ _ _ (65536 - m) (65536 - m) _ (m : Nat) _ (T3'.out.below ((Below.refl _ w3).alloc (Nat.le_refl _) _)) (fun k hk => by simp at hk; omega) (zeros_rd w3 (65536 - m) (by omega)) (by unfold i64b; omega) (by unfold lim; omega)
    rw [e2] at H4
    refine H4.mono ?_
    rintro e w4 ⟨rfl, T4, hf4⟩
    have HB4 : Hid (Below B wc w4) := HB3.out.trans (((Below.refl w3.heap.size w3).alloc (Nat.le_refl _) _).mono hs3 |>.trans (hf4.below (by simp; omega) (fun k hk => hk)))
    have hs4 : B ≤ w4.heap.size := by have := HB4.out.size; have := HBE.out; omega
    have T4' := Lib.hid T4
    clear hmk4 H4 T4 hf4 e2
    go_wp2_with fail
    have e3 : insM (List.replicate 65536 0) 0 [1] = (List.replicate 65536 0, 3) := by
      unfold insM
      have hrl2 : (List.replicate 65536 (0 : Int)).length = 65536 := List.length_replicate
      rw [hrl2, hasB_iff.2 ⟨by omega, by omega, by omega⟩, if_pos rfl, if_pos (by simp)]
    have H5 := ts_insert (fun k => B ≤ k) bt _ _ _ _ _ 1 1 [1] 0 _ (T4'.out.below ((Below.refl _ w4).alloc (Nat.le_refl _) _)) (fun k hk => by simp at hk; omega) (Rd_new .i32 w4 [1] #[.int .i32 1] 21 1 rfl rfl (by unfold maxLen; omega) (by decide)) (by unfold i64b; omega) (by unfold lim; omega)
    rw [e3] at H5
    refine H5.mono ?_
    rintro e w5 ⟨rfl, T5, hf5⟩
    have HB5 : Hid (Below B wc w5) := HB4.out.trans (((Below.refl w4.heap.size w4).alloc (Nat.le_refl _) _).mono hs4 |>.trans (hf5.below (by simp; omega) (fun k hk => hk)))
    have T5' := Lib.hid T5
    clear H5 T5 hf5 e3
    have HLEN : Hid (Calls Try.prog 12 #[.pointer (some ⟨bt, 0, none⟩)] w5 fun e w' => e = .returned (.int .i64 65536) ∧ w5 = w') := by
      have h := ts_len _ bt _ _ _ _ w5 T5'.out
      rw [List.length_replicate] at h
      exact h
    go_wp2_with (first
      | (go_at_call 12; refine HLEN.out.mono ?_; rintro e w' ⟨rfl, rfl⟩)
      | (go_at_call 15; refine (awake_any _).mono ?_; rintro e w6 ⟨rfl, hb6⟩))
    go_ret
    exact ⟨rfl, HB5.out.trans (hb6.mono (by have := HB5.out.size; have := HBE.out; omega))⟩
end Go.Proofs.Ytblbbcgdgbajnaa.U
