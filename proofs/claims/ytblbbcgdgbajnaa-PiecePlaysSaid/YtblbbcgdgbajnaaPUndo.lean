/-
  The walk of PieceUndoes.
-/
import Derived.Test.YtblbbcgdgbajnaaPAwake
namespace Go.Proofs.Ytblbbcgdgbajnaa.U
open Go.RowKit
set_option linter.unusedVariables false
set_option linter.unusedSimpArgs false

theorem insM_ok (L : List Int) (i : Nat) (ys : List Int) (h : i ≤ L.length) (h2 : L.length + ys.length ≤ 65536) : insM L i ys = (L.take i ++ (ys ++ L.drop i), 0) := by
  unfold insM
  rw [hasB_iff.2 ⟨by omega, by omega, by omega⟩, if_pos rfl, if_neg (by omega), Int.toNat_natCast]
theorem delM_ok (L : List Int) (i n : Nat) (h : i + n ≤ L.length) : delM L i n = (L.take i ++ L.drop (i + n), 0) := by
  unfold delM
  rw [hasB_iff.2 ⟨by omega, by omega, by omega⟩, if_pos rfl, Int.toNat_natCast, Int.toNat_natCast]
theorem sliM_ok (L : List Int) (i n : Nat) (h : i + n ≤ L.length) : sliM L i n = ((L.drop i).take n, 0) := by
  unfold sliM
  rw [hasB_iff.2 ⟨by omega, by omega, by omega⟩, if_pos rfl, Int.toNat_natCast, Int.toNat_natCast]
theorem del_ins (L : List Int) (i : Nat) (ys : List Int) (h : i ≤ L.length) : delM (L.take i ++ (ys ++ L.drop i)) i ys.length = (L, 0) := by
  have hl : (L.take i).length = i := by rw [List.length_take]; omega
  rw [delM_ok _ _ _ (by simp; omega), List.take_append_of_le_length (by omega), List.take_of_length_le (by omega), List.drop_append, hl, List.drop_eq_nil_of_le (by omega), List.nil_append, show i + ys.length - i = ys.length from by omega, List.drop_append_of_le_length (by omega), List.drop_of_length_le (Nat.le_refl _), List.nil_append, List.take_append_drop]
theorem ins_del (L : List Int) (i n : Nat) (h : i + n ≤ L.length) (h2 : L.length ≤ 65536) : insM (L.take i ++ L.drop (i + n)) i ((L.drop i).take n) = (L, 0) := by
  have hl : (L.take i).length = i := by rw [List.length_take]; omega
  rw [insM_ok _ _ _ (by rw [List.length_append]; omega) (by simp only [List.length_append, List.length_take, List.length_drop]; omega), List.take_append_of_le_length (by omega), List.take_of_length_le (by omega), List.drop_append_of_le_length (l₁ := L.take i) (by omega), List.drop_of_length_le (l := L.take i) (by omega), List.nil_append]
  congr 1
  rw [← List.drop_drop, List.take_append_drop, List.take_append_drop]

theorem asz (w : World) (o : Obj) : (w.alloc o).heap.size = w.heap.size + 1 := by simp
theorem Rd.at_ {k : IntKind} {w W : World} {a : Option Addr} {n c : Nat} {xs : List Int} {B : Nat} (h : Rd k w a n c xs) (hB : w.heap.size = B) (hb : Below B w W) : Rd k W a n c xs := h.below (by rw [hB]; exact hb)

set_option maxRecDepth 100000 in
set_option maxHeartbeats 4000000 in
theorem pieceUndoes_walk (a : Option Addr) (len cap : Nat) (xs : List Int) (b : Option Addr) (m c : Nat) (ys : List Int) (p q : Int) (w : World) (h1 : Rd .i32 w a len cap xs) (h2 : Rd .i32 w b m c ys) (hp : (Lit.int .i64 p).wf = true) (hq : (Lit.int .i64 q).wf = true) :
    Calls Try.prog 5 #[.slice a len cap, .slice b m c, .agg #[.int .i64 p, .int .i64 q]] w fun e w' => e = .returned (.bool true) ∧ Below w.heap.size w w' := by
  have hs1 := h1.small
  have hs2 := h2.small
  obtain ⟨p1, p2⟩ := wf_i64_in hp
  obtain ⟨q1, q2⟩ := wf_i64_in hq
  clear hp hq
  by_cases hL : 2000 < len
  · clear h1 h2
    go_enter Try.func5, Try.ntmps5
    go_wp2_with fail
    go_ret
    exact ⟨rfl, (Below.refl _ _).alloc (Nat.le_refl _) _⟩
  by_cases hM : 2000 < m
  · clear h1 h2
    go_enter Try.func5, Try.ntmps5
    go_wp2_with fail
    go_ret
    exact ⟨rfl, (Below.refl _ _).alloc (Nat.le_refl _) _⟩
  have hL' : len ≤ 2000 := by omega
  have hM' : m ≤ 2000 := by omega
  obtain rfl := h1.len
  obtain rfl := h2.len
  have HX := Lib.hid h1
  have HY := Lib.hid h2
  have hxw := Lib.hid h1.2.2.2.1
  clear h1 h2
  obtain ⟨B, hB⟩ : ∃ B, w.heap.size = B := ⟨_, rfl⟩
  have HB0 : Hid (Below B w (w.alloc (.cells #[.int .i64 p, .int .i64 q] 43))) := by
    show Below _ _ _
    have := (Below.refl w.heap.size w).alloc (Nat.le_refl _) (.cells #[.int .i64 p, .int .i64 q] 43)
    rw [hB] at this
    exact this
  have HBE := Lib.hid hB
  rw [hB]
  clear hB
  go_enter Try.func5, Try.ntmps5
  go_wp2_with fail
  refine (ts_new (fun k => B < k) a xs.length cap xs _ (HX.out.alloc _) (by omega) (fun k hk => by have := HBE.out; simp at hk; omega)).mono ?_
  rintro e w1 ⟨bt, rfl, T1, hb1⟩
  have c0 : w1.cell? ⟨w.heap.size, 0, none⟩ = some (.int .i64 p) := by rw [hb1.cell (p := ⟨w.heap.size, 0, none⟩) (by simp)]; go_simp
  have c1 : w1.cell? ⟨w.heap.size, 1, none⟩ = some (.int .i64 q) := by rw [hb1.cell (p := ⟨w.heap.size, 1, none⟩) (by simp)]; go_simp
  have HB1 : Hid (Below B w w1) := HB0.out.trans (hb1.mono (by rw [asz]; have := HBE.out; omega))
  have hs1 : B < w1.heap.size := by have h9 := hb1.size; rw [asz] at h9; have := HBE.out; omega
  have T1' := Lib.hid T1
  clear hb1 T1 HB0
  go_upto_region 6 with fail
  go_cut [8] (fun s0 wx => ∃ i : Nat, s0 = .int .i64 i ∧ i ≤ xs.length ∧ wx = w1)
  case first =>
    by_cases h1 : p < 0
    · go_wp2_with fail
      go_meet
      exact ⟨0, by first | rfl | (congr 1; omega) | (congr 1; simp only [Int.min_def, Int.max_def]; split <;> split <;> omega), by omega, rfl⟩
    · by_cases h2 : p ≤ xs.length
      · go_wp2_with fail
        all_goals
          go_meet
          exact ⟨p.toNat, by first | rfl | (congr 1; omega) | (congr 1; simp only [Int.min_def, Int.max_def]; split <;> split <;> omega), by omega, rfl⟩
      · go_wp2_with fail
        all_goals
          go_meet
          exact ⟨xs.length, by first | rfl | (congr 1; omega) | (congr 1; simp only [Int.min_def, Int.max_def]; split <;> split <;> omega), by omega, rfl⟩
  obtain ⟨i, rfl, hi, rfl⟩ := hcut
  go_upto_region 7 with fail
  go_cut [9] (fun s0 wx => ∃ n : Nat, s0 = .int .i64 n ∧ i + n ≤ xs.length ∧ wx = wc)
  case first =>
    by_cases h1 : q < 0
    · go_wp2_with fail
      all_goals
        go_meet
        exact ⟨0, by first | rfl | (congr 1; omega) | (congr 1; simp only [Int.min_def, Int.max_def]; split <;> split <;> omega), by omega, rfl⟩
    · by_cases h2 : q ≤ xs.length - i
      · go_wp2_with fail
        all_goals
          go_meet
          exact ⟨q.toNat, by first | rfl | (congr 1; omega) | (congr 1; simp only [Int.min_def, Int.max_def]; split <;> split <;> omega), by omega, rfl⟩
      · go_wp2_with fail
        all_goals
          go_meet
          exact ⟨xs.length - i, by first | rfl | (congr 1; omega) | (congr 1; simp only [Int.min_def, Int.max_def]; split <;> split <;> omega), by omega, rfl⟩
  obtain ⟨n, rfl, hn, rfl⟩ := hcut
  clear c0 c1
  obtain ⟨L1, hL1⟩ : ∃ L1, xs.take i ++ (ys ++ xs.drop i) = L1 := ⟨_, rfl⟩
  have E1 : Hid (insM xs i ys = (L1, 0)) := by show _ = _; rw [insM_ok xs i ys (by omega) (by omega), hL1]
  have E2 : Hid (delM L1 i ys.length = (xs, 0)) := by show _ = _; rw [← hL1]; exact del_ins xs i ys (by omega)
  have N1 : Hid ((L1.length : Int) = (xs.length : Int) + (ys.length : Int)) := by show _ = _; rw [← hL1]; simp; omega
  obtain ⟨X, hX⟩ : ∃ X, (xs.drop i).take n = X := ⟨_, rfl⟩
  obtain ⟨L2, hL2⟩ : ∃ L2, xs.take i ++ xs.drop (i + n) = L2 := ⟨_, rfl⟩
  have E3 : Hid (sliM xs i n = (X, 0)) := by show _ = _; rw [sliM_ok xs i n (by omega), hX]
  have E4 : Hid (delM xs i n = (L2, 0)) := by show _ = _; rw [delM_ok xs i n (by omega), hL2]
  have E5 : Hid (insM L2 i X = (xs, 0)) := by show _ = _; rw [← hL2, ← hX]; exact ins_del xs i n (by omega) (by omega)
  have XW : Hid (∀ x ∈ X, (Lit.int .i32 x).wf = true) := by intro x hx; rw [← hX] at hx; exact hxw.out x (List.mem_of_mem_drop (List.mem_of_mem_take hx))
  have XN : X.length ≤ 2000 := by rw [← hX]; simp; omega
  clear hL1 hX hL2
  have hne : (((xs.length : Int) + (ys.length : Int)) != ((xs.length : Int) + (ys.length : Int))) = false := by simp
  go_wp2_with fail
  have H2 := ts_insert (fun k => B < k) bt _ _ _ _ b ys.length c ys i wc T1'.out (fun k hk => by omega) (HY.out.at_ HBE.out HB1.out) (by unfold i64b; omega) (by unfold lim; omega)
  rw [E1.out] at H2
  refine H2.mono ?_
  rintro e w2 ⟨rfl, T2, hf2⟩
  have HB2 : Hid (Below B w w2) := HB1.out.trans (hf2.below (by omega) (fun k hk => Nat.le_of_lt hk))
  have hs2 : B < w2.heap.size := by have := hf2.size; omega
  have T2' := Lib.hid T2
  clear T2 hf2 H2
  have HLEN : Hid (Calls Try.prog 12 #[.pointer (some ⟨bt, 0, none⟩)] w2 fun e w' => e = .returned (.int .i64 ((xs.length : Int) + (ys.length : Int))) ∧ w2 = w') := by
    have h := ts_len _ bt _ _ _ _ w2 T2'.out
    rw [N1.out] at h
    exact h
  go_wp2_with (go_at_call 12; refine HLEN.out.mono ?_; rintro e w' ⟨rfl, rfl⟩)
  have H3 := ts_delete (fun k => B < k) bt _ _ _ _ i ys.length w2 T2'.out (fun k hk => by omega) (by unfold i64b; omega) (by unfold i64b; omega) (by unfold lim; omega)
  rw [E2.out] at H3
  refine H3.mono ?_
  rintro e w3 ⟨rfl, T3, hf3⟩
  have HB3 : Hid (Below B w w3) := HB2.out.trans (hf3.below (by omega) (fun k hk => Nat.le_of_lt hk))
  have hs3 : B < w3.heap.size := by have := hf3.size; omega
  have T3' := Lib.hid T3
  clear T3 hf3 H3 HLEN
  go_wp2_with fail
  refine (ts_whole _ bt _ _ _ _ w3 T3'.out (by unfold lim; omega)).mono ?_
  rintro e w4 ⟨a4, c4, rfl, O4, hb4⟩
  have R4 := Lib.hid (own_rd O4 hxw.out)
  have HB4 : Hid (Below B w w4) := HB3.out.trans (hb4.mono (by omega))
  have hs4 : B < w4.heap.size := by have := hb4.size; omega
  have T4' := Lib.hid (T3'.out.below hb4)
  clear O4 hb4
  go_wp2_with fail
  have H5 := ts_slice (fun k => B < k) bt _ _ _ _ i n w4 T4'.out (by unfold i64b; omega) (by unfold i64b; omega) (by unfold lim; omega)
  rw [E3.out] at H5
  refine H5.mono ?_
  rintro e w5 ⟨a5, c5, rfl, O5, hb5⟩
  have T5 := Lib.hid ((T4'.out.shrink (N := fun k => some k = (Value.slice a5 X.length c5).ownBlock) (fun k hk => (O5.lt k hk.symm).1)).below hb5)
  have R5 := Lib.hid (R4.out.below hb5)
  have HB5 : Hid (Below B w w5) := HB4.out.trans (hb5.mono (by omega))
  have O5' := Lib.hid O5
  have hN5 : Hid (∀ k, w5.heap.size ≤ k → B < k ∧ ¬ (some k = (Value.slice a5 X.length c5).ownBlock)) := fun k hk => ⟨by have := hb5.size; omega, fun e => by have := (O5.lt k e.symm).2; omega⟩
  have hs5 : B < w5.heap.size := by have := hb5.size; omega
  clear hb5 O5 H5
  go_wp2_with fail
  refine (runes_same a4 a xs.length c4 cap xs w5 R5.out (HX.out.at_ HBE.out HB5.out)).mono ?_
  rintro e w6 ⟨rfl, hb6⟩
  have T6 := Lib.hid (T5.out.below hb6)
  have HB6 : Hid (Below B w w6) := HB5.out.trans (hb6.mono (by omega))
  have O6 := Lib.hid (own_block O5'.out (fun k hk => hb6.block k (O5'.out.lt k hk).2))
  have hs6 : w5.heap.size ≤ w6.heap.size := hb6.size
  clear hb6
  go_wp2_with fail
  have H7 := ts_delete _ bt _ _ _ _ i n w6 T6.out (fun k hk => hN5.out k (by omega)) (by unfold i64b; omega) (by unfold i64b; omega) (by unfold lim; omega)
  rw [E4.out] at H7
  refine H7.mono ?_
  rintro e w7 ⟨rfl, T7, hf7⟩
  have T7' := Lib.hid T7
  have HB7 : Hid (Below B w w7) := HB6.out.trans (hf7.below (by omega) (fun k hk => Nat.le_of_lt hk.1))
  have O7 := Lib.hid (own_fr O6.out hf7 (fun k e hk => hk.2 e.symm))
  have hs7 : w6.heap.size ≤ w7.heap.size := hf7.size
  clear hf7 T7 H7
  go_wp2_with fail
  have H8 := ts_insert _ bt _ _ _ _ a5 X.length c5 X i w7 T7'.out (fun k hk => hN5.out k (by omega)) (own_rd O7.out XW.out) (by unfold i64b; omega) (by unfold lim; omega)
  rw [E5.out] at H8
  refine H8.mono ?_
  rintro e w8 ⟨rfl, T8, hf8⟩
  have T8' := Lib.hid T8
  have HB8 : Hid (Below B w w8) := HB7.out.trans (hf8.below (by omega) (fun k hk => Nat.le_of_lt hk.1))
  have hs8 : w7.heap.size ≤ w8.heap.size := hf8.size
  clear hf8 T8 H8
  go_wp2_with fail
  refine (ts_whole _ bt _ _ _ _ w8 T8'.out (by unfold lim; omega)).mono ?_
  rintro e w9 ⟨a9, c9, rfl, O9, hb9⟩
  have R9 := Lib.hid (own_rd O9 hxw.out)
  have HB9 : Hid (Below B w w9) := HB8.out.trans (hb9.mono (by omega))
  have hs9 : B < w9.heap.size := by have := hb9.size; omega
  clear O9 hb9
  go_wp2_with fail
  refine (runes_same a9 a xs.length c9 cap xs w9 R9.out (HX.out.at_ HBE.out HB9.out)).mono ?_
  rintro e w10 ⟨rfl, hb10⟩
  have HB10 : Hid (Below B w w10) := HB9.out.trans (hb10.mono (by omega))
  have hs10 : B < w10.heap.size := by have := hb10.size; omega
  clear hb10
  go_wp2_with fail
  refine (awake_any w10).mono ?_
  rintro e w11 ⟨rfl, hb11⟩
  have HB11 : Hid (Below B w w11) := HB10.out.trans (hb11.mono (by omega))
  clear hb11
  go_wp2_with fail
  go_ret
  exact ⟨rfl, HB11.out⟩
end Go.Proofs.Ytblbbcgdgbajnaa.U
