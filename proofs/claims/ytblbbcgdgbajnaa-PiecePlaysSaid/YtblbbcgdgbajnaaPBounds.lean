/-
  The walk of PieceBounds.
-/
import Derived.Test.YtblbbcgdgbajnaaPUndo
import Derived.Test.YtblbbcgdgbajnaaPDeed
namespace Go.Proofs.Ytblbbcgdgbajnaa.U
open Go.RowKit
set_option linter.unusedVariables false
set_option linter.unusedSimpArgs false

theorem insM_len (L : List Int) (i : Int) (ys : List Int) (h : L.length ≤ 65536) : (insM L i ys).1.length ≤ 65536 := by
  unfold insM
  split
  · split
    · exact h
    · simp; omega
  · exact h
theorem codes (L : List Int) (i : Int) (ys : List Int) : (insM L i ys).2 = 0 ∨ (insM L i ys).2 = 2 ∨ (insM L i ys).2 = 3 := by
  unfold insM
  split
  · split <;> simp
  · simp
theorem codesD (L : List Int) (i n : Int) : (delM L i n).2 = 0 ∨ (delM L i n).2 = 2 := by
  unfold delM
  split <;> simp

theorem pieces_zero (P : Nat → Prop) (bt : Nat) (row : List Int) (kept : List (List Int)) (np ng : Nat) (w : World) (h : TS P w bt row kept np ng) (hz : row.length = 0) :
    Calls Try.prog 18 #[.pointer (some ⟨bt, 0, none⟩)] w fun e w' => e = .returned (.int .i64 0) ∧ w = w' := by
  refine (ts_pieces P bt row kept np ng w h).mono ?_
  rintro e w' ⟨⟨n, rfl, h1, h2⟩, rfl⟩
  exact ⟨by rw [h2.2 hz]; rfl, rfl⟩
theorem pieces_pos (P : Nat → Prop) (bt : Nat) (row : List Int) (kept : List (List Int)) (np ng : Nat) (w : World) (h : TS P w bt row kept np ng) (hz : ¬ row.length = 0) :
    Calls Try.prog 18 #[.pointer (some ⟨bt, 0, none⟩)] w fun e w' => (∃ n : Nat, e = .returned (.int .i64 n) ∧ n ≤ np ∧ 0 < n ∧ ((n : Int) == 0) = false) ∧ w = w' := by
  refine (ts_pieces P bt row kept np ng w h).mono ?_
  rintro e w' ⟨⟨n, rfl, h1, h2⟩, rfl⟩
  have : 0 < n := by rcases Nat.eq_zero_or_pos n with e | e; exact absurd (h2.1 e) hz; exact e
  exact ⟨⟨n, rfl, h1, this, by simp; omega⟩, rfl⟩
theorem len_zero (P : Nat → Prop) (bt : Nat) (row : List Int) (kept : List (List Int)) (np ng : Nat) (w : World) (h : TS P w bt row kept np ng) (hz : row.length = 0) :
    Calls Try.prog 12 #[.pointer (some ⟨bt, 0, none⟩)] w fun e w' => e = .returned (.int .i64 0) ∧ w = w' := by
  refine (ts_len P bt row kept np ng w h).mono ?_
  rintro e w' ⟨rfl, rfl⟩
  exact ⟨by rw [hz]; rfl, rfl⟩
theorem len_pos (P : Nat → Prop) (bt : Nat) (row : List Int) (kept : List (List Int)) (np ng : Nat) (w : World) (h : TS P w bt row kept np ng) (hz : ¬ row.length = 0) :
    Calls Try.prog 12 #[.pointer (some ⟨bt, 0, none⟩)] w fun e w' => (∃ n : Nat, e = .returned (.int .i64 n) ∧ ((n : Int) == 0) = false ∧ 0 < n) ∧ w = w' := by
  refine (ts_len P bt row kept np ng w h).mono ?_
  rintro e w' ⟨rfl, rfl⟩
  exact ⟨⟨row.length, rfl, by simp; intro e; exact hz (by rw [e]; rfl), by omega⟩, rfl⟩

/-- what a round of PieceBounds leaves -/
def Bd (B : Nat) (w wr : World) (bt i d : Nat) : Prop := ∃ row ng, TS (fun k => B ≤ k) wr bt row [] (1 + 2 * d) ng ∧ ng ≤ 2000 + 2000 * i ∧ Below B w wr

set_option maxRecDepth 100000 in
set_option maxHeartbeats 4000000 in
theorem pieceBounds_walk (a : Option Addr) (len cap : Nat) (xs : List Int) (da : Option Addr) (dl dc : Nat) (w : World) (h1 : Rd .i32 w a len cap xs) (h2 : RdD w da dl dc) :
    Calls Try.prog 4 #[.slice a len cap, .slice da dl dc] w fun e w' => e = .returned (.bool true) ∧ Below w.heap.size w w' := by
  have hs1 := h1.small
  have hs2 : dl ≤ 9223372036854775807 := by have := h2.1; have := h2.2.1; unfold maxLen at this; omega
  by_cases hL : 2000 < len
  · clear h1 h2
    go_enter Try.func4, Try.ntmps4
    go_wp2_with fail
    go_ret
    exact ⟨rfl, Below.refl _ _⟩
  have hL' : len ≤ 2000 := by omega
  obtain rfl := h1.len
  have HX := Lib.hid h1
  have HD := Lib.hid h2
  clear h1 h2
  obtain ⟨B, hB⟩ : ∃ B, w.heap.size = B := ⟨_, rfl⟩
  have HBE := Lib.hid hB
  rw [hB]
  clear hB
  go_enter Try.func4, Try.ntmps4
  go_wp2_with fail
  refine (ts_new (fun k => B ≤ k) a xs.length cap xs _ HX.out (by omega) (fun k hk => by have := HBE.out; omega)).mono ?_
  rintro e w1 ⟨bt, rfl, T1, hb1⟩
  have HB1 : Hid (Below B w w1) := by show Below _ _ _; rw [← HBE.out]; exact hb1
  have HS1 : Hid (Bd B w w1 bt 0 0) := ⟨_, _, T1, by omega, HB1.out⟩
  clear hb1 T1 HB1
  go_wp2_with fail
  go_loopw [6, 7, 8] (fun s6 s7 s8 wr => ∃ i d : Nat, s6 = .int .i64 d ∧ s7 = .int .i64 i ∧ i ≤ dl ∧ i ≤ 60 ∧ d ≤ i ∧ Hid (Bd B w wr bt i d)) (fun _ s7 _ _ => 60 - (intOf s7).toNat)
  case atStart => exact ⟨0, 0, rfl, rfl, by omega, by omega, by omega, HS1⟩
  case round =>
    obtain ⟨i, d, rfl, rfl, hi, hi6, hd, hbd⟩ := hrel
    clear HS1
    by_cases hlt : i < dl
    · by_cases h60 : i < 60
      · obtain ⟨row, ng, TT, hng, hb⟩ := hbd.out
        have hsz : B ≤ wr.heap.size := by have := hb.size; have := HBE.out; omega
        obtain ⟨db, off, rfl, hdb, k, p, n, al, ll, cl, L, k1, k2, k3, k4, k5, c0, c1, c2, c3⟩ := HD.out.get HBE.out hb hlt
        have K1 := Lib.hid k1
        have K2 := Lib.hid k2
        have K3 := Lib.hid k3
        have HB := Lib.hid hb
        have HR := Lib.hid k4
        have hll := k4.small
        have TT' := Lib.hid TT
        have hdw : db < wr.heap.size := by omega
        clear k1 k2 k3 k4 k5 hbd TT hb
        go_wp2_with fail
        · go_roundw
          case rel => exact ⟨i + 1, d, by go_num, by go_num, by omega, by omega, by omega, ⟨_, _, TT'.out.below ((Below.refl _ wr).alloc (Nat.le_refl _) _), by omega, HB.out.alloc hsz _⟩⟩
          case measure => simp [intOf]; omega
        · rename_i hk
          refine (ts_insert (fun k => B ≤ k ∧ ¬ k = wr.heap.size) bt row [] _ ng al ll cl L p _ ((TT'.out.shrink (N := fun k => k = wr.heap.size) (fun k hk => by omega)).below ((Below.refl _ wr).alloc (Nat.le_refl _) _)) (fun k hk => by rw [asz] at hk; omega) (HR.out.alloc _) K2.out (by unfold lim; omega)).mono ?_
          rintro e w2 ⟨rfl, T2, hf2⟩
          have d0 : w2.cell? ⟨wr.heap.size, 0, none⟩ = some (.int .i64 0) := (World.cell?_of_block (w := wr.alloc (.cells #[.int .i64 0, .int .i64 p, .int .i64 n, .slice al ll cl] 29)) (hf2.block wr.heap.size (by rw [asz]; omega) (fun h => h.2 rfl))).trans (by go_simp)
          have hlt2 : wr.heap.size < w2.heap.size := by have := hf2.size; rw [asz] at this; omega
          have HB2 : Hid (Below B w w2) := HB.out.trans (((Below.refl B wr).alloc hsz _).trans (hf2.below (by rw [asz]; omega) (fun k hk => hk.1)))
          obtain ⟨rz, hrz⟩ : ∃ rz, (insM row p L).1 = rz := ⟨_, rfl⟩
          obtain ⟨c, hc⟩ : ∃ c, (insM row p L).2 = c := ⟨_, rfl⟩
          rw [hrz, hc] at T2
          rw [hc]
          clear hrz hc hf2
          by_cases hc0 : c = 0
          · subst hc0
            have T3 : Hid (TS (fun k => B ≤ k) w2 bt rz [] (1 + 2 * (d + 1)) (ng + ll)) := T2.mono (fun k hk => hk.1) (by simp; omega) (Nat.le_refl _)
            clear T2
            by_cases hz : rz.length = 0
            · have HP := Lib.hid (pieces_zero _ bt _ _ _ _ _ T3.out hz)
              have HLN := Lib.hid (len_zero _ bt _ _ _ _ _ T3.out hz)
              go_wp2_with (first
                
                | (go_at_call 18; refine HP.out.mono ?_; rintro e w' ⟨rfl, rfl⟩)
                | (go_at_call 12; refine HLN.out.mono ?_; rintro e w' ⟨rfl, rfl⟩))
              all_goals
                go_roundw
                case rel => exact ⟨i + 1, d + 1, by go_num, by go_num, by omega, by omega, by omega, ⟨_, _, T3.out, by omega, HB2.out⟩⟩
                case measure => simp [intOf]; omega
            · have HP := Lib.hid (pieces_pos _ bt _ _ _ _ _ T3.out hz)
              have HLN := Lib.hid (len_pos _ bt _ _ _ _ _ T3.out hz)
              go_wp2_with (first
                
                | (go_at_call 18; refine HP.out.mono ?_; rintro e w' ⟨⟨nn, rfl, q1, q2, q3⟩, rfl⟩)
                | (go_at_call 12; refine HLN.out.mono ?_; rintro e w' ⟨⟨ln, rfl, q4, q5⟩, rfl⟩))
              all_goals
                go_roundw
                case rel => exact ⟨i + 1, d + 1, by go_num, by go_num, by omega, by omega, by omega, ⟨_, _, T3.out, by omega, HB2.out⟩⟩
                case measure => simp [intOf]; omega
          · have T3 : Hid (TS (fun k => B ≤ k) w2 bt rz [] (1 + 2 * d) (ng + ll)) := T2.mono (fun k hk => hk.1) (by simp [hc0]) (Nat.le_refl _)
            have hcb : (c == (0 : Int)) = false := by simp [hc0]
            clear T2
            by_cases hz : rz.length = 0
            · have HP := Lib.hid (pieces_zero _ bt _ _ _ _ _ T3.out hz)
              have HLN := Lib.hid (len_zero _ bt _ _ _ _ _ T3.out hz)
              go_wp2_with (first
                
                | (go_at_call 18; refine HP.out.mono ?_; rintro e w' ⟨rfl, rfl⟩)
                | (go_at_call 12; refine HLN.out.mono ?_; rintro e w' ⟨rfl, rfl⟩))
              all_goals
                go_roundw
                case rel => exact ⟨i + 1, d, by go_num, by go_num, by omega, by omega, by omega, ⟨_, _, T3.out, by omega, HB2.out⟩⟩
                case measure => simp [intOf]; omega
            · have HP := Lib.hid (pieces_pos _ bt _ _ _ _ _ T3.out hz)
              have HLN := Lib.hid (len_pos _ bt _ _ _ _ _ T3.out hz)
              go_wp2_with (first
                
                | (go_at_call 18; refine HP.out.mono ?_; rintro e w' ⟨⟨nn, rfl, q1, q2, q3⟩, rfl⟩)
                | (go_at_call 12; refine HLN.out.mono ?_; rintro e w' ⟨⟨ln, rfl, q4, q5⟩, rfl⟩))
              all_goals
                go_roundw
                case rel => exact ⟨i + 1, d, by go_num, by go_num, by omega, by omega, by omega, ⟨_, _, T3.out, by omega, HB2.out⟩⟩
                case measure => simp [intOf]; omega
        · rename_i hk
          refine (ts_delete (fun k => B ≤ k ∧ ¬ k = wr.heap.size) bt row [] _ ng p n _ ((TT'.out.shrink (N := fun k => k = wr.heap.size) (fun k hk => by omega)).below ((Below.refl _ wr).alloc (Nat.le_refl _) _)) (fun k hk => by rw [asz] at hk; omega) K2.out K3.out (by unfold lim; omega)).mono ?_
          rintro e w2 ⟨rfl, T2, hf2⟩
          have d0 : w2.cell? ⟨wr.heap.size, 0, none⟩ = some (.int .i64 1) := (World.cell?_of_block (w := wr.alloc (.cells #[.int .i64 1, .int .i64 p, .int .i64 n, .slice al ll cl] 29)) (hf2.block wr.heap.size (by rw [asz]; omega) (fun h => h.2 rfl))).trans (by go_simp)
          have hlt2 : wr.heap.size < w2.heap.size := by have := hf2.size; rw [asz] at this; omega
          have HB2 : Hid (Below B w w2) := HB.out.trans (((Below.refl B wr).alloc hsz _).trans (hf2.below (by rw [asz]; omega) (fun k hk => hk.1)))
          obtain ⟨rz, hrz⟩ : ∃ rz, (delM row p n).1 = rz := ⟨_, rfl⟩
          obtain ⟨c, hc⟩ : ∃ c, (delM row p n).2 = c := ⟨_, rfl⟩
          rw [hrz, hc] at T2
          rw [hc]
          clear hrz hc hf2
          by_cases hc0 : c = 0
          · subst hc0
            have T3 : Hid (TS (fun k => B ≤ k) w2 bt rz [] (1 + 2 * (d + 1)) ng) := T2.mono (fun k hk => hk.1) (by simp; omega) (Nat.le_refl _)
            clear T2
            by_cases hz : rz.length = 0
            · have HP := Lib.hid (pieces_zero _ bt _ _ _ _ _ T3.out hz)
              have HLN := Lib.hid (len_zero _ bt _ _ _ _ _ T3.out hz)
              go_wp2_with (first
                
                | (go_at_call 18; refine HP.out.mono ?_; rintro e w' ⟨rfl, rfl⟩)
                | (go_at_call 12; refine HLN.out.mono ?_; rintro e w' ⟨rfl, rfl⟩))
              all_goals
                go_roundw
                case rel => exact ⟨i + 1, d + 1, by go_num, by go_num, by omega, by omega, by omega, ⟨_, _, T3.out, by omega, HB2.out⟩⟩
                case measure => simp [intOf]; omega
            · have HP := Lib.hid (pieces_pos _ bt _ _ _ _ _ T3.out hz)
              have HLN := Lib.hid (len_pos _ bt _ _ _ _ _ T3.out hz)
              go_wp2_with (first
                
                | (go_at_call 18; refine HP.out.mono ?_; rintro e w' ⟨⟨nn, rfl, q1, q2, q3⟩, rfl⟩)
                | (go_at_call 12; refine HLN.out.mono ?_; rintro e w' ⟨⟨ln, rfl, q4, q5⟩, rfl⟩))
              all_goals
                go_roundw
                case rel => exact ⟨i + 1, d + 1, by go_num, by go_num, by omega, by omega, by omega, ⟨_, _, T3.out, by omega, HB2.out⟩⟩
                case measure => simp [intOf]; omega
          · have T3 : Hid (TS (fun k => B ≤ k) w2 bt rz [] (1 + 2 * d) ng) := T2.mono (fun k hk => hk.1) (by simp [hc0]) (Nat.le_refl _)
            have hcb : (c == (0 : Int)) = false := by simp [hc0]
            clear T2
            by_cases hz : rz.length = 0
            · have HP := Lib.hid (pieces_zero _ bt _ _ _ _ _ T3.out hz)
              have HLN := Lib.hid (len_zero _ bt _ _ _ _ _ T3.out hz)
              go_wp2_with (first
                
                | (go_at_call 18; refine HP.out.mono ?_; rintro e w' ⟨rfl, rfl⟩)
                | (go_at_call 12; refine HLN.out.mono ?_; rintro e w' ⟨rfl, rfl⟩))
              all_goals
                go_roundw
                case rel => exact ⟨i + 1, d, by go_num, by go_num, by omega, by omega, by omega, ⟨_, _, T3.out, by omega, HB2.out⟩⟩
                case measure => simp [intOf]; omega
            · have HP := Lib.hid (pieces_pos _ bt _ _ _ _ _ T3.out hz)
              have HLN := Lib.hid (len_pos _ bt _ _ _ _ _ T3.out hz)
              go_wp2_with (first
                
                | (go_at_call 18; refine HP.out.mono ?_; rintro e w' ⟨⟨nn, rfl, q1, q2, q3⟩, rfl⟩)
                | (go_at_call 12; refine HLN.out.mono ?_; rintro e w' ⟨⟨ln, rfl, q4, q5⟩, rfl⟩))
              all_goals
                go_roundw
                case rel => exact ⟨i + 1, d, by go_num, by go_num, by omega, by omega, by omega, ⟨_, _, T3.out, by omega, HB2.out⟩⟩
                case measure => simp [intOf]; omega
        · have T3 := Lib.hid (TT'.out.below ((Below.refl _ wr).alloc (Nat.le_refl _) (.cells #[.int .i64 k, .int .i64 p, .int .i64 n, .slice al ll cl] 29)))
          have HB2 : Hid (Below B w (wr.alloc (.cells #[.int .i64 k, .int .i64 p, .int .i64 n, .slice al ll cl] 29))) := HB.out.alloc hsz _
          by_cases hz : row.length = 0
          · have HP := Lib.hid (pieces_zero _ bt _ _ _ _ _ T3.out hz)
            have HLN := Lib.hid (len_zero _ bt _ _ _ _ _ T3.out hz)
            go_wp2_with (first
              
              | (go_at_call 18; refine HP.out.mono ?_; rintro e w' ⟨rfl, rfl⟩)
              | (go_at_call 12; refine HLN.out.mono ?_; rintro e w' ⟨rfl, rfl⟩))
            all_goals
              go_roundw
              case rel => exact ⟨i + 1, d, by go_num, by go_num, by omega, by omega, by omega, ⟨_, _, T3.out, by omega, HB2.out⟩⟩
              case measure => simp [intOf]; omega
          · have HP := Lib.hid (pieces_pos _ bt _ _ _ _ _ T3.out hz)
            have HLN := Lib.hid (len_pos _ bt _ _ _ _ _ T3.out hz)
            go_wp2_with (first
              
              | (go_at_call 18; refine HP.out.mono ?_; rintro e w' ⟨⟨nn, rfl, q1, q2, q3⟩, rfl⟩)
              | (go_at_call 12; refine HLN.out.mono ?_; rintro e w' ⟨⟨ln, rfl, q4, q5⟩, rfl⟩))
            all_goals
              go_roundw
              case rel => exact ⟨i + 1, d, by go_num, by go_num, by omega, by omega, by omega, ⟨_, _, T3.out, by omega, HB2.out⟩⟩
              case measure => simp [intOf]; omega
      · go_wp2_with fail
        refine (awake_any wr).mono ?_
        rintro e w9 ⟨rfl, hb9⟩
        go_wp2_with fail
        go_ret
        exact ⟨rfl, by obtain ⟨_, _, _, _, hb⟩ := hbd.out; exact hb.trans (hb9.mono (by have := hb.size; have := HBE.out; omega))⟩
    · go_wp2_with fail
      refine (awake_any wr).mono ?_
      rintro e w9 ⟨rfl, hb9⟩
      go_wp2_with fail
      go_ret
      exact ⟨rfl, by obtain ⟨_, _, _, _, hb⟩ := hbd.out; exact hb.trans (hb9.mono (by have := hb.size; have := HBE.out; omega))⟩
end Go.Proofs.Ytblbbcgdgbajnaa.U
