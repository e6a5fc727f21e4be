/-
  Contracts of Encode and what it calls: the bytes of runes, appended to a slice of the call's own.
-/
import Derived.Test.YtcjngpgicegacaaULeaf
namespace Go.Proofs.Ytcjngpgicegacaa.U
open Go.RowKit
set_option linter.unusedVariables false
set_option linter.unusedSimpArgs false

theorem infoB : (Try.prog.info? 5).map (fun i => (i.zero, i.size, i.bytes)) = some (some (.int .u8 0), 1, 1) := by kernel_rfl
theorem infoR : (Try.prog.info? 21).map (fun i => (i.zero, i.size, i.bytes)) = some (some (.int .i32 0), 1, 4) := by kernel_rfl

theorem len_is (r n : Int) (w : World) (h : lenV r = n) :
    Calls Try.prog 16 #[.int .i32 r] w fun e w' => e = .returned (.int .i64 n) ∧ w = w' := by
  subst h; exact len_any r w

theorem appendBytes_1 (r : Int) (w : World) (B : Nat) (v : Value) (n : Nat) (xs : List Value) (h0 : 0 ≤ r) (h1 : r ≤ 127) (hl : lenV r = 1)
    (hown : w.ownsRow B 5 1 v n xs) (hB : B ≤ w.heap.size) (hn : n + 4 ≤ 140737488355328) :
    Calls Try.prog 28 #[v, .int .i32 r] w fun e w' => ∃ v', e = .returned v' ∧
      w'.ownsRow B 5 1 v' (n + 1) (xs ++ [.int .u8 r]) ∧ Below B w w' := by
  obtain ⟨i0, hi, hz0, hz1, hz2⟩ := info_parts infoB
  go_enter Try.func28, Try.ntmps28
  go_wp2_with fail
  refine (len_is _ 1 _ hl).mono ?_
  rintro e w' ⟨rfl, rfl⟩
  go_wp2_with (first
    | (at_builtin; go_must (refine wpList_appNew rfl _ _ 22 rfl B 5 i0 (.int .u8 0) 1 Try.underlying22 hi hz0 hz1 hz2 rfl _ _ _ rfl hown _ _ 1 rfl rfl ?c1 ?c2 ?c3 ?c4 ?_))
    | (go_at_call 35; refine (lowerSix_any _ _ (by omega)).mono ?_; rintro e w' ⟨rfl, rfl⟩))
  case c1 => simp [Value.oneCell']
  case c2 => unfold maxLen; omega
  case c3 => omega
  case c4 => exact hB
  intro v' w' ho' hb
  go_wp2
  go_ret
  exact ⟨v', rfl, ho', hb⟩

theorem appendBytes_2 (r : Int) (w : World) (B : Nat) (v : Value) (n : Nat) (xs : List Value) (h0 : 128 ≤ r) (h1 : r ≤ 2047) (hl : lenV r = 2)
    (hown : w.ownsRow B 5 1 v n xs) (hB : B ≤ w.heap.size) (hn : n + 4 ≤ 140737488355328) :
    Calls Try.prog 28 #[v, .int .i32 r] w fun e w' => ∃ v', e = .returned v' ∧
      w'.ownsRow B 5 1 v' (n + 2) (xs ++ [.int .u8 (192 + r / 64), .int .u8 (128 + r % 64)]) ∧ Below B w w' := by
  obtain ⟨i0, hi, hz0, hz1, hz2⟩ := info_parts infoB
  go_enter Try.func28, Try.ntmps28
  go_wp2_with fail
  refine (len_is _ 2 _ hl).mono ?_
  rintro e w' ⟨rfl, rfl⟩
  go_wp2_with (first
    | (at_builtin; go_must (refine wpList_appNew rfl _ _ 22 rfl B 5 i0 (.int .u8 0) 1 Try.underlying22 hi hz0 hz1 hz2 rfl _ _ _ rfl hown _ _ 2 rfl rfl ?c1 ?c2 ?c3 ?c4 ?_))
    | (go_at_call 35; refine (lowerSix_any _ _ (by omega)).mono ?_; rintro e w' ⟨rfl, rfl⟩))
  case c1 => simp [Value.oneCell']
  case c2 => unfold maxLen; omega
  case c3 => omega
  case c4 => exact hB
  intro v' w' ho' hb
  go_wp2
  go_ret
  exact ⟨v', rfl, ho', hb⟩

theorem appendBytes_3 (r : Int) (w : World) (B : Nat) (v : Value) (n : Nat) (xs : List Value) (h0 : 2048 ≤ r) (h1 : r ≤ 65535) (hl : lenV r = 3)
    (hown : w.ownsRow B 5 1 v n xs) (hB : B ≤ w.heap.size) (hn : n + 4 ≤ 140737488355328) :
    Calls Try.prog 28 #[v, .int .i32 r] w fun e w' => ∃ v', e = .returned v' ∧
      w'.ownsRow B 5 1 v' (n + 3) (xs ++ [.int .u8 (224 + r / 4096), .int .u8 (128 + r / 64 % 64), .int .u8 (128 + r % 64)]) ∧ Below B w w' := by
  obtain ⟨i0, hi, hz0, hz1, hz2⟩ := info_parts infoB
  go_enter Try.func28, Try.ntmps28
  go_wp2_with fail
  refine (len_is _ 3 _ hl).mono ?_
  rintro e w' ⟨rfl, rfl⟩
  go_wp2_with (first
    | (at_builtin; go_must (refine wpList_appNew rfl _ _ 22 rfl B 5 i0 (.int .u8 0) 1 Try.underlying22 hi hz0 hz1 hz2 rfl _ _ _ rfl hown _ _ 3 rfl rfl ?c1 ?c2 ?c3 ?c4 ?_))
    | (go_at_call 35; refine (lowerSix_any _ _ (by omega)).mono ?_; rintro e w' ⟨rfl, rfl⟩))
  case c1 => simp [Value.oneCell']
  case c2 => unfold maxLen; omega
  case c3 => omega
  case c4 => exact hB
  intro v' w' ho' hb
  go_wp2
  go_ret
  exact ⟨v', rfl, ho', hb⟩

theorem appendBytes_4 (r : Int) (w : World) (B : Nat) (v : Value) (n : Nat) (xs : List Value) (h0 : 65536 ≤ r) (h1 : r ≤ 1114111) (hl : lenV r = 4)
    (hown : w.ownsRow B 5 1 v n xs) (hB : B ≤ w.heap.size) (hn : n + 4 ≤ 140737488355328) :
    Calls Try.prog 28 #[v, .int .i32 r] w fun e w' => ∃ v', e = .returned v' ∧
      w'.ownsRow B 5 1 v' (n + 4) (xs ++ [.int .u8 (240 + r / 262144), .int .u8 (128 + r / 4096 % 64), .int .u8 (128 + r / 64 % 64), .int .u8 (128 + r % 64)]) ∧ Below B w w' := by
  obtain ⟨i0, hi, hz0, hz1, hz2⟩ := info_parts infoB
  go_enter Try.func28, Try.ntmps28
  go_wp2_with fail
  refine (len_is _ 4 _ hl).mono ?_
  rintro e w' ⟨rfl, rfl⟩
  go_wp2_with (first
    | (at_builtin; go_must (refine wpList_appNew rfl _ _ 22 rfl B 5 i0 (.int .u8 0) 1 Try.underlying22 hi hz0 hz1 hz2 rfl _ _ _ rfl hown _ _ 4 rfl rfl ?c1 ?c2 ?c3 ?c4 ?_))
    | (go_at_call 35; refine (lowerSix_any _ _ (by omega)).mono ?_; rintro e w' ⟨rfl, rfl⟩))
  case c1 => simp [Value.oneCell']
  case c2 => unfold maxLen; omega
  case c3 => omega
  case c4 => exact hB
  intro v' w' ho' hb
  go_wp2
  go_ret
  exact ⟨v', rfl, ho', hb⟩


theorem appendBytes_any (r : Int) (w : World) (B : Nat) (v : Value) (n : Nat) (xs : List Value)
    (hown : w.ownsRow B 5 1 v n xs) (hB : B ≤ w.heap.size) (hn : n + 4 ≤ 140737488355328) :
    Calls Try.prog 28 #[v, .int .i32 (scal r)] w fun e w' => ∃ v', e = .returned v' ∧
      w'.ownsRow B 5 1 v' (n + (encB (scal r)).length) (xs ++ (encB (scal r)).map (Value.int .u8)) ∧ Below B w w' := by
  have hb := scal_in r
  have hs := scal_scal r
  have hl : lenV (scal r) = (encB (scal r)).length := by rw [lenV_eq]; rw [hs]
  generalize scal r = q at *
  by_cases c1 : q ≤ 127
  · have he : encB q = [q] := by unfold encB; rw [if_pos c1]
    rw [he] at hl ⊢
    exact appendBytes_1 q w B v n xs (by omega) c1 (by simpa using hl) hown hB hn
  by_cases c2 : q ≤ 2047
  · have he : encB q = [192 + q / 64, 128 + q % 64] := by unfold encB; rw [if_neg c1, if_pos c2]
    rw [he] at hl ⊢
    exact appendBytes_2 q w B v n xs (by omega) c2 (by simpa using hl) hown hB hn
  by_cases c3 : q ≤ 65535
  · have he : encB q = [224 + q / 4096, 128 + q / 64 % 64, 128 + q % 64] := by unfold encB; rw [if_neg c1, if_neg c2, if_pos c3]
    rw [he] at hl ⊢
    exact appendBytes_3 q w B v n xs (by omega) c3 (by simpa using hl) hown hB hn
  · have he : encB q = [240 + q / 262144, 128 + q / 4096 % 64, 128 + q / 64 % 64, 128 + q % 64] := by unfold encB; rw [if_neg c1, if_neg c2, if_neg c3]
    rw [he] at hl ⊢
    exact appendBytes_4 q w B v n xs (by omega) hb.2 (by simpa using hl) hown hB hn

/-- one round of Encode's loop -/
theorem enc_step {w wr w1 : World} {B k : Nat} {v' : Value} {xs : List Int} (hk : k < xs.length)
    (ho : w1.ownsRow B 5 1 v' ((encV (xs.take k)).length + (encB (scal (xs.getD k 0))).length) ((encV (xs.take k)).map (Value.int .u8) ++ (encB (scal (xs.getD k 0))).map (Value.int .u8)))
    (hb : Below B w wr) (hb' : Below B wr w1) :
    w1.ownsRow B 5 1 v' (encV (xs.take (k + 1))).length ((encV (xs.take (k + 1))).map (Value.int .u8)) ∧ Below B w w1 := by
  rw [take_snoc xs k hk, encV_snoc, List.length_append, List.map_append]
  exact ⟨ho, hb.trans hb'⟩

theorem encode_any (a : Option Addr) (len cap : Nat) (xs : List Int) (w : World) (hr : Rd .i32 w a len cap xs) (hbig : len * 4 ≤ 140737488355324) :
    Calls Try.prog 18 #[.slice a len cap] w fun e w' => ∃ v', e = .returned v' ∧
      w'.ownsRow w.heap.size 5 1 v' (encV xs).length ((encV xs).map (Value.int .u8)) ∧ Below w.heap.size w w' := by
  obtain ⟨r1, r2, r3, r4, r6, r5⟩ := hr
  by_cases h0 : len = 0
  · subst h0
    obtain rfl : xs = [] := List.eq_nil_of_length_eq_zero r1
    go_enter Try.func18, Try.ntmps18
    go_wp2
    go_loopw [3, 8] (fun v i wr => v = .slice none 0 0 ∧ i = .int .i64 0 ∧ wr = w) (fun _ _ _ => 0)
    case atStart => exact ⟨rfl, rfl, rfl⟩
    case round =>
      obtain ⟨rfl, rfl, rfl⟩ := hrel
      go_wp2
      go_ret
      exact ⟨_, rfl, World.ownsRow_nil _ _ _ _, Below.refl _ _⟩
  · obtain ⟨b, off, rfl, hc⟩ := r5 (by omega)
    have hb : b < w.heap.size := block_lt_of_cell (hc 0 (by omega))
    unfold maxLen at r3
    go_enter Try.func18, Try.ntmps18
    go_wp2
    go_loopw [3, 8] (fun v i wr => ∃ k : Nat, k ≤ len ∧ i = .int .i64 k ∧ wr.ownsRow w.heap.size 5 1 v (encV (xs.take k)).length ((encV (xs.take k)).map (Value.int .u8)) ∧ Below w.heap.size w wr)
      (fun _ i _ => len - (intOf i).toNat)
    case atStart => exact ⟨0, Nat.zero_le _, rfl, World.ownsRow_nil _ _ _ _, Below.refl _ _⟩
    case round =>
      obtain ⟨k, hk, rfl, hown, hbl⟩ := hrel
      by_cases hlt : k < len
      · have hcx : wr.cell? ⟨b, off + k, none⟩ = some (.int .i32 (xs.getD k 0)) := (hbl.cell (by exact hb)).trans (hc k hlt)
        obtain ⟨x, hx⟩ : ∃ x, xs.getD k 0 = x := ⟨_, rfl⟩
        rw [hx] at hcx
        have HX := Lib.hid hx; clear hx
        have hl4 := encV_len (xs.take k)
        have hsz := hbl.size
        have htl : (xs.take k).length ≤ k := List.length_take_le _ _
        go_wp2_with (first
          | (go_at_call 27; refine (scalar_any _ _).mono ?_; rintro e w' ⟨rfl, rfl⟩)
          | (go_at_call 28; refine (appendBytes_any _ _ _ _ _ _ hown (by omega) (by omega)).mono ?_; rintro e w1 ⟨v', rfl, ho, hb1⟩))
        have R := enc_step (xs := xs) (k := k) (by omega) (by rw [HX.out]; exact ho) hbl hb1
        go_roundw
        case rel => exact ⟨k + 1, by omega, by go_num, R.1, R.2⟩
        case measure => simp [intOf]; omega
      · obtain rfl : k = len := by omega
        go_wp2
        go_ret
        rw [List.take_of_length_le (by omega)] at hown
        exact ⟨_, rfl, hown, hbl⟩

end Go.Proofs.Ytcjngpgicegacaa.U
