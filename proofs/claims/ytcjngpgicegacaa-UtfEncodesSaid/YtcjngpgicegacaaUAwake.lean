/-
  The contract of 'awake': the chapter's examples hold.
-/
import Derived.Test.YtcjngpgicegacaaUDec
import Derived.Laws.BytesArg
namespace Go.Proofs.Ytcjngpgicegacaa.U
open Go.RowKit
set_option linter.unusedVariables false
set_option linter.unusedSimpArgs false

/-- A slice whose values have just been laid. -/
theorem Rd_new (k : IntKind) (w : World) (xs : List Int) (cs : Array Value) (e : TypeId) (n : Nat) (hc : cs = (xs.map (Value.int k)).toArray) (hn : xs.length = n) (hm : n ≤ maxLen) (hw : ∀ x ∈ xs, (Lit.int k x).wf = true) :
    Rd k (w.alloc (.cells cs e)) (some ⟨w.heap.size, 0, none⟩) n n xs := by
  subst hc
  refine ⟨hn, Nat.le_refl _, hm, hw, (fun h => by cases h), fun _ => ⟨_, 0, rfl, fun i hi => ?_⟩⟩
  rw [cell_of_row _ _ _ _ _ _ (heap_alloc_new w _), Nat.zero_add]
  simp only [List.getElem?_toArray, List.getElem?_map]
  rw [List.getElem?_eq_getElem (by omega), List.getD_eq_getElem?_getD, List.getElem?_eq_getElem (by omega)]
  rfl

theorem decV_ex : decV [65, 195, 169, 255, 226, 130] = [65, 233, 65533, 65533, 65533] := by decide
theorem nextV_ex1 : nextV [226, 130] = (0, 0, true) := by decide
theorem nextV_ex2 : nextV [226, 65] = (65533, 1, false) := by decide
theorem encV_ex : encV [8364] = [226, 130, 172] := by decide

set_option maxHeartbeats 1000000 in
theorem awake_any (w : World) :
    Calls Try.prog 13 #[] w fun e w' => e = .returned (.bool true) ∧ Below w.heap.size w w' := by
  go_enter Try.func13, Try.ntmps13
  go_wp2_with fail
  refine (decode_any _ 6 6 [65, 195, 169, 255, 226, 130] _ (Rd_new .u8 w _ _ _ 6 rfl rfl (by unfold maxLen; omega) (by decide)) (by omega)).mono ?_
  rintro e w1 ⟨v1, rfl, hown1, hb1⟩
  rw [decV_ex] at hown1
  obtain ⟨a1, c1, rfl⟩ := own_slice hown1
  have R1 := Lib.hid (Rd.own hown1 (by decide))
  have B1 := Lib.hid (((Below.refl _ w).alloc (Nat.le_refl _) (.cells #[.int .u8 65, .int .u8 195, .int .u8 169, .int .u8 255, .int .u8 226, .int .u8 130] 5)).trans (hb1.mono (B' := w.heap.size) (by simp)))
  have s1 := B1.out.size
  clear hown1 hb1
  go_wp2_with fail
  refine (next_any _ 2 2 [226, 130] 0 0 true _ (Rd_new .u8 w1 _ _ _ 2 rfl rfl (by unfold maxLen; omega) (by decide)) nextV_ex1).mono ?_
  rintro e w2 ⟨rfl, hb2⟩
  have B2 := Lib.hid (((Below.refl _ w1).alloc (Nat.le_refl _) (.cells #[.int .u8 226, .int .u8 130] 5)).trans (hb2.mono (B' := w1.heap.size) (by simp)))
  have s2 := B2.out.size
  clear hb2
  go_wp2_with fail
  refine (next_any _ 2 2 [226, 65] 65533 1 false _ (Rd_new .u8 w2 _ _ _ 2 rfl rfl (by unfold maxLen; omega) (by decide)) nextV_ex2).mono ?_
  rintro e w3 ⟨rfl, hb3⟩
  have B3 := Lib.hid (((Below.refl _ w2).alloc (Nat.le_refl _) (.cells #[.int .u8 226, .int .u8 65] 5)).trans (hb3.mono (B' := w2.heap.size) (by simp)))
  have s3 := B3.out.size
  clear hb3
  go_wp2_with fail
  have B13 := Lib.hid ((B2.out.trans (B3.out.mono (B' := w1.heap.size) s2)).alloc (by omega) (.cells #[.int .i32 65, .int .i32 233, .int .i32 65533, .int .i32 65533, .int .i32 65533] 21))
  refine (runes_same a1 _ 5 c1 5 [65, 233, 65533, 65533, 65533] _ (R1.out.below B13.out) (Rd_new .i32 w3 _ _ _ 5 rfl rfl (by unfold maxLen; omega) (by decide))).mono ?_
  rintro e w4 ⟨rfl, hb4⟩
  have B4 := Lib.hid (((Below.refl _ w3).alloc (Nat.le_refl _) (.cells #[.int .i32 65, .int .i32 233, .int .i32 65533, .int .i32 65533, .int .i32 65533] 21)).trans (hb4.mono (B' := w3.heap.size) (by simp)))
  have s4 := B4.out.size
  clear hb4
  go_wp2_with fail
  refine (encode_any _ 1 1 [8364] _ (Rd_new .i32 w4 _ _ _ 1 rfl rfl (by unfold maxLen; omega) (by decide)) (by omega)).mono ?_
  rintro e w5 ⟨v5, rfl, hown5, hb5⟩
  rw [encV_ex] at hown5
  obtain ⟨a5, c5, rfl⟩ := own_slice hown5
  have B5 := Lib.hid (((Below.refl _ w4).alloc (Nat.le_refl _) (.cells #[.int .i32 8364] 21)).trans (hb5.mono (B' := w4.heap.size) (by simp)))
  have s5 := B5.out.size
  have R5 := Rd.own hown5 (by decide)
  obtain ⟨b5, o5, rfl, hc5⟩ := R5.2.2.2.2.2 (by simp)
  have hcv := run_convert_bytes_arg (P := Try.prog) w5 22 5 Try.underlying22 Try.underlying5 b5 o5 3 c5 [226, 130, 172] rfl hc5 9 Try.underlying9
  have hst : strOfNums [226, 130, 172] = ⟨#[226, 130, 172]⟩ := rfl
  rw [hst] at hcv
  clear hown5 hb5 R5 hc5 hst
  go_wp2_with fail
  go_ret
  refine ⟨?_, ?_⟩
  · rfl
  · exact (((B1.out.trans (B2.out.mono (B' := w.heap.size) s1)).trans (B3.out.mono (B' := w.heap.size) (by omega))).trans (B4.out.mono (B' := w.heap.size) (by omega))).trans (B5.out.mono (B' := w.heap.size) (by omega))
end Go.Proofs.Ytcjngpgicegacaa.U
