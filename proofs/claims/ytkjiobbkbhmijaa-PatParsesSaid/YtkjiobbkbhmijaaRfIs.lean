/-
  The document's reader: what stands at a place.
-/
import Derived.Test.YtkjiobbkbhmijaaRSame
namespace Go.Proofs.Ytkjiobbkbhmijaa.U
open Go.RowKit
set_option linter.unusedVariables false
set_option linter.unusedSimpArgs false
set_option maxRecDepth 100000

/-- the document's reader: a pattern, a place, so many groups, so many open, an error -/
def RfS (w : World) (br : Nat) (p : List Int) (i n o er : Int) : Prop :=
  ∃ a cap, w.heap[br]? = some (.cells #[.slice a p.length cap, .int .i64 i, .int .i64 n, .int .i64 o, .int .i64 er] 45 (0, 0)) ∧ Rd .i32 w a p.length cap p ∧ InF (fun k => k < br) a p.length
theorem pre1 (c : Int) (p : List Int) (k : Nat) : pre [c] (p.drop k) = (decide (k < p.length) && (p.getD k 0 == c)) := by
  unfold pre
  by_cases h : k < p.length
  · rw [List.drop_eq_getElem_cons h, List.getD_eq_getElem?_getD, List.getElem?_eq_getElem h]
    have : decide (k < p.length) = true := by simpa using h
    rw [this, Bool.true_and, Option.getD_some, List.isPrefixOf, List.isPrefixOf, Bool.and_true]
    exact BEq.comm
  · rw [List.drop_eq_nil_of_le (by omega)]
    simp [h]
theorem pre2 (c d : Int) (p : List Int) (k : Nat) : pre [c, d] (p.drop k) = (pre [c] (p.drop k) && pre [d] (p.drop (k + 1))) := by
  unfold pre
  by_cases h : k < p.length
  · rw [List.drop_eq_getElem_cons h]
    simp [List.isPrefixOf]
  · rw [List.drop_eq_nil_of_le (by omega)]
    rfl
set_option maxHeartbeats 1000000 in
theorem is_42 (br : Nat) (p : List Int) (i n o er : Int) (k : Nat) (w : World) (h : RfS w br p i n o er) (hk : k ≤ 4000000) :
    Calls Try.prog 26 #[.pointer (some ⟨br, 0, none⟩), .int .i64 (k : Nat), .string ⟨#[42]⟩] w fun e w' => e = .returned (.bool (pre [42] (p.drop k))) ∧ Below w.heap.size w w' := by
  obtain ⟨a, cap, hg, hr, -⟩ := h
  have hsm := hr.small
  obtain ⟨q, hq⟩ : ∃ q, p.length = q := ⟨_, rfl⟩
  have HP := Lib.hid (pre1 42 p k)
  rw [hq] at hg hr HP hsm
  have e0 : w.cell? ⟨br, 0, none⟩ = some (.slice a q cap) := by rw [cell_row hg]; rfl
  have HR := Lib.hid hr
  have hbr := heap_lt hg
  clear hr hg hq
  go_enter Try.func26, Try.ntmps26
  go_wp2_with fail
  go_loopw [7] (fun v7 wr => ∃ i : Nat, v7 = .int .i64 (i : Nat) ∧ i ≤ 1 ∧ Hid ((i = 1 → pre [42] (p.drop k) = true) ∧ Below w.heap.size w wr)) (fun v7 _ => 1 - (intOf v7).toNat)
  case atStart => exact ⟨0, rfl, by omega, (fun h => by omega), Below.refl _ _⟩
  case round =>
    obtain ⟨i, rfl, hi, HW⟩ := hrel
    have a0 := (HW.out.2.cell (p := ⟨br, 0, none⟩) hbr).trans e0
    have h01 : i = 0 ∨ i = 1 := by omega
    rcases h01 with rfl | rfl
    · by_cases hkq : k < q
      · obtain ⟨b, off, rfl, hbl, hcell⟩ := HR.out.at_ hkq
        obtain ⟨c, hc⟩ : ∃ c, p.getD k 0 = c := ⟨_, rfl⟩
        rw [hc] at hcell HP
        have e1 := (HW.out.2.cell (p := ⟨b, off + k, none⟩) hbl).trans hcell
        have g1 : ¬ (q : Int) ≤ (k : Int) := by omega
        have g2 : (k : Int) < (q : Int) := by omega
        have hb0 : IntKind.i32.wrap (((({ data := #[42] } : ByteArray)[0]'(by decide)).toNat : Nat) : Int) = 42 := by rfl
        have gd : decide ((q : Int) ≤ (k : Int)) = false := by simpa using hkq
        have hw0 : IntKind.i64.wrap (k : Int) = (k : Int) := by rw [IntKind.wrap_i64]; omega
        clear hc hcell
        by_cases h42 : c = 42
        · subst h42
          have HT : Hid (pre [42] (p.drop k) = true) := by show _ = _; rw [HP.out]; simp [hkq]
          go_wp2_with fail
          go_quiet (fail)
          go_wp2_with fail
          go_roundw
          case rel => exact ⟨1, rfl, by omega, fun _ => HT.out, bdrewN HW.out.2 _⟩
          case measure => simp [intOf]
        · have g3 : (c == 42) = false := by simpa using h42
          have g4 : (c != 42) = true := by simpa using h42
          have HT : Hid (pre [42] (p.drop k) = false) := by show _ = _; rw [HP.out]; simp [hkq, h42]
          go_wp2_with fail
          go_quiet (fail)
          go_wp2
          go_ret
          exact ⟨by rw [HT.out]; rfl, bdrewN HW.out.2 _⟩
      · have g1 : (q : Int) ≤ (k : Int) := by omega
        have hw0 : IntKind.i64.wrap (k : Int) = (k : Int) := by rw [IntKind.wrap_i64]; omega
        have HT : Hid (pre [42] (p.drop k) = false) := by show _ = _; rw [HP.out]; simp [hkq]
        go_wp2_with fail
        go_quiet (fail)
        go_wp2
        go_ret
        exact ⟨by rw [HT.out]; rfl, bdrewN HW.out.2 _⟩
    · go_wp2
      go_ret
      exact ⟨by rw [HW.out.1 (by trivial)]; rfl, HW.out.2⟩
set_option maxHeartbeats 1000000 in
theorem is_94 (br : Nat) (p : List Int) (i n o er : Int) (k : Nat) (w : World) (h : RfS w br p i n o er) (hk : k ≤ 4000000) :
    Calls Try.prog 26 #[.pointer (some ⟨br, 0, none⟩), .int .i64 (k : Nat), .string ⟨#[94]⟩] w fun e w' => e = .returned (.bool (pre [94] (p.drop k))) ∧ Below w.heap.size w w' := by
  obtain ⟨a, cap, hg, hr, -⟩ := h
  have hsm := hr.small
  obtain ⟨q, hq⟩ : ∃ q, p.length = q := ⟨_, rfl⟩
  have HP := Lib.hid (pre1 94 p k)
  rw [hq] at hg hr HP hsm
  have e0 : w.cell? ⟨br, 0, none⟩ = some (.slice a q cap) := by rw [cell_row hg]; rfl
  have HR := Lib.hid hr
  have hbr := heap_lt hg
  clear hr hg hq
  go_enter Try.func26, Try.ntmps26
  go_wp2_with fail
  go_loopw [7] (fun v7 wr => ∃ i : Nat, v7 = .int .i64 (i : Nat) ∧ i ≤ 1 ∧ Hid ((i = 1 → pre [94] (p.drop k) = true) ∧ Below w.heap.size w wr)) (fun v7 _ => 1 - (intOf v7).toNat)
  case atStart => exact ⟨0, rfl, by omega, (fun h => by omega), Below.refl _ _⟩
  case round =>
    obtain ⟨i, rfl, hi, HW⟩ := hrel
    have a0 := (HW.out.2.cell (p := ⟨br, 0, none⟩) hbr).trans e0
    have h01 : i = 0 ∨ i = 1 := by omega
    rcases h01 with rfl | rfl
    · by_cases hkq : k < q
      · obtain ⟨b, off, rfl, hbl, hcell⟩ := HR.out.at_ hkq
        obtain ⟨c, hc⟩ : ∃ c, p.getD k 0 = c := ⟨_, rfl⟩
        rw [hc] at hcell HP
        have e1 := (HW.out.2.cell (p := ⟨b, off + k, none⟩) hbl).trans hcell
        have g1 : ¬ (q : Int) ≤ (k : Int) := by omega
        have g2 : (k : Int) < (q : Int) := by omega
        have hb0 : IntKind.i32.wrap (((({ data := #[94] } : ByteArray)[0]'(by decide)).toNat : Nat) : Int) = 94 := by rfl
        have gd : decide ((q : Int) ≤ (k : Int)) = false := by simpa using hkq
        have hw0 : IntKind.i64.wrap (k : Int) = (k : Int) := by rw [IntKind.wrap_i64]; omega
        clear hc hcell
        by_cases h42 : c = 94
        · subst h42
          have HT : Hid (pre [94] (p.drop k) = true) := by show _ = _; rw [HP.out]; simp [hkq]
          go_wp2_with fail
          go_quiet (fail)
          go_wp2_with fail
          go_roundw
          case rel => exact ⟨1, rfl, by omega, fun _ => HT.out, bdrewN HW.out.2 _⟩
          case measure => simp [intOf]
        · have g3 : (c == 94) = false := by simpa using h42
          have g4 : (c != 94) = true := by simpa using h42
          have HT : Hid (pre [94] (p.drop k) = false) := by show _ = _; rw [HP.out]; simp [hkq, h42]
          go_wp2_with fail
          go_quiet (fail)
          go_wp2
          go_ret
          exact ⟨by rw [HT.out]; rfl, bdrewN HW.out.2 _⟩
      · have g1 : (q : Int) ≤ (k : Int) := by omega
        have hw0 : IntKind.i64.wrap (k : Int) = (k : Int) := by rw [IntKind.wrap_i64]; omega
        have HT : Hid (pre [94] (p.drop k) = false) := by show _ = _; rw [HP.out]; simp [hkq]
        go_wp2_with fail
        go_quiet (fail)
        go_wp2
        go_ret
        exact ⟨by rw [HT.out]; rfl, bdrewN HW.out.2 _⟩
    · go_wp2
      go_ret
      exact ⟨by rw [HW.out.1 (by trivial)]; rfl, HW.out.2⟩
set_option maxHeartbeats 1000000 in
theorem is_44 (br : Nat) (p : List Int) (i n o er : Int) (k : Nat) (w : World) (h : RfS w br p i n o er) (hk : k ≤ 4000000) :
    Calls Try.prog 26 #[.pointer (some ⟨br, 0, none⟩), .int .i64 (k : Nat), .string ⟨#[44]⟩] w fun e w' => e = .returned (.bool (pre [44] (p.drop k))) ∧ Below w.heap.size w w' := by
  obtain ⟨a, cap, hg, hr, -⟩ := h
  have hsm := hr.small
  obtain ⟨q, hq⟩ : ∃ q, p.length = q := ⟨_, rfl⟩
  have HP := Lib.hid (pre1 44 p k)
  rw [hq] at hg hr HP hsm
  have e0 : w.cell? ⟨br, 0, none⟩ = some (.slice a q cap) := by rw [cell_row hg]; rfl
  have HR := Lib.hid hr
  have hbr := heap_lt hg
  clear hr hg hq
  go_enter Try.func26, Try.ntmps26
  go_wp2_with fail
  go_loopw [7] (fun v7 wr => ∃ i : Nat, v7 = .int .i64 (i : Nat) ∧ i ≤ 1 ∧ Hid ((i = 1 → pre [44] (p.drop k) = true) ∧ Below w.heap.size w wr)) (fun v7 _ => 1 - (intOf v7).toNat)
  case atStart => exact ⟨0, rfl, by omega, (fun h => by omega), Below.refl _ _⟩
  case round =>
    obtain ⟨i, rfl, hi, HW⟩ := hrel
    have a0 := (HW.out.2.cell (p := ⟨br, 0, none⟩) hbr).trans e0
    have h01 : i = 0 ∨ i = 1 := by omega
    rcases h01 with rfl | rfl
    · by_cases hkq : k < q
      · obtain ⟨b, off, rfl, hbl, hcell⟩ := HR.out.at_ hkq
        obtain ⟨c, hc⟩ : ∃ c, p.getD k 0 = c := ⟨_, rfl⟩
        rw [hc] at hcell HP
        have e1 := (HW.out.2.cell (p := ⟨b, off + k, none⟩) hbl).trans hcell
        have g1 : ¬ (q : Int) ≤ (k : Int) := by omega
        have g2 : (k : Int) < (q : Int) := by omega
        have hb0 : IntKind.i32.wrap (((({ data := #[44] } : ByteArray)[0]'(by decide)).toNat : Nat) : Int) = 44 := by rfl
        have gd : decide ((q : Int) ≤ (k : Int)) = false := by simpa using hkq
        have hw0 : IntKind.i64.wrap (k : Int) = (k : Int) := by rw [IntKind.wrap_i64]; omega
        clear hc hcell
        by_cases h42 : c = 44
        · subst h42
          have HT : Hid (pre [44] (p.drop k) = true) := by show _ = _; rw [HP.out]; simp [hkq]
          go_wp2_with fail
          go_quiet (fail)
          go_wp2_with fail
          go_roundw
          case rel => exact ⟨1, rfl, by omega, fun _ => HT.out, bdrewN HW.out.2 _⟩
          case measure => simp [intOf]
        · have g3 : (c == 44) = false := by simpa using h42
          have g4 : (c != 44) = true := by simpa using h42
          have HT : Hid (pre [44] (p.drop k) = false) := by show _ = _; rw [HP.out]; simp [hkq, h42]
          go_wp2_with fail
          go_quiet (fail)
          go_wp2
          go_ret
          exact ⟨by rw [HT.out]; rfl, bdrewN HW.out.2 _⟩
      · have g1 : (q : Int) ≤ (k : Int) := by omega
        have hw0 : IntKind.i64.wrap (k : Int) = (k : Int) := by rw [IntKind.wrap_i64]; omega
        have HT : Hid (pre [44] (p.drop k) = false) := by show _ = _; rw [HP.out]; simp [hkq]
        go_wp2_with fail
        go_quiet (fail)
        go_wp2
        go_ret
        exact ⟨by rw [HT.out]; rfl, bdrewN HW.out.2 _⟩
    · go_wp2
      go_ret
      exact ⟨by rw [HW.out.1 (by trivial)]; rfl, HW.out.2⟩
set_option maxHeartbeats 1000000 in
theorem is_123 (br : Nat) (p : List Int) (i n o er : Int) (k : Nat) (w : World) (h : RfS w br p i n o er) (hk : k ≤ 4000000) :
    Calls Try.prog 26 #[.pointer (some ⟨br, 0, none⟩), .int .i64 (k : Nat), .string ⟨#[92, 123]⟩] w fun e w' => e = .returned (.bool (pre [92, 123] (p.drop k))) ∧ Below w.heap.size w w' := by
  obtain ⟨a, cap, hg, hr, -⟩ := h
  have hsm := hr.small
  obtain ⟨q, hq⟩ : ∃ q, p.length = q := ⟨_, rfl⟩
  have HP := Lib.hid (pre1 92 p k)
  have HP2 := Lib.hid (pre1 123 p (k + 1))
  have HPP := Lib.hid (pre2 92 123 p k)
  rw [hq] at hg hr HP HP2 hsm
  have e0 : w.cell? ⟨br, 0, none⟩ = some (.slice a q cap) := by rw [cell_row hg]; rfl
  have HR := Lib.hid hr
  have hbr := heap_lt hg
  clear hr hg hq
  go_enter Try.func26, Try.ntmps26
  go_wp2_with fail
  go_loopw [7] (fun v7 wr => ∃ i : Nat, v7 = .int .i64 (i : Nat) ∧ i ≤ 2 ∧ Hid (((i = 1 → pre [92] (p.drop k) = true) ∧ (i = 2 → pre [92, 123] (p.drop k) = true)) ∧ Below w.heap.size w wr)) (fun v7 _ => 2 - (intOf v7).toNat)
  case atStart => exact ⟨0, rfl, by omega, ⟨fun h => by omega, fun h => by omega⟩, Below.refl _ _⟩
  case round =>
    obtain ⟨i, rfl, hi, HW⟩ := hrel
    have a0 := (HW.out.2.cell (p := ⟨br, 0, none⟩) hbr).trans e0
    have h01 : i = 0 ∨ i = 1 ∨ i = 2 := by omega
    rcases h01 with rfl | rfl | rfl
    · by_cases hkq : k < q
      · obtain ⟨b, off, rfl, hbl, hcell⟩ := HR.out.at_ hkq
        obtain ⟨c, hc⟩ : ∃ c, p.getD (k) 0 = c := ⟨_, rfl⟩
        rw [hc] at hcell HP
        have e1 := (HW.out.2.cell (p := ⟨b, off + (k), none⟩) hbl).trans hcell
        have g1 : ¬ (q : Int) ≤ (k : Int) := by omega
        have g2 : (k : Int) < (q : Int) := by omega
        have hb0 : IntKind.i32.wrap (((({ data := #[92, 123] } : ByteArray)[0]'(by decide)).toNat : Nat) : Int) = 92 := by rfl
        have gd : decide ((q : Int) ≤ (k : Int)) = false := by simp; omega
        have hw0 : IntKind.i64.wrap (k : Int) = (k : Int) := by rw [IntKind.wrap_i64]; omega
        clear hc hcell
        by_cases h42 : c = 92
        · subst h42
          have HT : Hid (pre [92] (p.drop k) = true) := by show _ = _; rw [HP.out]; simp [hkq]
          go_wp2_with fail
          go_quiet (fail)
          go_wp2_with fail
          go_roundw
          case rel => exact ⟨1, rfl, by omega, ⟨fun _ => HT.out, fun h => by omega⟩, bdrewN HW.out.2 _⟩
          case measure => simp [intOf]
        · have g3 : (c == 92) = false := by simpa using h42
          have g4 : (c != 92) = true := by simpa using h42
          have HT : Hid (pre [92, 123] (p.drop k) = false) := by show _ = _; rw [HPP.out, HP.out]; simp [hkq, h42]
          go_wp2_with fail
          go_quiet (fail)
          go_wp2
          go_ret
          exact ⟨by rw [HT.out]; rfl, bdrewN HW.out.2 _⟩
      · have g1 : (q : Int) ≤ (k : Int) := by omega
        have hw0 : IntKind.i64.wrap (k : Int) = (k : Int) := by rw [IntKind.wrap_i64]; omega
        have HT : Hid (pre [92, 123] (p.drop k) = false) := by show _ = _; rw [HPP.out, HP.out]; simp [hkq]
        go_wp2_with fail
        go_quiet (fail)
        go_wp2
        go_ret
        exact ⟨by rw [HT.out]; rfl, bdrewN HW.out.2 _⟩
    · by_cases hkq : k + 1 < q
      · obtain ⟨b, off, rfl, hbl, hcell⟩ := HR.out.at_ hkq
        obtain ⟨c, hc⟩ : ∃ c, p.getD (k + 1) 0 = c := ⟨_, rfl⟩
        rw [hc] at hcell HP2
        have e1 := (HW.out.2.cell (p := ⟨b, off + (k + 1), none⟩) hbl).trans hcell
        have g1 : ¬ (q : Int) ≤ ((k : Int) + 1) := by omega
        have g2 : ((k : Int) + 1) < (q : Int) := by omega
        have hb0 : IntKind.i32.wrap (((({ data := #[92, 123] } : ByteArray)[1]'(by decide)).toNat : Nat) : Int) = 123 := by rfl
        have gd : decide ((q : Int) ≤ ((k : Int) + 1)) = false := by simp; omega
        have hw0 : IntKind.i64.wrap ((k : Int) + 1) = ((k : Int) + 1) := by rw [IntKind.wrap_i64]; omega
        clear hc hcell
        by_cases h42 : c = 123
        · subst h42
          have HT : Hid (pre [92, 123] (p.drop k) = true) := by show _ = _; rw [HPP.out, HP2.out, HW.out.1.1 (by trivial)]; simp [hkq]
          go_wp2_with fail
          go_quiet (fail)
          go_wp2_with fail
          go_roundw
          case rel => exact ⟨2, rfl, by omega, ⟨fun h => by omega, fun _ => HT.out⟩, bdrewN HW.out.2 _⟩
          case measure => simp [intOf]
        · have g3 : (c == 123) = false := by simpa using h42
          have g4 : (c != 123) = true := by simpa using h42
          have HT : Hid (pre [92, 123] (p.drop k) = false) := by show _ = _; rw [HPP.out, HP2.out]; simp [hkq, h42]
          go_wp2_with fail
          go_quiet (fail)
          go_wp2
          go_ret
          exact ⟨by rw [HT.out]; rfl, bdrewN HW.out.2 _⟩
      · have g1 : (q : Int) ≤ ((k : Int) + 1) := by omega
        have hw0 : IntKind.i64.wrap ((k : Int) + 1) = ((k : Int) + 1) := by rw [IntKind.wrap_i64]; omega
        have HT : Hid (pre [92, 123] (p.drop k) = false) := by show _ = _; rw [HPP.out, HP2.out]; simp [hkq]
        go_wp2_with fail
        go_quiet (fail)
        go_wp2
        go_ret
        exact ⟨by rw [HT.out]; rfl, bdrewN HW.out.2 _⟩
    · go_wp2
      go_ret
      exact ⟨by rw [HW.out.1.2 (by trivial)]; rfl, HW.out.2⟩
set_option maxHeartbeats 1000000 in
theorem is_124 (br : Nat) (p : List Int) (i n o er : Int) (k : Nat) (w : World) (h : RfS w br p i n o er) (hk : k ≤ 4000000) :
    Calls Try.prog 26 #[.pointer (some ⟨br, 0, none⟩), .int .i64 (k : Nat), .string ⟨#[92, 124]⟩] w fun e w' => e = .returned (.bool (pre [92, 124] (p.drop k))) ∧ Below w.heap.size w w' := by
  obtain ⟨a, cap, hg, hr, -⟩ := h
  have hsm := hr.small
  obtain ⟨q, hq⟩ : ∃ q, p.length = q := ⟨_, rfl⟩
  have HP := Lib.hid (pre1 92 p k)
  have HP2 := Lib.hid (pre1 124 p (k + 1))
  have HPP := Lib.hid (pre2 92 124 p k)
  rw [hq] at hg hr HP HP2 hsm
  have e0 : w.cell? ⟨br, 0, none⟩ = some (.slice a q cap) := by rw [cell_row hg]; rfl
  have HR := Lib.hid hr
  have hbr := heap_lt hg
  clear hr hg hq
  go_enter Try.func26, Try.ntmps26
  go_wp2_with fail
  go_loopw [7] (fun v7 wr => ∃ i : Nat, v7 = .int .i64 (i : Nat) ∧ i ≤ 2 ∧ Hid (((i = 1 → pre [92] (p.drop k) = true) ∧ (i = 2 → pre [92, 124] (p.drop k) = true)) ∧ Below w.heap.size w wr)) (fun v7 _ => 2 - (intOf v7).toNat)
  case atStart => exact ⟨0, rfl, by omega, ⟨fun h => by omega, fun h => by omega⟩, Below.refl _ _⟩
  case round =>
    obtain ⟨i, rfl, hi, HW⟩ := hrel
    have a0 := (HW.out.2.cell (p := ⟨br, 0, none⟩) hbr).trans e0
    have h01 : i = 0 ∨ i = 1 ∨ i = 2 := by omega
    rcases h01 with rfl | rfl | rfl
    · by_cases hkq : k < q
      · obtain ⟨b, off, rfl, hbl, hcell⟩ := HR.out.at_ hkq
        obtain ⟨c, hc⟩ : ∃ c, p.getD (k) 0 = c := ⟨_, rfl⟩
        rw [hc] at hcell HP
        have e1 := (HW.out.2.cell (p := ⟨b, off + (k), none⟩) hbl).trans hcell
        have g1 : ¬ (q : Int) ≤ (k : Int) := by omega
        have g2 : (k : Int) < (q : Int) := by omega
        have hb0 : IntKind.i32.wrap (((({ data := #[92, 124] } : ByteArray)[0]'(by decide)).toNat : Nat) : Int) = 92 := by rfl
        have gd : decide ((q : Int) ≤ (k : Int)) = false := by simp; omega
        have hw0 : IntKind.i64.wrap (k : Int) = (k : Int) := by rw [IntKind.wrap_i64]; omega
        clear hc hcell
        by_cases h42 : c = 92
        · subst h42
          have HT : Hid (pre [92] (p.drop k) = true) := by show _ = _; rw [HP.out]; simp [hkq]
          go_wp2_with fail
          go_quiet (fail)
          go_wp2_with fail
          go_roundw
          case rel => exact ⟨1, rfl, by omega, ⟨fun _ => HT.out, fun h => by omega⟩, bdrewN HW.out.2 _⟩
          case measure => simp [intOf]
        · have g3 : (c == 92) = false := by simpa using h42
          have g4 : (c != 92) = true := by simpa using h42
          have HT : Hid (pre [92, 124] (p.drop k) = false) := by show _ = _; rw [HPP.out, HP.out]; simp [hkq, h42]
          go_wp2_with fail
          go_quiet (fail)
          go_wp2
          go_ret
          exact ⟨by rw [HT.out]; rfl, bdrewN HW.out.2 _⟩
      · have g1 : (q : Int) ≤ (k : Int) := by omega
        have hw0 : IntKind.i64.wrap (k : Int) = (k : Int) := by rw [IntKind.wrap_i64]; omega
        have HT : Hid (pre [92, 124] (p.drop k) = false) := by show _ = _; rw [HPP.out, HP.out]; simp [hkq]
        go_wp2_with fail
        go_quiet (fail)
        go_wp2
        go_ret
        exact ⟨by rw [HT.out]; rfl, bdrewN HW.out.2 _⟩
    · by_cases hkq : k + 1 < q
      · obtain ⟨b, off, rfl, hbl, hcell⟩ := HR.out.at_ hkq
        obtain ⟨c, hc⟩ : ∃ c, p.getD (k + 1) 0 = c := ⟨_, rfl⟩
        rw [hc] at hcell HP2
        have e1 := (HW.out.2.cell (p := ⟨b, off + (k + 1), none⟩) hbl).trans hcell
        have g1 : ¬ (q : Int) ≤ ((k : Int) + 1) := by omega
        have g2 : ((k : Int) + 1) < (q : Int) := by omega
        have hb0 : IntKind.i32.wrap (((({ data := #[92, 124] } : ByteArray)[1]'(by decide)).toNat : Nat) : Int) = 124 := by rfl
        have gd : decide ((q : Int) ≤ ((k : Int) + 1)) = false := by simp; omega
        have hw0 : IntKind.i64.wrap ((k : Int) + 1) = ((k : Int) + 1) := by rw [IntKind.wrap_i64]; omega
        clear hc hcell
        by_cases h42 : c = 124
        · subst h42
          have HT : Hid (pre [92, 124] (p.drop k) = true) := by show _ = _; rw [HPP.out, HP2.out, HW.out.1.1 (by trivial)]; simp [hkq]
          go_wp2_with fail
          go_quiet (fail)
          go_wp2_with fail
          go_roundw
          case rel => exact ⟨2, rfl, by omega, ⟨fun h => by omega, fun _ => HT.out⟩, bdrewN HW.out.2 _⟩
          case measure => simp [intOf]
        · have g3 : (c == 124) = false := by simpa using h42
          have g4 : (c != 124) = true := by simpa using h42
          have HT : Hid (pre [92, 124] (p.drop k) = false) := by show _ = _; rw [HPP.out, HP2.out]; simp [hkq, h42]
          go_wp2_with fail
          go_quiet (fail)
          go_wp2
          go_ret
          exact ⟨by rw [HT.out]; rfl, bdrewN HW.out.2 _⟩
      · have g1 : (q : Int) ≤ ((k : Int) + 1) := by omega
        have hw0 : IntKind.i64.wrap ((k : Int) + 1) = ((k : Int) + 1) := by rw [IntKind.wrap_i64]; omega
        have HT : Hid (pre [92, 124] (p.drop k) = false) := by show _ = _; rw [HPP.out, HP2.out]; simp [hkq]
        go_wp2_with fail
        go_quiet (fail)
        go_wp2
        go_ret
        exact ⟨by rw [HT.out]; rfl, bdrewN HW.out.2 _⟩
    · go_wp2
      go_ret
      exact ⟨by rw [HW.out.1.2 (by trivial)]; rfl, HW.out.2⟩
set_option maxHeartbeats 1000000 in
theorem is_41 (br : Nat) (p : List Int) (i n o er : Int) (k : Nat) (w : World) (h : RfS w br p i n o er) (hk : k ≤ 4000000) :
    Calls Try.prog 26 #[.pointer (some ⟨br, 0, none⟩), .int .i64 (k : Nat), .string ⟨#[92, 41]⟩] w fun e w' => e = .returned (.bool (pre [92, 41] (p.drop k))) ∧ Below w.heap.size w w' := by
  obtain ⟨a, cap, hg, hr, -⟩ := h
  have hsm := hr.small
  obtain ⟨q, hq⟩ : ∃ q, p.length = q := ⟨_, rfl⟩
  have HP := Lib.hid (pre1 92 p k)
  have HP2 := Lib.hid (pre1 41 p (k + 1))
  have HPP := Lib.hid (pre2 92 41 p k)
  rw [hq] at hg hr HP HP2 hsm
  have e0 : w.cell? ⟨br, 0, none⟩ = some (.slice a q cap) := by rw [cell_row hg]; rfl
  have HR := Lib.hid hr
  have hbr := heap_lt hg
  clear hr hg hq
  go_enter Try.func26, Try.ntmps26
  go_wp2_with fail
  go_loopw [7] (fun v7 wr => ∃ i : Nat, v7 = .int .i64 (i : Nat) ∧ i ≤ 2 ∧ Hid (((i = 1 → pre [92] (p.drop k) = true) ∧ (i = 2 → pre [92, 41] (p.drop k) = true)) ∧ Below w.heap.size w wr)) (fun v7 _ => 2 - (intOf v7).toNat)
  case atStart => exact ⟨0, rfl, by omega, ⟨fun h => by omega, fun h => by omega⟩, Below.refl _ _⟩
  case round =>
    obtain ⟨i, rfl, hi, HW⟩ := hrel
    have a0 := (HW.out.2.cell (p := ⟨br, 0, none⟩) hbr).trans e0
    have h01 : i = 0 ∨ i = 1 ∨ i = 2 := by omega
    rcases h01 with rfl | rfl | rfl
    · by_cases hkq : k < q
      · obtain ⟨b, off, rfl, hbl, hcell⟩ := HR.out.at_ hkq
        obtain ⟨c, hc⟩ : ∃ c, p.getD (k) 0 = c := ⟨_, rfl⟩
        rw [hc] at hcell HP
        have e1 := (HW.out.2.cell (p := ⟨b, off + (k), none⟩) hbl).trans hcell
        have g1 : ¬ (q : Int) ≤ (k : Int) := by omega
        have g2 : (k : Int) < (q : Int) := by omega
        have hb0 : IntKind.i32.wrap (((({ data := #[92, 41] } : ByteArray)[0]'(by decide)).toNat : Nat) : Int) = 92 := by rfl
        have gd : decide ((q : Int) ≤ (k : Int)) = false := by simp; omega
        have hw0 : IntKind.i64.wrap (k : Int) = (k : Int) := by rw [IntKind.wrap_i64]; omega
        clear hc hcell
        by_cases h42 : c = 92
        · subst h42
          have HT : Hid (pre [92] (p.drop k) = true) := by show _ = _; rw [HP.out]; simp [hkq]
          go_wp2_with fail
          go_quiet (fail)
          go_wp2_with fail
          go_roundw
          case rel => exact ⟨1, rfl, by omega, ⟨fun _ => HT.out, fun h => by omega⟩, bdrewN HW.out.2 _⟩
          case measure => simp [intOf]
        · have g3 : (c == 92) = false := by simpa using h42
          have g4 : (c != 92) = true := by simpa using h42
          have HT : Hid (pre [92, 41] (p.drop k) = false) := by show _ = _; rw [HPP.out, HP.out]; simp [hkq, h42]
          go_wp2_with fail
          go_quiet (fail)
          go_wp2
          go_ret
          exact ⟨by rw [HT.out]; rfl, bdrewN HW.out.2 _⟩
      · have g1 : (q : Int) ≤ (k : Int) := by omega
        have hw0 : IntKind.i64.wrap (k : Int) = (k : Int) := by rw [IntKind.wrap_i64]; omega
        have HT : Hid (pre [92, 41] (p.drop k) = false) := by show _ = _; rw [HPP.out, HP.out]; simp [hkq]
        go_wp2_with fail
        go_quiet (fail)
        go_wp2
        go_ret
        exact ⟨by rw [HT.out]; rfl, bdrewN HW.out.2 _⟩
    · by_cases hkq : k + 1 < q
      · obtain ⟨b, off, rfl, hbl, hcell⟩ := HR.out.at_ hkq
        obtain ⟨c, hc⟩ : ∃ c, p.getD (k + 1) 0 = c := ⟨_, rfl⟩
        rw [hc] at hcell HP2
        have e1 := (HW.out.2.cell (p := ⟨b, off + (k + 1), none⟩) hbl).trans hcell
        have g1 : ¬ (q : Int) ≤ ((k : Int) + 1) := by omega
        have g2 : ((k : Int) + 1) < (q : Int) := by omega
        have hb0 : IntKind.i32.wrap (((({ data := #[92, 41] } : ByteArray)[1]'(by decide)).toNat : Nat) : Int) = 41 := by rfl
        have gd : decide ((q : Int) ≤ ((k : Int) + 1)) = false := by simp; omega
        have hw0 : IntKind.i64.wrap ((k : Int) + 1) = ((k : Int) + 1) := by rw [IntKind.wrap_i64]; omega
        clear hc hcell
        by_cases h42 : c = 41
        · subst h42
          have HT : Hid (pre [92, 41] (p.drop k) = true) := by show _ = _; rw [HPP.out, HP2.out, HW.out.1.1 (by trivial)]; simp [hkq]
          go_wp2_with fail
          go_quiet (fail)
          go_wp2_with fail
          go_roundw
          case rel => exact ⟨2, rfl, by omega, ⟨fun h => by omega, fun _ => HT.out⟩, bdrewN HW.out.2 _⟩
          case measure => simp [intOf]
        · have g3 : (c == 41) = false := by simpa using h42
          have g4 : (c != 41) = true := by simpa using h42
          have HT : Hid (pre [92, 41] (p.drop k) = false) := by show _ = _; rw [HPP.out, HP2.out]; simp [hkq, h42]
          go_wp2_with fail
          go_quiet (fail)
          go_wp2
          go_ret
          exact ⟨by rw [HT.out]; rfl, bdrewN HW.out.2 _⟩
      · have g1 : (q : Int) ≤ ((k : Int) + 1) := by omega
        have hw0 : IntKind.i64.wrap ((k : Int) + 1) = ((k : Int) + 1) := by rw [IntKind.wrap_i64]; omega
        have HT : Hid (pre [92, 41] (p.drop k) = false) := by show _ = _; rw [HPP.out, HP2.out]; simp [hkq]
        go_wp2_with fail
        go_quiet (fail)
        go_wp2
        go_ret
        exact ⟨by rw [HT.out]; rfl, bdrewN HW.out.2 _⟩
    · go_wp2
      go_ret
      exact ⟨by rw [HW.out.1.2 (by trivial)]; rfl, HW.out.2⟩
set_option maxHeartbeats 1000000 in
theorem is_125 (br : Nat) (p : List Int) (i n o er : Int) (k : Nat) (w : World) (h : RfS w br p i n o er) (hk : k ≤ 4000000) :
    Calls Try.prog 26 #[.pointer (some ⟨br, 0, none⟩), .int .i64 (k : Nat), .string ⟨#[92, 125]⟩] w fun e w' => e = .returned (.bool (pre [92, 125] (p.drop k))) ∧ Below w.heap.size w w' := by
  obtain ⟨a, cap, hg, hr, -⟩ := h
  have hsm := hr.small
  obtain ⟨q, hq⟩ : ∃ q, p.length = q := ⟨_, rfl⟩
  have HP := Lib.hid (pre1 92 p k)
  have HP2 := Lib.hid (pre1 125 p (k + 1))
  have HPP := Lib.hid (pre2 92 125 p k)
  rw [hq] at hg hr HP HP2 hsm
  have e0 : w.cell? ⟨br, 0, none⟩ = some (.slice a q cap) := by rw [cell_row hg]; rfl
  have HR := Lib.hid hr
  have hbr := heap_lt hg
  clear hr hg hq
  go_enter Try.func26, Try.ntmps26
  go_wp2_with fail
  go_loopw [7] (fun v7 wr => ∃ i : Nat, v7 = .int .i64 (i : Nat) ∧ i ≤ 2 ∧ Hid (((i = 1 → pre [92] (p.drop k) = true) ∧ (i = 2 → pre [92, 125] (p.drop k) = true)) ∧ Below w.heap.size w wr)) (fun v7 _ => 2 - (intOf v7).toNat)
  case atStart => exact ⟨0, rfl, by omega, ⟨fun h => by omega, fun h => by omega⟩, Below.refl _ _⟩
  case round =>
    obtain ⟨i, rfl, hi, HW⟩ := hrel
    have a0 := (HW.out.2.cell (p := ⟨br, 0, none⟩) hbr).trans e0
    have h01 : i = 0 ∨ i = 1 ∨ i = 2 := by omega
    rcases h01 with rfl | rfl | rfl
    · by_cases hkq : k < q
      · obtain ⟨b, off, rfl, hbl, hcell⟩ := HR.out.at_ hkq
        obtain ⟨c, hc⟩ : ∃ c, p.getD (k) 0 = c := ⟨_, rfl⟩
        rw [hc] at hcell HP
        have e1 := (HW.out.2.cell (p := ⟨b, off + (k), none⟩) hbl).trans hcell
        have g1 : ¬ (q : Int) ≤ (k : Int) := by omega
        have g2 : (k : Int) < (q : Int) := by omega
        have hb0 : IntKind.i32.wrap (((({ data := #[92, 125] } : ByteArray)[0]'(by decide)).toNat : Nat) : Int) = 92 := by rfl
        have gd : decide ((q : Int) ≤ (k : Int)) = false := by simp; omega
        have hw0 : IntKind.i64.wrap (k : Int) = (k : Int) := by rw [IntKind.wrap_i64]; omega
        clear hc hcell
        by_cases h42 : c = 92
        · subst h42
          have HT : Hid (pre [92] (p.drop k) = true) := by show _ = _; rw [HP.out]; simp [hkq]
          go_wp2_with fail
          go_quiet (fail)
          go_wp2_with fail
          go_roundw
          case rel => exact ⟨1, rfl, by omega, ⟨fun _ => HT.out, fun h => by omega⟩, bdrewN HW.out.2 _⟩
          case measure => simp [intOf]
        · have g3 : (c == 92) = false := by simpa using h42
          have g4 : (c != 92) = true := by simpa using h42
          have HT : Hid (pre [92, 125] (p.drop k) = false) := by show _ = _; rw [HPP.out, HP.out]; simp [hkq, h42]
          go_wp2_with fail
          go_quiet (fail)
          go_wp2
          go_ret
          exact ⟨by rw [HT.out]; rfl, bdrewN HW.out.2 _⟩
      · have g1 : (q : Int) ≤ (k : Int) := by omega
        have hw0 : IntKind.i64.wrap (k : Int) = (k : Int) := by rw [IntKind.wrap_i64]; omega
        have HT : Hid (pre [92, 125] (p.drop k) = false) := by show _ = _; rw [HPP.out, HP.out]; simp [hkq]
        go_wp2_with fail
        go_quiet (fail)
        go_wp2
        go_ret
        exact ⟨by rw [HT.out]; rfl, bdrewN HW.out.2 _⟩
    · by_cases hkq : k + 1 < q
      · obtain ⟨b, off, rfl, hbl, hcell⟩ := HR.out.at_ hkq
        obtain ⟨c, hc⟩ : ∃ c, p.getD (k + 1) 0 = c := ⟨_, rfl⟩
        rw [hc] at hcell HP2
        have e1 := (HW.out.2.cell (p := ⟨b, off + (k + 1), none⟩) hbl).trans hcell
        have g1 : ¬ (q : Int) ≤ ((k : Int) + 1) := by omega
        have g2 : ((k : Int) + 1) < (q : Int) := by omega
        have hb0 : IntKind.i32.wrap (((({ data := #[92, 125] } : ByteArray)[1]'(by decide)).toNat : Nat) : Int) = 125 := by rfl
        have gd : decide ((q : Int) ≤ ((k : Int) + 1)) = false := by simp; omega
        have hw0 : IntKind.i64.wrap ((k : Int) + 1) = ((k : Int) + 1) := by rw [IntKind.wrap_i64]; omega
        clear hc hcell
        by_cases h42 : c = 125
        · subst h42
          have HT : Hid (pre [92, 125] (p.drop k) = true) := by show _ = _; rw [HPP.out, HP2.out, HW.out.1.1 (by trivial)]; simp [hkq]
          go_wp2_with fail
          go_quiet (fail)
          go_wp2_with fail
          go_roundw
          case rel => exact ⟨2, rfl, by omega, ⟨fun h => by omega, fun _ => HT.out⟩, bdrewN HW.out.2 _⟩
          case measure => simp [intOf]
        · have g3 : (c == 125) = false := by simpa using h42
          have g4 : (c != 125) = true := by simpa using h42
          have HT : Hid (pre [92, 125] (p.drop k) = false) := by show _ = _; rw [HPP.out, HP2.out]; simp [hkq, h42]
          go_wp2_with fail
          go_quiet (fail)
          go_wp2
          go_ret
          exact ⟨by rw [HT.out]; rfl, bdrewN HW.out.2 _⟩
      · have g1 : (q : Int) ≤ ((k : Int) + 1) := by omega
        have hw0 : IntKind.i64.wrap ((k : Int) + 1) = ((k : Int) + 1) := by rw [IntKind.wrap_i64]; omega
        have HT : Hid (pre [92, 125] (p.drop k) = false) := by show _ = _; rw [HPP.out, HP2.out]; simp [hkq]
        go_wp2_with fail
        go_quiet (fail)
        go_wp2
        go_ret
        exact ⟨by rw [HT.out]; rfl, bdrewN HW.out.2 _⟩
    · go_wp2
      go_ret
      exact ⟨by rw [HW.out.1.2 (by trivial)]; rfl, HW.out.2⟩
end Go.Proofs.Ytkjiobbkbhmijaa.U
