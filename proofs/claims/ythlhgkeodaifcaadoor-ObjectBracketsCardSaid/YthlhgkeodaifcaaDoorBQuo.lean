/-
  The document's quotes.
-/
import Derived.Test.YthlhgkeodaifcaaDoorBBase
import Derived.Test.YthlhgkeodaifcaaDoorBLaw
namespace Go.Proofs.YthlhgkeodaifcaaDoor.U
open Go.RowKit
set_option linter.unusedVariables false
set_option linter.unusedSimpArgs false
set_option maxRecDepth 100000

def qfilt (x : List Int) (key : Int) (i : Nat) : List Nat := (List.range' i (x.length - i)).filter fun k => x.getD k 0 == key
theorem qfilt_all (x : List Int) (key : Int) : qfilt x key 0 = (List.range x.length).filter fun i => x.getD i 0 == key := by
  unfold qfilt
  rw [Nat.sub_zero, ← List.range_eq_range']
theorem qfilt_step {x : List Int} {key : Int} {i : Nat} (hi : i < x.length) : qfilt x key i = if x.getD i 0 = key then i :: qfilt x key (i + 1) else qfilt x key (i + 1) := by
  unfold qfilt
  rw [show x.length - i = (x.length - (i + 1)) + 1 by omega, List.range'_succ]
  by_cases h : x.getD i 0 = key
  · rw [if_pos h, List.filter_cons_of_pos (by simpa using h)]
  · rw [if_neg h, List.filter_cons_of_neg (by simpa using h)]
theorem qfilt_end {x : List Int} {key : Int} {i : Nat} (hi : x.length ≤ i) : qfilt x key i = [] := by
  unfold qfilt
  rw [show x.length - i = 0 by omega]
  rfl
def pendQ : Option Nat → List Nat
  | none => []
  | some k => [k]
def pendI : Option Nat → Int
  | none => -1
  | some k => (k : Int)
/-- what quotes tells -/
def quoV (r : Option (Nat × Nat)) (around : Bool) : Value := match r with
  | none => .tuple #[.int .i64 0, .int .i64 0, .bool false]
  | some (a, b) => if around = true then .tuple #[.int .i64 (a : Nat), .int .i64 (b : Nat), .bool true] else .tuple #[.int .i64 ((a : Nat) + 1), .int .i64 ((b : Nat) - 1), .bool (decide (a + 1 < b))]
set_option maxHeartbeats 2000000 in
theorem rquotes_any (a : Option Addr) (m c : Nat) (x : List Int) (col : Nat) (key : Int) (around : Bool) (w : World) (h : Rd .i32 w a m c x) :
    Calls Tryd.prog 21 #[.slice a m c, .int .i64 (col : Nat), .int .i32 key, .bool around] w fun e w' => e = .returned (quoV (quoP col ((List.range x.length).filter fun i => x.getD i 0 == key)) around) ∧ w = w' := by
  have hms := h.small
  have hml := h.len
  rw [← qfilt_all]
  obtain ⟨res, hres⟩ : ∃ r, quoP col (qfilt x key 0) = r := ⟨_, rfl⟩
  rw [hres]
  have HRES := Lib.hid hres
  have HRD := Lib.hid h
  have HM := Lib.hid hml
  clear hres h hml
  go_enter Tryd.func21, Tryd.ntmps21
  go_wp2_with fail
  go_loopw [11, 12] (fun v11 v12 wr => ∃ (f : Option Nat) (i : Nat), v11 = .int .i64 (pendI f) ∧ v12 = .int .i64 (i : Nat) ∧ i ≤ m ∧ Hid (∀ k, f = some k → k < i) ∧ wr = w ∧ Hid (quoP col (pendQ f ++ qfilt x key i) = res)) (fun _ v12 _ => m - (intOf v12).toNat)
  case atStart => exact ⟨none, 0, rfl, rfl, Nat.zero_le _, Lib.hid (fun k h => by cases h), rfl, HRES.out⟩
  case round =>
    obtain ⟨f, i, rfl, rfl, him, HF, rfl, HQ⟩ := hrel
    by_cases hi : i < m
    · obtain ⟨rb, ro, rfl, hrb, c0⟩ := HRD.out.at_ (i := i) hi
      obtain ⟨rr, hrr⟩ : ∃ r, x.getD i 0 = r := ⟨_, rfl⟩
      have hq := HQ.out
      rw [qfilt_step (by rw [HM.out]; exact hi), hrr] at hq
      rw [hrr] at c0
      have d0 : (i : Int) < (m : Int) := by omega
      have d1 : decide ((i : Int) < (m : Int)) = true := by simp; omega
      have d2 : ¬ (i : Int) < 0 := by omega
      have d3 : decide ((i : Int) < 0) = false := by simp
      have HI := Lib.hid hi
      clear hrr hi
      by_cases hr : rr = key
      · rw [if_pos hr] at hq
        rw [hr] at c0
        cases f with
        | none =>
          have HQ2 : Hid (quoP col (pendQ (some i) ++ qfilt x key (i + 1)) = res) := hq
          simp only [pendI]
          clear hq hr
          go_wp2_with fail
          go_roundw
          case rel => exact ⟨some i, i + 1, rfl, by go_num, by have := HI.out; omega, Lib.hid (fun k h => by cases h; omega), by first | rfl | trivial, HQ2.out⟩
          case measure => have := HI.out; simp [intOf]; omega
        | some k =>
          have hki := HF.out k rfl
          have hq2 : quoP col (k :: i :: qfilt x key (i + 1)) = res := hq
          rw [quoP] at hq2
          simp only [pendI]
          have e0 : ¬ (k : Int) < 0 := by omega
          have e1 : decide ((k : Int) < 0) = false := by simp
          have e8 : IntKind.i64.wrap ((k : Int) + 1) = (k : Int) + 1 := by rw [IntKind.wrap_i64]; omega
          by_cases hc : col ≤ i
          · rw [if_pos hc] at hq2
            have e2 : (col : Int) ≤ (i : Int) := by omega
            have e3 : decide ((col : Int) ≤ (i : Int)) = true := by simp; omega
            have e4 : decide (col ≤ i) = true := by simp; omega
            have HR2 : Hid (res = some (k, i)) := hq2.symm
            obtain ⟨b, hb⟩ : ∃ b, decide (k + 1 < i) = b := ⟨_, rfl⟩
            have e5 : decide ((k : Int) + 1 < (i : Int)) = b := by rw [← hb]; by_cases g : k + 1 < i <;> simp [g] <;> omega
            have HB := Lib.hid hb
            clear hq hq2 hr hki hb
            cases around with
            | true =>
              go_wp2_with fail
              go_ret3
              exact ⟨by rw [HR2.out]; rfl, rfl⟩
            | false =>
              go_wp2_with fail
              go_ret3
              exact ⟨by rw [HR2.out, ← HB.out]; rfl, rfl⟩
          · rw [if_neg hc] at hq2
            have e2 : ¬ (col : Int) ≤ (i : Int) := by omega
            have e3 : decide ((col : Int) ≤ (i : Int)) = false := by simp; omega
            have e4 : decide (col ≤ i) = false := by simp; omega
            have HQ2 : Hid (quoP col (pendQ none ++ qfilt x key (i + 1)) = res) := hq2
            clear hq hq2 hr hki
            go_wp2_with fail
            go_roundw
            case rel => exact ⟨none, i + 1, rfl, by go_num, by have := HI.out; omega, Lib.hid (fun k h => by cases h), by first | rfl | trivial, HQ2.out⟩
            case measure => have := HI.out; simp [intOf]; omega
      · rw [if_neg hr] at hq
        have e0 : (rr != key) = true := by simp [hr]
        have HQ2 := Lib.hid hq
        clear hq hr
        go_wp2_with fail
        go_roundw
        case rel => exact ⟨f, i + 1, rfl, by go_num, by have := HI.out; omega, Lib.hid (fun k h => Nat.lt_succ_of_lt (HF.out k h)), by first | rfl | trivial, HQ2.out⟩
        case measure => have := HI.out; simp [intOf]; omega
    · have hq := HQ.out
      rw [qfilt_end (by rw [HM.out]; omega), List.append_nil] at hq
      have HR2 : Hid (res = none) := by
        show _ = _
        rw [← hq]
        cases f <;> rfl
      have d0 : ¬ (i : Int) < (m : Int) := by omega
      have d1 : decide ((i : Int) < (m : Int)) = false := by simp; omega
      clear hq
      go_wp2_with fail
      go_ret3
      exact ⟨by rw [HR2.out]; rfl, rfl⟩
end Go.Proofs.YthlhgkeodaifcaaDoor.U
