/-
  Quote: the program's and the document's.
-/
import Derived.Test.YtkjiobbkbhmijaaRPatQ
namespace Go.Proofs.Ytkjiobbkbhmijaa.U
open Go.RowKit
set_option linter.unusedVariables false
set_option linter.unusedSimpArgs false
set_option maxRecDepth 100000

/-- append one rune that has just been laid -/
theorem OwR.appQ {w : World} {B : Nat} {a : Option Addr} {n c : Nat} {xs : List Int} (h : OwR w B a n c xs) (hB : B ≤ w.heap.size) (y : Int) (hw : (Lit.int .i32 y).wf = true) (hb : n ≤ 10000000) :
    ∃ a' c' w', Hid (∀ ty, (Builtin.append_ #[22, 22] ty #[.slice a n c, .slice (some ⟨w.heap.size, 0, none⟩) 1 1]).run Try.prog (w.alloc (.cells #[.int .i32 y] 21)) = .ok (.slice a' (n + 1) c') w') ∧ Hid (OwR w' B a' (n + 1) c' (xs ++ [y]) ∧ Below B w w') := by
  have hb0 := bal w (.cells #[.int .i32 y] 21)
  have hr := rd1 w y hw
  obtain ⟨a', c', w', hrun, hown, hbl⟩ := app_rd (w.alloc (.cells #[.int .i32 y] 21)) B (.slice a n c) n xs _ 1 1 [y] (h.below hb0).2.1 (by simp; omega) hr (by omega)
  refine ⟨a', c', w', hrun, ⟨by rw [List.length_append, h.1]; rfl, hown, fun x hx => ?_⟩, (hb0.mono hB).trans hbl⟩
  rcases List.mem_append.1 hx with hx | hx
  · exact h.2.2 x hx
  · simp at hx; subst hx; exact hw
set_option maxHeartbeats 2000000 in
theorem quote_any (a : Option Addr) (len cap : Nat) (l : List Int) (w : World) (hr : Rd .i32 w a len cap l) (hl : len ≤ 1048576) :
    Calls Try.prog 15 #[.slice a len cap] w fun e w' => ∃ a' n' c', e = .returned (.slice a' n' c') ∧ Hid (OwR w' w.heap.size a' n' c' (quote l) ∧ Below w.heap.size w w') := by
  have hsm := hr.small
  have hlen := hr.1
  have HR := Lib.hid hr
  have HL := Lib.hid hlen
  clear hr hlen
  go_enter Try.func15, Try.ntmps15
  go_wp2_with fail
  go_loopw [3, 8] (fun v3 v8 wr => ∃ (i : Nat) (a' : Option Addr) (n' c' : Nat), v3 = .slice a' n' c' ∧ v8 = .int .i64 (i : Nat) ∧ i ≤ len ∧ n' ≤ 2 * i ∧ Hid (OwR wr w.heap.size a' n' c' (quote (l.take i)) ∧ Below w.heap.size w wr)) (fun _ v8 _ => len - (intOf v8).toNat)
  case atStart => exact ⟨0, none, 0, 0, rfl, rfl, by omega, by omega, ⟨rfl, World.ownsRow_nil _ _ _ _, fun x hx => by simp [quote] at hx⟩, Below.refl _ _⟩
  case round =>
    obtain ⟨i, a', n', c', rfl, rfl, hi, hn', HW⟩ := hrel
    by_cases hlt : i < len
    · obtain ⟨b, off, rfl, hbl, hcell⟩ := HR.out.at_ hlt
      obtain ⟨c, hc⟩ : ∃ c, l.getD i 0 = c := ⟨_, rfl⟩
      rw [hc] at hcell
      have e1 := (HW.out.2.cell (p := ⟨b, off + i, none⟩) hbl).trans hcell
      have hcw : (Lit.int .i32 c).wf = true := by
        rw [← hc]
        exact HR.out.2.2.2.1 _ (getD_mem (by have := HL.out; omega))
      have htk : l.take (i + 1) = l.take i ++ [c] := by
        have h1 : i < l.length := by have := HL.out; omega
        rw [List.take_succ_eq_append_getElem h1]
        congr 2
        rw [← hc, List.getD_eq_getElem?_getD, List.getElem?_eq_getElem h1]; rfl
      have HTK := Lib.hid htk
      have HCW := Lib.hid hcw
      have hgi : (i : Int) < (len : Int) := by omega
      clear hcell hc htk hcw
      by_cases hs : special c = true
      · have HQ : Hid (quote (l.take (i + 1)) = quote (l.take i) ++ [92] ++ [c]) := by
          show _ = _
          rw [HTK.out, quote_append]
          simp [quote, hs, List.append_assoc]
        obtain ⟨a4, c4, w4, HR4, H4⟩ := HW.out.1.appQ HW.out.2.size 92 (by decide) (by omega)
        obtain ⟨a5, c5, w5, HR5, H5⟩ := H4.out.1.appQ (Nat.le_trans HW.out.2.size H4.out.2.size) c HCW.out (by omega)
        have HE : Hid (OwR w5 w.heap.size a5 (n' + 1 + 1) c5 (quote (l.take (i + 1))) ∧ Below w.heap.size w w5) := by
          have h := H5.out.1
          rw [← HQ.out] at h
          exact ⟨h, (HW.out.2.trans H4.out.2).trans H5.out.2⟩
        have e2 := (H4.out.2.cell (p := ⟨b, off + i, none⟩) hbl).trans e1
        rw [special_iff] at hs
        clear H4 H5
        rcases hs with rfl | rfl | rfl | rfl | rfl | rfl
        all_goals
          go_wp2_with (first
            | (at_builtin; with_reducible refine Lib.wpList_append_run _ rfl (.tmp 20) (.tmp 21) _ _ rfl _ _ rfl rfl _ _ (HR4.out _) ?_)
            | (at_builtin; with_reducible refine Lib.wpList_append_run _ rfl (.tmp 23) (.tmp 25) _ _ rfl _ _ rfl rfl _ _ (HR5.out _) ?_))
          go_roundw
          case rel => exact ⟨i + 1, a5, n' + 1 + 1, c5, rfl, by go_num, by omega, by omega, HE.out⟩
          case measure => simp [intOf]; omega
      · have HQ : Hid (quote (l.take (i + 1)) = quote (l.take i) ++ [c]) := by
          show _ = _
          rw [HTK.out, quote_append]
          simp [quote, hs]
        obtain ⟨a5, c5, w5, HR5, H5⟩ := HW.out.1.appQ HW.out.2.size c HCW.out (by omega)
        have HE : Hid (OwR w5 w.heap.size a5 (n' + 1) c5 (quote (l.take (i + 1))) ∧ Below w.heap.size w w5) := by
          have h := H5.out.1
          rw [← HQ.out] at h
          exact ⟨h, HW.out.2.trans H5.out.2⟩
        rw [special_iff] at hs
        have t1 : (c == 92) = false := by simp; omega
        have t2 : (c == 46) = false := by simp; omega
        have t3 : (c == 91) = false := by simp; omega
        have t4 : (c == 42) = false := by simp; omega
        have t5 : (c == 94) = false := by simp; omega
        have t6 : (c == 36) = false := by simp; omega
        clear hs H5
        go_wp2_with (at_builtin; with_reducible refine Lib.wpList_append_run _ rfl (.tmp 23) (.tmp 25) _ _ rfl _ _ rfl rfl _ _ (HR5.out _) ?_)
        go_roundw
        case rel => exact ⟨i + 1, a5, n' + 1, c5, rfl, by go_num, by omega, by omega, HE.out⟩
        case measure => simp [intOf]; omega
    · obtain rfl : i = len := by omega
      have HE : Hid (OwR wr w.heap.size a' n' c' (quote l) ∧ Below w.heap.size w wr) := by
        have h := HW.out
        rw [List.take_of_length_le (by have := HL.out; omega)] at h
        exact h
      go_wp2
      go_ret
      exact ⟨_, _, _, rfl, HE⟩
set_option maxHeartbeats 2000000 in
theorem rquote_any (a : Option Addr) (len cap : Nat) (l : List Int) (w : World) (hr : Rd .i32 w a len cap l) (hl : len ≤ 1048576) :
    Calls Try.prog 16 #[.slice a len cap] w fun e w' => ∃ a' n' c', e = .returned (.slice a' n' c') ∧ Hid (OwR w' w.heap.size a' n' c' (quote l) ∧ Below w.heap.size w w') := by
  have hsm := hr.small
  have hlen := hr.1
  have HR := Lib.hid hr
  have HL := Lib.hid hlen
  clear hr hlen
  go_enter Try.func16, Try.ntmps16
  go_wp2_with fail
  go_loopw [3, 4] (fun v3 v8 wr => ∃ (i : Nat) (a' : Option Addr) (n' c' : Nat), v3 = .slice a' n' c' ∧ v8 = .int .i64 (i : Nat) ∧ i ≤ len ∧ n' ≤ 2 * i ∧ Hid (OwR wr w.heap.size a' n' c' (quote (l.take i)) ∧ Below w.heap.size w wr)) (fun _ v8 _ => len - (intOf v8).toNat)
  case atStart => exact ⟨0, none, 0, 0, rfl, rfl, by omega, by omega, ⟨rfl, World.ownsRow_nil _ _ _ _, fun x hx => by simp [quote] at hx⟩, Below.refl _ _⟩
  case round =>
    obtain ⟨i, a', n', c', rfl, rfl, hi, hn', HW⟩ := hrel
    by_cases hlt : i < len
    · obtain ⟨b, off, rfl, hbl, hcell⟩ := HR.out.at_ hlt
      obtain ⟨c, hc⟩ : ∃ c, l.getD i 0 = c := ⟨_, rfl⟩
      rw [hc] at hcell
      have e1 := (HW.out.2.cell (p := ⟨b, off + i, none⟩) hbl).trans hcell
      have hcw : (Lit.int .i32 c).wf = true := by
        rw [← hc]
        exact HR.out.2.2.2.1 _ (getD_mem (by have := HL.out; omega))
      have htk : l.take (i + 1) = l.take i ++ [c] := by
        have h1 : i < l.length := by have := HL.out; omega
        rw [List.take_succ_eq_append_getElem h1]
        congr 2
        rw [← hc, List.getD_eq_getElem?_getD, List.getElem?_eq_getElem h1]; rfl
      have HTK := Lib.hid htk
      have HCW := Lib.hid hcw
      have hgi : (i : Int) < (len : Int) := by omega
      clear hcell hc htk hcw
      by_cases hs : special c = true
      · have HQ : Hid (quote (l.take (i + 1)) = quote (l.take i) ++ [92] ++ [c]) := by
          show _ = _
          rw [HTK.out, quote_append]
          simp [quote, hs, List.append_assoc]
        obtain ⟨a4, c4, w4, HR4, H4⟩ := HW.out.1.appQ HW.out.2.size 92 (by decide) (by omega)
        obtain ⟨a5, c5, w5, HR5, H5⟩ := H4.out.1.appQ (Nat.le_trans HW.out.2.size H4.out.2.size) c HCW.out (by omega)
        have HE : Hid (OwR w5 w.heap.size a5 (n' + 1 + 1) c5 (quote (l.take (i + 1))) ∧ Below w.heap.size w w5) := by
          have h := H5.out.1
          rw [← HQ.out] at h
          exact ⟨h, (HW.out.2.trans H4.out.2).trans H5.out.2⟩
        have e2 := (H4.out.2.cell (p := ⟨b, off + i, none⟩) hbl).trans e1
        rw [special_iff] at hs
        clear H4 H5
        rcases hs with rfl | rfl | rfl | rfl | rfl | rfl
        all_goals
          go_wp2_with (first
            | (at_builtin; with_reducible refine Lib.wpList_append_run _ rfl (.tmp 22) (.tmp 23) _ _ rfl _ _ rfl rfl _ _ (HR4.out _) ?_)
            | (at_builtin; with_reducible refine Lib.wpList_append_run _ rfl (.tmp 25) (.tmp 30) _ _ rfl _ _ rfl rfl _ _ (HR5.out _) ?_))
          go_roundw
          case rel => exact ⟨i + 1, a5, n' + 1 + 1, c5, rfl, by go_num, by omega, by omega, HE.out⟩
          case measure => simp [intOf]; omega
      · have HQ : Hid (quote (l.take (i + 1)) = quote (l.take i) ++ [c]) := by
          show _ = _
          rw [HTK.out, quote_append]
          simp [quote, hs]
        obtain ⟨a5, c5, w5, HR5, H5⟩ := HW.out.1.appQ HW.out.2.size c HCW.out (by omega)
        have HE : Hid (OwR w5 w.heap.size a5 (n' + 1) c5 (quote (l.take (i + 1))) ∧ Below w.heap.size w w5) := by
          have h := H5.out.1
          rw [← HQ.out] at h
          exact ⟨h, HW.out.2.trans H5.out.2⟩
        rw [special_iff] at hs
        have t1 : (c == 92) = false := by simp; omega
        have t2 : (c == 46) = false := by simp; omega
        have t3 : (c == 91) = false := by simp; omega
        have t4 : (c == 42) = false := by simp; omega
        have t5 : (c == 94) = false := by simp; omega
        have t6 : (c == 36) = false := by simp; omega
        clear hs H5
        go_wp2_with (at_builtin; with_reducible refine Lib.wpList_append_run _ rfl (.tmp 25) (.tmp 30) _ _ rfl _ _ rfl rfl _ _ (HR5.out _) ?_)
        go_roundw
        case rel => exact ⟨i + 1, a5, n' + 1, c5, rfl, by go_num, by omega, by omega, HE.out⟩
        case measure => simp [intOf]; omega
    · obtain rfl : i = len := by omega
      have HE : Hid (OwR wr w.heap.size a' n' c' (quote l) ∧ Below w.heap.size w wr) := by
        have h := HW.out
        rw [List.take_of_length_le (by have := HL.out; omega)] at h
        exact h
      go_wp2
      go_ret
      exact ⟨_, _, _, rfl, HE⟩
end Go.Proofs.Ytkjiobbkbhmijaa.U
