/-
  A row of runes that is sorted in place: what it holds, one exchange; cmp.Less; insertion.
-/
import Derived.Test.YtbgbhlnidabhnaaMArg
import Derived.Sort.AssemblyPlain
import Derived.Sort.LotD1
import Derived.RegionTactic
import Derived.ChangeAlike
import Derived.Deep.QuietTactic
import Derived.BigQuiet
import Derived.BigRegion
namespace Go.Proofs.Ytbgbhlnidabhnaa.U
open Go.RowKit
set_option linter.unusedVariables false
set_option linter.unusedSimpArgs false
set_option maxRecDepth 100000

/-- block g is a row of cap runes, the first ones are d -/
def RowS (w : World) (g cap : Nat) (d : Array Int) : Prop := ∃ rest : List Value, w.heap[g]? = some (.cells (d.toList.map (Value.int .i32) ++ rest).toArray 21 (0, 0)) ∧ d.size + rest.length = cap
section
variable {w w' : World} {g cap : Nat} {d : Array Int}
theorem RowS.lt (h : RowS w g cap d) : g < w.heap.size := by obtain ⟨_, h, _⟩ := h; exact heap_lt h
theorem RowS.block (h : RowS w g cap d) (hb : w'.heap[g]? = w.heap[g]?) : RowS w' g cap d := by
  obtain ⟨r, h1, h2⟩ := h
  exact ⟨r, hb.trans h1, h2⟩
theorem RowS.below (h : RowS w g cap d) (hb : Below w.heap.size w w') : RowS w' g cap d := h.block (hb.block g h.lt)
theorem RowS.drewN (h : RowS w g cap d) (n : Nat) : RowS (w.drewN n) g cap d := h
theorem RowS.drew (h : RowS w g cap d) : RowS w.drew g cap d := h
theorem RowS.at_ (h : RowS w g cap d) {i : Nat} (hi : i < d.size) : w.cell? ⟨g, i, none⟩ = some (.int .i32 d[i]!) := by
  obtain ⟨r, h1, h2⟩ := h
  rw [cell_row h1]
  simp only [List.getElem?_toArray]
  rw [List.getElem?_append_left (by simpa using hi), List.getElem?_map]
  simp [hi]
theorem RowS.fz (h : RowS w g cap d) (i : Nat) : w.frozen? ⟨g, i, none⟩ = false := by
  obtain ⟨r, h1, h2⟩ := h
  exact frozen_row h1 i
theorem RowS.set (h : RowS w g cap d) {i : Nat} (hi : i < d.size) (x : Int) : RowS (w.setCell ⟨g, i, none⟩ (.int .i32 x)) g cap (d.setIfInBounds i x) := by
  obtain ⟨r, h1, h2⟩ := h
  refine ⟨r, ?_, by simpa using h2⟩
  rw [heap_set h1]
  congr 2
  rw [List.setIfInBounds_toArray]
  congr 1
  rw [List.set_append_left _ _ (by simpa using hi), Array.toList_setIfInBounds, List.map_set]
theorem RowS.swp (h : RowS w g cap d) {i j : Nat} (hi : i < d.size) (hj : j < d.size) : RowS ((w.setCell ⟨g, i, none⟩ (.int .i32 d[j]!)).setCell ⟨g, j, none⟩ (.int .i32 d[i]!)) g cap (Sort.swp d i j) :=
  (h.set hi _).set (by simpa using hj) _
end
theorem fr_set2 (w : World) (g i j : Nat) (x y : Value) : Fr (fun k => k = g) w ((w.setCell ⟨g, i, none⟩ x).setCell ⟨g, j, none⟩ y) := ((Fr.refl (fun k => k = g) w).setCell ⟨g, i, none⟩ x (fun _ => rfl)).setCell ⟨g, j, none⟩ y (fun _ => rfl)
theorem fr_drewN {F : Nat → Prop} {a b : World} (h : Fr F a b) (n : Nat) : Fr F a (b.drewN n) := ⟨h.os, h.tape, h.output, h.size, h.block⟩

theorem isNaN_any (x : Int) (w : World) : Calls Try.prog 59 #[.int .i32 x] w fun e w' => e = .returned (.bool false) ∧ w' = w := by
  have hx : (x != x) = false := by simp
  go_enter Try.func59, Try.ntmps59
  go_wp2
  go_ret
  exact ⟨rfl, rfl⟩
theorem less_any (x y : Int) (w : World) : Calls Try.prog 49 #[.int .i32 x, .int .i32 y] w fun e w' => e = .returned (.bool (decide (x < y))) ∧ w' = w := by
  go_enter Try.func49, Try.ntmps49
  go_wp2_with (go_at_call 59; refine (isNaN_any _ _).mono ?_; rintro e w' ⟨rfl, rfl⟩)
  go_ret
  exact ⟨rfl, rfl⟩
theorem ltInt_eq (x y : Int) : Sort.ltInt x y = decide (x < y) := rfl

theorem ins_step {a j k : Nat} {e : Array Int} (hk : j - 1 = k) (hj : a < j) (hlt : e[j]! < e[k]!) : Sort.insInner Sort.ltInt a j e = Sort.insInner Sort.ltInt a k (Sort.swp e j k) := by
  obtain ⟨m, rfl⟩ : ∃ m, j = m + 1 := ⟨j - 1, by omega⟩
  have : k = m := by omega
  subst this
  rw [Sort.insInner]
  rw [if_pos (by simp [Sort.ltInt, hlt]; omega)]
theorem ins_stop {a j k : Nat} {e : Array Int} (hk : j - 1 = k) (hj : j ≤ a ∨ ¬ e[j]! < e[k]!) : Sort.insInner Sort.ltInt a j e = e := by
  cases j with
  | zero => rfl
  | succ m =>
    have : k = m := by omega
    subst this
    rw [Sort.insInner]
    rw [if_neg]
    simp only [Sort.ltInt, Bool.and_eq_true, decide_eq_true_eq]
    rintro ⟨h1, h2⟩
    rcases hj with h | h
    · omega
    · exact h h2
theorem insO_step {a b i : Nat} {e : Array Int} (h : i < b) : Sort.insOuter Sort.ltInt a b i e = Sort.insOuter Sort.ltInt a b (i + 1) (Sort.insInner Sort.ltInt a i e) := by
  rw [Sort.insOuter, if_pos h]
theorem insO_stop {a b i : Nat} {e : Array Int} (h : ¬ i < b) : Sort.insOuter Sort.ltInt a b i e = e := by
  rw [Sort.insOuter, if_neg h]
set_option maxHeartbeats 2000000 in
theorem insertion_any (g cap n a b : Nat) (d : Array Int) (w : World) (h : RowS w g cap d) (hn : d.size = n) (hn2 : n ≤ 100) (hab : a ≤ b) (hb : b ≤ n) :
    Calls Try.prog 43 #[.slice (some ⟨g, 0, none⟩) n cap, .int .i64 a, .int .i64 b] w fun e w' => e = .returned (.tuple #[]) ∧ RowS w' g cap (Sort.insertionSort Sort.ltInt d a b) ∧ Fr (fun k => k = g) w w' := by
  have H := Lib.hid h
  have HN := Lib.hid hn
  clear h hn
  go_enter Try.func43, Try.ntmps43
  go_wp2
  go_loopw [6] (fun iv wr => ∃ (i : Nat) (e : Array Int), iv = .int .i64 i ∧ a + 1 ≤ i ∧ (i ≤ b ∨ i = a + 1) ∧ Hid (e.size = n ∧ RowS wr g cap e ∧ Sort.insOuter Sort.ltInt a b i e = Sort.insertionSort Sort.ltInt d a b ∧ Fr (fun k => k = g) w wr)) (fun i _ => b - (intOf i).toNat)
  case atStart => exact ⟨a + 1, d, by go_num, Nat.le_refl _, .inr rfl, HN.out, H.out, rfl, Fr.refl _ _⟩
  case round =>
    obtain ⟨i, e, rfl, hi1, hi2, hinv⟩ := hrel
    by_cases hlt : i < b
    · go_wp2
      obtain ⟨wo, hwo⟩ : ∃ wo : World, wo = wr := ⟨_, rfl⟩
      subst hwo
      go_loopw [7] (fun jv wr => ∃ (j : Nat) (e' : Array Int), jv = .int .i64 j ∧ a ≤ j ∧ j ≤ i ∧ Hid (e'.size = n ∧ RowS wr g cap e' ∧ Sort.insInner Sort.ltInt a j e' = Sort.insInner Sort.ltInt a i e ∧ Fr (fun k => k = g) w wr)) (fun j _ => (intOf j).toNat)
      case atStart => exact ⟨i, e, rfl, by omega, Nat.le_refl _, hinv.out.1, hinv.out.2.1, rfl, hinv.out.2.2.2⟩
      case round =>
        obtain ⟨j, e', rfl, hj1, hj2, hin⟩ := hrel
        by_cases hja : a < j
        · obtain ⟨k, hk⟩ : ∃ k, j - 1 = k := ⟨_, rfl⟩
          have hk1 : (j : Int) - 1 = (k : Int) := by omega
          have x0 := hin.out.2.1.at_ (i := j) (by rw [hin.out.1]; omega)
          have x1 := hin.out.2.1.at_ (i := k) (by rw [hin.out.1]; omega)
          obtain ⟨x, hx⟩ : ∃ x, e'[j]! = x := ⟨_, rfl⟩
          obtain ⟨y, hy⟩ : ∃ y, e'[k]! = y := ⟨_, rfl⟩
          rw [hx] at x0
          rw [hy] at x1
          have hjn : (j : Int) < (n : Int) := by omega
          have hkn : (k : Int) < (n : Int) := by omega
          have hk0 : (0 : Int) ≤ (k : Int) := by omega
          have HX := Lib.hid hx
          have HY := Lib.hid hy
          have HK := Lib.hid hk
          clear hx hy hk
          have hwk : IntKind.i64.wrap (k : Int) = (k : Int) := by rw [IntKind.wrap_i64]; omega
          by_cases hxy : x < y
          · have HXY := Lib.hid hxy
            have hlt2 : decide (x < y) = true := by simpa using hxy
            have hkj : ¬ k = j := by omega
            have hjk : ¬ j = k := by omega
            have z0 := hin.out.2.1.fz j
            have z1 := hin.out.2.1.fz k
            go_wp2
            go_quiet (first | (go_at_call 49; refine Calls.quiet_of_same (less_any _ _ _)))
            go_wp2
            go_region
            all_goals go_wp2
            all_goals go_roundw
            case rel =>
              obtain ⟨i1, i2, i3, i4⟩ := hin.out
              have hr := (i2.drewN nq).swp (i := j) (j := k) (by omega) (by omega)
              rw [HX.out, HY.out] at hr
              exact ⟨k, Sort.swp e' j k, rfl, by omega, by omega, by rw [Sort.size_swp]; exact i1, hr, by rw [← i3, ins_step HK.out hja (by rw [HX.out, HY.out]; exact HXY.out)], ((fr_drewN i4 nq).trans (fr_set2 _ g j k _ _) (fun _ _ h => h)).drew⟩
            case measure => simp [intOf]; omega
          · have HXY := Lib.hid hxy
            have hlt2 : decide (x < y) = false := by simpa using hxy
            clear hxy
            go_wp2
            go_quiet (first | (go_at_call 49; refine Calls.quiet_of_same (less_any _ _ _)))
            go_wp2
            go_roundw
            case rel =>
              obtain ⟨i1, i2, i3, i4⟩ := hin.out
              obtain ⟨o1, o2, o3, o4⟩ := hinv.out
              exact ⟨i + 1, e', by go_num, by omega, by omega, i1, i2, by rw [← o3, insO_step hlt, ← i3, ins_stop HK.out (.inr (by rw [HX.out, HY.out]; have := HXY.out; omega))], fr_drewN i4 _⟩
            case measure => simp [intOf]; omega
        · have hja2 : decide ((a : Int) < (j : Int)) = false := by simp; omega
          go_wp2
          go_quiet (fail)
          go_wp2
          go_roundw
          case rel =>
            obtain ⟨i1, i2, i3, i4⟩ := hin.out
            obtain ⟨o1, o2, o3, o4⟩ := hinv.out
            exact ⟨i + 1, e', by go_num, by omega, by omega, i1, i2, by rw [← o3, insO_step hlt, ← i3, ins_stop (k := j - 1) rfl (.inl (by omega))], fr_drewN i4 _⟩
          case measure => simp [intOf]; omega
    · go_wp2
      go_end0
      obtain ⟨o1, o2, o3, o4⟩ := hinv.out
      rw [insO_stop hlt] at o3
      rw [← o3]
      exact ⟨rfl, o2, o4⟩
end Go.Proofs.Ytbgbhlnidabhnaa.U
