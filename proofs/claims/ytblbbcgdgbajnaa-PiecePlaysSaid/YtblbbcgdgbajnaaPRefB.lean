/-
  The document's table: New, Insert, Delete, Slice, Back.
-/
import Derived.Test.YtblbbcgdgbajnaaPRef
namespace Go.Proofs.Ytblbbcgdgbajnaa.U
open Go.RowKit
set_option linter.unusedVariables false
set_option linter.unusedSimpArgs false

theorem rIns (bx : Nat) (G : Nat → Prop) (L : List Int) (S : List (List Int)) (a : Option Addr) (len cap : Nat) (xs : List Int) (i : Int) (w : World) (h : RefOk w G bx L S) (hr : Rd .i32 w a len cap xs) :
    Calls Try.prog 24 #[.pointer (some ⟨bx, 0, none⟩), .int .i64 i, .slice a len cap] w fun e w' => e = .returned (.int .i64 (insM L i xs).2) ∧ AfterX w G bx (insM L i xs).1 S w' := by
  unfold insM
  cases hb : hasB L.length i 0 with
  | false =>
    simp only [Bool.false_eq_true, ↓reduceIte]
    refine (rIns_err bx G L S a len cap i w h hb).mono ?_
    rintro e w' ⟨rfl, rfl⟩
    exact ⟨rfl, AfterX.same h (Below.refl _ _)⟩
  | true =>
    simp only [↓reduceIte]
    have hb' := hasB_iff.1 hb
    have hxl := hr.1
    by_cases hf : 65536 - (L.length : Int) < xs.length
    · rw [if_pos hf]
      refine (rIns_full bx G L S a len cap i w h hb (by rw [← hr.1]; exact hf) hr.small).mono ?_
      rintro e w' ⟨rfl, rfl⟩
      exact ⟨rfl, AfterX.same h (Below.refl _ _)⟩
    · rw [if_neg hf]
      obtain ⟨n, rfl⟩ : ∃ n : Nat, i = n := ⟨i.toNat, by omega⟩
      exact rIns_ok bx G L S a len cap xs n w h hr (by omega) (by omega)

theorem rDel_err (bx : Nat) (G : Nat → Prop) (L : List Int) (S : List (List Int)) (i n : Int) (w : World) (h : RefOk w G bx L S) (hi : -9223372036854775808 ≤ i ∧ i ≤ 9223372036854775807) (hb : hasB L.length i n = false) :
    Calls Try.prog 25 #[.pointer (some ⟨bx, 0, none⟩), .int .i64 i, .int .i64 n] w fun e w' => e = .returned (.int .i64 2) ∧ w = w' := by
  obtain ⟨la, lc, c0, hr⟩ := h.rd
  have hbx := h.lt _ h.inG
  have hro := h.room
  obtain ⟨i1, i2⟩ := hi
  generalize hN : L.length = N at *
  by_cases h1 : i < 0
  · clear hb h
    go_enter Try.func25, Try.ntmps25
    go_wp2
    go_ret
    exact ⟨rfl, rfl⟩
  have h1' : 0 ≤ i := by omega
  by_cases h2 : (N : Int) < i
  · clear hb h
    go_enter Try.func25, Try.ntmps25
    go_wp2
    go_ret
    exact ⟨rfl, rfl⟩
  have h2' : i ≤ (N : Int) := by omega
  by_cases h3 : n < 0
  · clear hb h
    go_enter Try.func25, Try.ntmps25
    go_wp2
    go_ret
    exact ⟨rfl, rfl⟩
  · have h3' : 0 ≤ n := by omega
    have h4 : (N : Int) - i < n := by simp [hasB] at hb; omega
    clear hb h
    go_enter Try.func25, Try.ntmps25
    go_wp2
    go_ret
    exact ⟨rfl, rfl⟩

set_option maxHeartbeats 1000000 in
theorem rDel_ok (bx : Nat) (G : Nat → Prop) (L : List Int) (S : List (List Int)) (i n : Nat) (w : World) (h : RefOk w G bx L S) (hn : i + n ≤ L.length) :
    Calls Try.prog 25 #[.pointer (some ⟨bx, 0, none⟩), .int .i64 i, .int .i64 n] w fun e w' => e = .returned (.int .i64 0) ∧ AfterX w G bx (L.take i ++ L.drop (i + n)) S w' := by
  obtain ⟨la, lc, c0, hL⟩ := h.rd
  have hbx := h.lt _ h.inG
  have hLc := hL.2.1
  have hLm := hL.2.2.1
  have hro := h.room
  obtain ⟨k, hk⟩ : ∃ k, i + n = k := ⟨_, rfl⟩
  rw [hk] at hn ⊢
  obtain ⟨a1, c1, w1, hrun1, ho1, hb1⟩ := app_rd w w.heap.size (.slice none 0 0) 0 [] la i lc (L.take i) (World.ownsRow_nil _ _ _ _) (Nat.le_refl _) (hL.take i (by omega)) (by omega)
  obtain ⟨ta, hta, htr⟩ : ∃ ta, (if lc = k then la else la.map (·.add (k * 1))) = ta ∧ Rd .i32 w1 ta (L.length - k) (lc - k) (L.drop k) := ⟨_, rfl, (hL.below hb1).drop k hn⟩
  obtain ⟨a3, c3, w3, hrun3, ho3, hb3⟩ := app_rd w1 w.heap.size (.slice a1 (0 + i) c1) (0 + i) _ ta (L.length - k) (lc - k) (L.drop k) ho1 hb1.size htr (by omega)
  have hb13 := hb1.trans hb3
  rw [Nat.zero_add] at hrun1 hrun3 ho3
  rw [List.nil_append] at ho3
  have hlen : (L.take i ++ L.drop k).length = i + (L.length - k) := by simp; omega
  have hlay := h.lay (L' := L.take i ++ L.drop k) (la := a3) (lc := c3) hb13 (by rw [hlen]; exact ho3) (by
    intro x hx
    rcases List.mem_append.1 hx with hx | hx
    · exact h.wf x (List.mem_of_mem_take hx)
    · exact h.wf x (List.mem_of_mem_drop hx)) (by rw [hlen]; omega)
  rw [hlen] at hlay
  have hR := h.below hb13
  have hbx3 := hR.lt _ hR.inG
  obtain ⟨la', lc', c03, _⟩ := hR.rd
  have f03 := hR.fz 0
  have HA : Hid (AfterX w G bx (L.take i ++ L.drop k) S (w3.setCell ⟨bx, 0, none⟩ (.slice a3 (i + (L.length - k)) c3))) := ⟨_, hlay.1, hlay.2, fun k hk => hk.1⟩
  have c01 := (hb1.cell (p := ⟨bx, 0, none⟩) hbx).trans c0
  have l1 : bx < w1.heap.size := Nat.lt_of_lt_of_le hbx hb1.size
  have HRUN1 := Lib.hid hrun1
  have HRUN3 := Lib.hid hrun3
  have HTA := Lib.hid hta
  obtain ⟨N, hN⟩ : ∃ N, L.length = N := ⟨_, rfl⟩
  rw [hN] at HRUN3 HA c0 c01 c03 hn hLc hro
  have hic : i ≤ lc := by omega
  have hlc : lc ≤ 9223372036854775807 := by unfold maxLen at hLm; omega
  have q1 : (i : Int) ≤ (N : Int) := by omega
  have q2 : (n : Int) ≤ (N : Int) - (i : Int) := by omega
  have q3 : (i : Int) + (n : Int) = (k : Int) := by omega
  have q4 : (k : Int) ≤ (N : Int) := by omega
  have q5 : IntKind.i64.wrap (k : Int) = (k : Int) := by rw [IntKind.wrap_i64]; omega
  clear hrun1 hrun3 ho1 ho3 hb1 hb3 hb13 hlay hlen hR htr hta hL h hN hLm hk
  go_enter Try.func25, Try.ntmps25
  by_cases hcn : lc = k
  · rw [if_pos hcn] at HTA
    have hta := HTA.out
    subst hta
    have hcn2 := eq_true hcn
    have HCN := Lib.hid hcn
    clear hcn
    go_wp2_with (at_builtin; go_must (first
      | (with_reducible refine Lib.wpList_append_run _ rfl (.tmp 34) (.tmp 40) _ _ rfl _ _ rfl rfl _ _ (HRUN1.out _) ?_)
      | (with_reducible refine Lib.wpList_append_run _ rfl (.tmp 43) (.tmp 51) _ _ rfl _ _ rfl rfl _ _ (HRUN3.out _) ?_)))
    go_ret
    exact ⟨rfl, HA.out⟩
  · rw [if_neg hcn, Nat.mul_one] at HTA
    have hta := HTA.out
    subst hta
    go_wp2_with (at_builtin; go_must (first
      | (with_reducible refine Lib.wpList_append_run _ rfl (.tmp 34) (.tmp 40) _ _ rfl _ _ rfl rfl _ _ (HRUN1.out _) ?_)
      | (with_reducible refine Lib.wpList_append_run _ rfl (.tmp 43) (.tmp 51) _ _ rfl _ _ rfl rfl _ _ (HRUN3.out _) ?_)))
    go_ret
    exact ⟨rfl, HA.out⟩

theorem rDel (bx : Nat) (G : Nat → Prop) (L : List Int) (S : List (List Int)) (i n : Int) (w : World) (h : RefOk w G bx L S) (hi : -9223372036854775808 ≤ i ∧ i ≤ 9223372036854775807) :
    Calls Try.prog 25 #[.pointer (some ⟨bx, 0, none⟩), .int .i64 i, .int .i64 n] w fun e w' => e = .returned (.int .i64 (delM L i n).2) ∧ AfterX w G bx (delM L i n).1 S w' := by
  unfold delM
  cases hb : hasB L.length i n with
  | false =>
    simp only [Bool.false_eq_true, ↓reduceIte]
    refine (rDel_err bx G L S i n w h hi hb).mono ?_
    rintro e w' ⟨rfl, rfl⟩
    exact ⟨rfl, AfterX.same h (Below.refl _ _)⟩
  | true =>
    simp only [↓reduceIte]
    have hb' := hasB_iff.1 hb
    obtain ⟨i', rfl⟩ : ∃ m : Nat, i = m := ⟨i.toNat, by omega⟩
    obtain ⟨n', rfl⟩ : ∃ m : Nat, n = m := ⟨n.toNat, by omega⟩
    exact rDel_ok bx G L S i' n' w h (by omega)

/-- append of what can be read onto a fresh empty row -/
theorem app_lit (w : World) (a : Option Addr) (m c : Nat) (ys : List Int) (hr : Rd .i32 w a m c ys) (hb : m ≤ 17592186044416) :
    ∃ a' c' w', (∀ ty, (Builtin.append_ #[22, 22] ty #[.slice (some ⟨w.heap.size, 0, none⟩) 0 0, .slice a m c]).run Try.prog (w.alloc (.cells #[] 21)) = .ok (.slice a' m c') w') ∧ w'.ownsRow w.heap.size 21 1 (.slice a' m c') m (ints ys) ∧ Below w.heap.size w w' := by
  have hb0 : Below w.heap.size w (w.alloc (.cells #[] 21)) := (Below.refl _ w).alloc (Nat.le_refl _) _
  obtain ⟨a', c', w', hrun, ho, hb'⟩ := app_rd (w.alloc (.cells #[] 21)) w.heap.size (.slice (some ⟨w.heap.size, 0, none⟩) 0 0) 0 [] a m c ys (World.ownsRow_lit w #[] 0 (Nat.le_refl _) (Nat.zero_le _) rfl) (by simp) (hr.below hb0) (by omega)
  rw [Nat.zero_add] at hrun ho
  exact ⟨a', c', w', hrun, by simpa using ho, hb0.trans hb'⟩

theorem rSli_err (bx : Nat) (G : Nat → Prop) (L : List Int) (S : List (List Int)) (i n : Int) (w : World) (h : RefOk w G bx L S) (hi : -9223372036854775808 ≤ i ∧ i ≤ 9223372036854775807) (hb : hasB L.length i n = false) :
    Calls Try.prog 26 #[.pointer (some ⟨bx, 0, none⟩), .int .i64 i, .int .i64 n] w fun e w' => e = .returned (.tuple #[.slice none 0 0, .int .i64 2]) ∧ w = w' := by
  obtain ⟨la, lc, c0, hr⟩ := h.rd
  have hbx := h.lt _ h.inG
  have hro := h.room
  obtain ⟨i1, i2⟩ := hi
  generalize hN : L.length = N at *
  by_cases h1 : i < 0
  · clear hb h
    go_enter Try.func26, Try.ntmps26
    go_wp2
    go_ret2
    exact ⟨rfl, rfl⟩
  have h1' : 0 ≤ i := by omega
  by_cases h2 : (N : Int) < i
  · clear hb h
    go_enter Try.func26, Try.ntmps26
    go_wp2
    go_ret2
    exact ⟨rfl, rfl⟩
  have h2' : i ≤ (N : Int) := by omega
  by_cases h3 : n < 0
  · clear hb h
    go_enter Try.func26, Try.ntmps26
    go_wp2
    go_ret2
    exact ⟨rfl, rfl⟩
  · have h3' : 0 ≤ n := by omega
    have h4 : (N : Int) - i < n := by simp [hasB] at hb; omega
    clear hb h
    go_enter Try.func26, Try.ntmps26
    go_wp2
    go_ret2
    exact ⟨rfl, rfl⟩

set_option maxHeartbeats 1000000 in
theorem rSli_ok (bx : Nat) (G : Nat → Prop) (L : List Int) (S : List (List Int)) (i n : Nat) (w : World) (h : RefOk w G bx L S) (hn : i + n ≤ L.length) :
    Calls Try.prog 26 #[.pointer (some ⟨bx, 0, none⟩), .int .i64 i, .int .i64 n] w fun e w' => ∃ a c, e = .returned (.tuple #[.slice a n c, .int .i64 0]) ∧ w'.ownsRow w.heap.size 21 1 (.slice a n c) n (ints ((L.drop i).take n)) ∧ Below w.heap.size w w' := by
  obtain ⟨la, lc, c0, hL⟩ := h.rd
  have hbx := h.lt _ h.inG
  have hLc := hL.2.1
  have hLm := hL.2.2.1
  have hro := h.room
  obtain ⟨ta, hta, htr⟩ : ∃ ta, (if lc = i then la else la.map (·.add (i * 1))) = ta ∧ Rd .i32 w ta n (lc - i) ((L.drop i).take n) := ⟨_, rfl, (hL.drop i (by omega)).take n (by omega)⟩
  obtain ⟨a1, c1, w1, hrun1, ho1, hb1⟩ := app_lit w ta n (lc - i) _ htr (by omega)
  have HRUN1 : Hid (∀ ty, (Builtin.append_ #[22, 22] ty #[.slice (some ⟨w.heap.size, 0, none⟩) 0 0, .slice ta (i + n - i) (lc - i)]).run Try.prog (w.alloc (.cells #[] 21)) = .ok (.slice a1 n c1) w1) := by
    intro ty
    rw [show i + n - i = n from by omega]
    exact hrun1 ty
  have HO := Lib.hid ho1
  have HB := Lib.hid hb1
  have HTA := Lib.hid hta
  obtain ⟨N, hN⟩ : ∃ N, L.length = N := ⟨_, rfl⟩
  rw [hN] at c0 hn hLc hro
  have hic : i ≤ lc := by omega
  have hlc : lc ≤ 9223372036854775807 := by unfold maxLen at hLm; omega
  have q1 : (i : Int) ≤ (N : Int) := by omega
  have q2 : (n : Int) ≤ (N : Int) - (i : Int) := by omega
  have q4 : (i : Int) + (n : Int) ≤ (lc : Int) := by omega
  have q5 : (i : Int) ≤ (i : Int) + (n : Int) := by omega
  clear hrun1 ho1 hb1 htr hta hL h hN hLm
  go_enter Try.func26, Try.ntmps26
  by_cases hcn : lc = i
  · rw [if_pos hcn] at HTA
    have hta := HTA.out
    subst hta
    have hcn2 := eq_true hcn
    have HCN := Lib.hid hcn
    clear hcn
    go_wp2_with (at_builtin; go_must (with_reducible refine Lib.wpList_append_run _ rfl (.tmp 34) (.tmp 43) _ _ rfl _ _ rfl rfl _ _ (HRUN1.out _) ?_))
    go_ret2
    exact ⟨_, _, rfl, HO.out, HB.out⟩
  · rw [if_neg hcn, Nat.mul_one] at HTA
    have hta := HTA.out
    subst hta
    go_wp2_with (at_builtin; go_must (with_reducible refine Lib.wpList_append_run _ rfl (.tmp 34) (.tmp 43) _ _ rfl _ _ rfl rfl _ _ (HRUN1.out _) ?_))
    go_ret2
    exact ⟨_, _, rfl, HO.out, HB.out⟩
theorem rSli (bx : Nat) (G : Nat → Prop) (L : List Int) (S : List (List Int)) (i n : Int) (w : World) (h : RefOk w G bx L S) (hi : -9223372036854775808 ≤ i ∧ i ≤ 9223372036854775807) :
    Calls Try.prog 26 #[.pointer (some ⟨bx, 0, none⟩), .int .i64 i, .int .i64 n] w fun e w' => ∃ a c, e = .returned (.tuple #[.slice a (sliM L i n).1.length c, .int .i64 (sliM L i n).2]) ∧
      w'.ownsRow w.heap.size 21 1 (.slice a (sliM L i n).1.length c) (sliM L i n).1.length (ints (sliM L i n).1) ∧ Below w.heap.size w w' := by
  unfold sliM
  cases hb : hasB L.length i n with
  | false =>
    simp only [Bool.false_eq_true, ↓reduceIte]
    refine (rSli_err bx G L S i n w h hi hb).mono ?_
    rintro e w' ⟨rfl, rfl⟩
    exact ⟨none, 0, rfl, World.ownsRow_nil _ _ _ _, Below.refl _ _⟩
  | true =>
    simp only [↓reduceIte]
    have hb' := hasB_iff.1 hb
    obtain ⟨a, rfl⟩ : ∃ m : Nat, i = m := ⟨i.toNat, by omega⟩
    obtain ⟨m, rfl⟩ : ∃ m : Nat, n = m := ⟨n.toNat, by omega⟩
    simp only [Int.toNat_natCast]
    have hl : ((L.drop a).take m).length = m := by simp; omega
    rw [hl]
    exact rSli_ok bx G L S a m w h (by omega)
end Go.Proofs.Ytblbbcgdgbajnaa.U
