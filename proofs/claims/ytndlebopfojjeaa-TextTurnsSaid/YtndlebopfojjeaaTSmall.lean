/-
  Small; the document's Twin and New.
-/
import Derived.Test.YtndlebopfojjeaaTAwake
import Derived.Test.YtndlebopfojjeaaTNew
namespace Go.Proofs.Ytndlebopfojjeaa.U
open Go.RowKit
set_option linter.unusedVariables false
set_option linter.unusedSimpArgs false
set_option maxRecDepth 100000

def smallL (L : List (List Int)) : Bool := decide (L.length ≤ 300) && decide ((joinL L).length ≤ 3000)
theorem small_any (F : Nat → Prop) (a : Option Addr) (n c : Nat) (L : List (List Int)) (w : World) (h : RdL F w a n c L) (hs : sizeN (lens L) ≤ 1048576) :
    Calls Try.prog 10 #[.slice a n c] w fun e w' => e = .returned (.bool (smallL L)) ∧ w = w' := by
  have hl := h.len
  have hsm := h.small
  have HR := Lib.hid (rrunes_any F a n c L w h (by omega))
  unfold smallL
  rw [hl]
  have hjl := joinL_len_le L
  obtain ⟨R, hR⟩ : ∃ R, (joinL L).length = R := ⟨_, rfl⟩
  rw [hR] at HR hjl ⊢
  clear h hl hR
  by_cases h1 : n ≤ 300
  · have t1 : decide ((n : Int) ≤ 300) = true := by simp; omega
    have d1 : decide (n ≤ 300) = true := by simp; omega
    have t1' : (n : Int) ≤ 300 := by omega
    rw [d1, Bool.true_and]
    by_cases h2 : R ≤ 3000
    · have t2 : decide ((R : Int) ≤ 3000) = true := by simp; omega
      have d2 : decide (R ≤ 3000) = true := by simp; omega
      rw [d2]
      clear d1 d2
      go_enter Try.func10, Try.ntmps10
      go_wp2_with (go_at_call 31; refine HR.out.mono ?_; rintro e w' ⟨rfl, rfl⟩)
      go_ret
      exact ⟨by first | rfl | (simp; omega), rfl⟩
    · have t2 : decide ((R : Int) ≤ 3000) = false := by simp; omega
      have d2 : decide (R ≤ 3000) = false := by simp; omega
      rw [d2]
      clear d1 d2
      go_enter Try.func10, Try.ntmps10
      go_wp2_with (go_at_call 31; refine HR.out.mono ?_; rintro e w' ⟨rfl, rfl⟩)
      go_ret
      exact ⟨by first | rfl | (simp; omega), rfl⟩
  · have t1 : decide ((n : Int) ≤ 300) = false := by simp; omega
    have d1 : decide (n ≤ 300) = false := by simp; omega
    rw [d1, Bool.false_and]
    clear d1
    go_enter Try.func10, Try.ntmps10
    go_wp2_with fail
    go_ret
    exact ⟨by first | rfl | (simp; omega), rfl⟩

/-- New of lines that are none's: none -/
theorem rnew_no (F : Nat → Prop) (a : Option Addr) (n c : Nat) (L : List (List Int)) (w : World) (h : RdL F w a n c L) (hs : sizeN (lens L) ≤ 1048576) (hok : okL L = false) :
    Calls Try.prog 22 #[.slice a n c] w fun e w' => e = .returned (.pointer none) ∧ w = w' := by
  have HP := Lib.hid (rplain_any F a n c L w h)
  have HR := Lib.hid (rrunes_any F a n c L w h (by omega))
  have hne : L ≠ [] := by intro e; subst e; exact absurd hok (by decide)
  have hjl := joinL_len_le L
  unfold okL at hok
  rw [normL_of hne] at hok
  obtain ⟨R, hR⟩ : ∃ R, (joinL L).length = R := ⟨_, rfl⟩
  rw [hR] at HR hjl hok
  clear h hR hne
  cases hany : L.any has10 with
  | true =>
    rw [hany] at HP
    have HP' : Hid (Calls Try.prog 46 #[.slice a n c] w fun e w' => e = .returned (.bool false) ∧ w = w') := HP.out
    clear HP hok
    go_enter Try.func22, Try.ntmps22
    go_wp2_with (go_at_call 46; refine HP'.out.mono ?_; rintro e w' ⟨rfl, rfl⟩)
    go_ret
    exact ⟨rfl, rfl⟩
  | false =>
    rw [hany] at HP
    have HP' : Hid (Calls Try.prog 46 #[.slice a n c] w fun e w' => e = .returned (.bool true) ∧ w = w') := HP.out
    have hbig : ¬ R ≤ 65536 := by
      rw [hany] at hok
      simpa using hok
    have t1 : decide ((65536 : Int) < (R : Int)) = true := by simp; omega
    have t1' : (65536 : Int) < (R : Int) := by omega
    clear HP hok hbig
    go_enter Try.func22, Try.ntmps22
    go_wp2_with (first
      | (go_at_call 46; refine HP'.out.mono ?_; rintro e w' ⟨rfl, rfl⟩)
      | (go_at_call 31; refine HR.out.mono ?_; rintro e w' ⟨rfl, rfl⟩))
    go_ret
    exact ⟨rfl, rfl⟩

/-- New of lines, whatever they are: a text, or none -/
theorem new_any (G : Nat → Prop) (a : Option Addr) (n c : Nat) (L : List (List Int)) (w : World) (h : RdL G w a n c L) (hs : sizeN (lens L) ≤ 1048576) :
    Calls Try.prog 21 #[.slice a n c] w fun e w' => (okL L = false ∧ e = .returned (.pointer none) ∧ w = w') ∨ (okL L = true ∧ ∃ bt, e = .returned (.pointer (some ⟨bt, 0, none⟩)) ∧ TX (fun k => w.heap.size ≤ k) w' bt (normL L) 0 ∧ Below w.heap.size w w') := by
  have hl := h.len
  by_cases hn : 0 < n
  · have hne : L ≠ [] := by intro e; subst e; simp at hl; omega
    cases hok : okL L with
    | false => exact (new_some_no G a n c L w h (by omega) hn hok).mono fun e w' h => .inl ⟨rfl, h⟩
    | true =>
      rw [normL_of hne]
      exact (new_some_ok G a n c L w h hn hok).mono fun e w' h => .inr ⟨rfl, h⟩
  · obtain rfl : n = 0 := by omega
    have e : L = [] := List.eq_nil_of_length_eq_zero hl
    subst e
    exact (new_none0 a c w).mono fun e w' h => .inr ⟨rfl, h⟩
end Go.Proofs.Ytndlebopfojjeaa.U
