/-
  The document's New of lines that are a text's.
-/
import Derived.Test.YtndlebopfojjeaaTTwin
namespace Go.Proofs.Ytndlebopfojjeaa.U
open Go.RowKit
set_option linter.unusedVariables false
set_option linter.unusedSimpArgs false
set_option maxRecDepth 100000

theorem normL_joinR (L : List (List Int)) : joinL (normL L) = joinL L := by
  unfold normL
  split
  · next e => subst e; rfl
  · rfl
/-- the document's text: its block, and lines in other blocks -/
def RX (P : Nat → Prop) (w : World) (bx : Nat) (L : List (List Int)) : Prop :=
  ∃ la n lc, w.heap[bx]? = some (.cells #[.slice la n lc] 40 (0, 0)) ∧ RdL (fun k => P k ∧ k ≠ bx) w la n lc L ∧ P bx

set_option maxHeartbeats 4000000 in
theorem rnew_ok (F : Nat → Prop) (a : Option Addr) (n c : Nat) (L : List (List Int)) (w : World) (h : RdL F w a n c L) (hs : sizeN (lens L) ≤ 1048576) (hok : okL L = true) :
    Calls Try.prog 22 #[.slice a n c] w fun e w' => ∃ bx, e = .returned (.pointer (some ⟨bx, 0, none⟩)) ∧ RX (fun k => w.heap.size ≤ k) w' bx (normL L) ∧ Below w.heap.size w w' := by
  have HP := Lib.hid (rplain_any F a n c L w h)
  have HR := Lib.hid (rrunes_any F a n c L w h (by omega))
  have HTW := Lib.hid (rtwin_any F a n c L w h hs)
  have HWF := Lib.hid (lines_wf (rdl_wf h))
  have hl := h.len
  have hsm := h.small
  unfold okL at hok
  rw [normL_joinR, Bool.and_eq_true, decide_eq_true_eq] at hok
  obtain ⟨ho1, ho2⟩ := hok
  have hany : L.any has10 = false := by simpa using ho1
  rw [hany] at HP
  have HP' : Hid (Calls Try.prog 46 #[.slice a n c] w fun e w' => e = .returned (.bool true) ∧ w = w') := HP.out
  obtain ⟨R, hR⟩ : ∃ R, (joinL L).length = R := ⟨_, rfl⟩
  rw [hR] at HR ho2
  have t1 : decide ((65536 : Int) < (R : Int)) = false := by simp; omega
  have t1' : ¬ ((65536 : Int) < (R : Int)) := by omega
  by_cases hn : n = 0
  · subst hn
    have e : L = [] := List.eq_nil_of_length_eq_zero hl
    have hnm : normL L = [[]] := by subst e; rfl
    rw [hnm]
    clear h hR hany ho1 ho2 HP HWF hl hnm e
    go_enter Try.func22, Try.ntmps22
    go_wp2_with (first
      | (go_at_call 46; refine HP'.out.mono ?_; rintro e w' ⟨rfl, rfl⟩)
      | (go_at_call 31; refine HR.out.mono ?_; rintro e w' ⟨rfl, rfl⟩)
      | (go_at_call 32; refine HTW.out.mono ?_; rintro e w1 ⟨a', c', rfl, hf, hb⟩))
    go_ret
    have hs1 := hb.size
    have hone := one_rdl0 w1
    have hb2 : Below (w1.alloc (.cells #[.slice none 0 0] 31)).heap.size (w1.alloc (.cells #[.slice none 0 0] 31)) ((w1.alloc (.cells #[.slice none 0 0] 31)).alloc (.cells #[.slice (some ⟨w1.heap.size, 0, none⟩) 1 1] 40)) := (Below.refl _ _).alloc (Nat.le_refl _) _
    have hg9 := heap_alloc_new (w1.alloc (.cells #[.slice none 0 0] 31)) (.cells #[.slice (some ⟨w1.heap.size, 0, none⟩) 1 1] 40)
    refine ⟨_, rfl, ⟨_, _, _, by simpa using hg9, (hone.below hb2).mono (fun k hk => by subst hk; exact ⟨hs1, by simp⟩), by simp; omega⟩, (hb.alloc hs1 _).alloc (by simp; omega) _⟩
  · have hnm : normL L = L := normL_of (by intro e; subst e; simp at hl; omega)
    have hn0 : ((n : Int) == 0) = false := by simp; omega
    rw [hnm]
    clear h hR hany ho1 ho2 HP hl hnm
    go_enter Try.func22, Try.ntmps22
    go_wp2_with (first
      | (go_at_call 46; refine HP'.out.mono ?_; rintro e w' ⟨rfl, rfl⟩)
      | (go_at_call 31; refine HR.out.mono ?_; rintro e w' ⟨rfl, rfl⟩)
      | (go_at_call 32; refine HTW.out.mono ?_; rintro e w1 ⟨a', c', rfl, hf, hb⟩))
    go_ret
    have hs1 := hb.size
    have hr := (hf.rdl HWF.out)
    have hr2 : RdL (fun k => w.heap.size ≤ k ∧ k ≠ w1.heap.size) w1 a' n c' L := by
      obtain ⟨vs, v1, v2, v3⟩ := hr
      refine ⟨vs, v1, fun hp ad e => ⟨v2 hp ad e, ?_⟩, v3.1, fun i x hx => ?_⟩
      · obtain ⟨b, off, e2, hbl, _⟩ := v1.at_ hp
        rw [e] at e2
        cases e2
        simp only
        omega
      · obtain ⟨ra, rc, e1, e2, e3⟩ := v3.2 i x hx
        refine ⟨ra, rc, e1, e2, fun hp ad e => ⟨e3 hp ad e, ?_⟩⟩
        obtain ⟨b, off, e4, hc4⟩ := e2.2.2.2.2.2 hp
        rw [e] at e4
        cases e4
        have hb3 : b < w1.heap.size := block_lt_of_cell (hc4 0 hp)
        show b ≠ w1.heap.size
        omega
    refine ⟨_, rfl, ⟨_, _, _, heap_alloc_new _ _, hr2.below ((Below.refl _ _).alloc (Nat.le_refl _) _), by simp; omega⟩, hb.alloc hs1 _⟩
end Go.Proofs.Ytndlebopfojjeaa.U
