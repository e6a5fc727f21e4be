/-
  The document's Twin: the same lines, in rows of the caller's own.
-/
import Derived.Test.YtndlebopfojjeaaTSmall
namespace Go.Proofs.Ytndlebopfojjeaa.U
open Go.RowKit
set_option linter.unusedVariables false
set_option linter.unusedSimpArgs false
set_option maxRecDepth 100000

theorem fresh_snoc (wr w1 : World) (B : Nat) (a : Option Addr) (n c : Nat) (L : List (List Int)) (h : FreshL B wr a n c L) (hb : Below wr.heap.size wr w1) (hB : B ≤ wr.heap.size) (ra : Option Addr) (m rc : Nat) (x : List Int) (hx : x.length = m) (hv : w1.ownsRow wr.heap.size 21 1 (.slice ra m rc) m (ints x)) (hn : n ≤ 1099511627776) :
    ∃ a' c' w', (∀ ty, (Builtin.append_ #[22, 22] ty #[.slice a n c, .slice (some ⟨w1.heap.size, 0, none⟩) 1 1]).run Try.prog (w1.alloc (.cells #[.slice ra m rc] 31)) = .ok (.slice a' (n + 1) c') w') ∧ FreshL B w' a' (n + 1) c' (L ++ [x]) ∧ Below B wr w' := by
  obtain ⟨vs, h1, h2, h3, h4⟩ := h
  obtain ⟨i0, hi0, hz0, hz1, hz2⟩ := info_parts infoS
  have hg := heap_alloc_new w1 (.cells #[.slice ra m rc] 31)
  have hb0 : Below w1.heap.size w1 (w1.alloc (.cells #[.slice ra m rc] 31)) := (Below.refl _ _).alloc (Nat.le_refl _) _
  have h11 : w1.ownsRow B 31 1 (.slice a n c) n vs := own_fr h1 (Fr.of_below (fun _ => False) hb) (fun _ _ h => h)
  obtain ⟨v', w', hrun, hown, hfr, hnear⟩ := run_append_own_k (P := Try.prog) (w1.alloc (.cells #[.slice ra m rc] 31)) B 22 31 i0 _ 1 24 Try.underlying22 hi0 hz0 hz1 hz2 rfl (by decide) (.slice a n c) n vs (h11.alloc _) (some ⟨w1.heap.size, 0, none⟩) 1 1 [.slice ra m rc] rfl
    (fun _ => ⟨_, rfl, fun j u hu => by rw [add_lit, cell_row hg]; simpa using hu⟩) (by intro u hu; simp only [List.mem_singleton] at hu; subst hu; rfl) (by unfold maxLen; omega) (by omega) (by simp; have := hb.size; omega)
  obtain ⟨a', c', rfl⟩ := own_slice hown
  have hsz := hb.size
  have hbB : Below B wr w' := ((hb.mono hB).trans (hb0.mono (by omega))).trans (hfr.below (by simp; omega) (fun k e => (h11.lt k e.symm).1))
  have far : ∀ {B' n' : Nat} {u : Value} {xs : List Value}, w1.ownsRow B' 21 1 u n' xs → w'.ownsRow B' 21 1 u n' xs := by
    intro B' n' u xs ho
    refine own_fr (ho.alloc _) hfr (fun k e hk => ?_)
    rcases h11.2 with ⟨hv0, _⟩ | ⟨g, cap, cur, hv0, _, hh, _⟩
    · injection hv0 with e1 e2 e3
      subst e1
      cases hk
    · injection hv0 with e1 e2 e3
      subst e1
      have hkg : k = g := by
        have : some k = some g := hk
        injection this
      exact row_block_apart ho hh (by decide) e hkg
  refine ⟨a', c', w', hrun, ⟨vs ++ [.slice ra m rc], hown, by simp [h2], ?_, ?_⟩, hbB⟩
  · intro i y hy
    by_cases hi : i < L.length
    · rw [List.getElem?_append_left hi] at hy
      obtain ⟨v, e1, e2⟩ := h3 i y hy
      exact ⟨v, by rw [List.getElem?_append_left (by omega)]; exact e1, far (own_fr e2 (Fr.of_below (fun _ => False) hb) (fun _ _ h => h))⟩
    · rw [List.getElem?_append_right (by omega)] at hy
      have hi0 : i - L.length = 0 := by
        have := (List.getElem?_eq_some_iff.1 hy).1
        simp at this; omega
      rw [hi0] at hy
      simp at hy
      subst hy
      exact ⟨.slice ra m rc, by rw [List.getElem?_append_right (by omega), h2, hi0]; rfl, by rw [hx]; exact far (own_mono hv hB)⟩
  · intro i j vi vj hij e1 e2 k ek
    by_cases hj : j < vs.length
    · rw [List.getElem?_append_left (by omega)] at e1
      rw [List.getElem?_append_left hj] at e2
      exact h4 i j vi vj hij e1 e2 k ek
    · have hj2 := (List.getElem?_eq_some_iff.1 e2).1
      simp only [List.length_append, List.length_cons, List.length_nil] at hj2
      have hje : j - vs.length = 0 := by omega
      rw [List.getElem?_append_right (by omega), hje] at e2
      simp at e2
      subst e2
      rw [List.getElem?_append_left (by omega)] at e1
      have hil : i < L.length := by omega
      obtain ⟨v, f1, f2⟩ := h3 i _ (List.getElem?_eq_getElem hil)
      rw [e1] at f1
      injection f1 with f1
      subst f1
      intro e3
      have := (f2.lt k ek).2
      have := (hv.lt k e3).1
      omega
theorem FreshL.nil (B : Nat) (w : World) : FreshL B w none 0 0 [] := ⟨[], World.ownsRow_nil _ _ _ _, rfl, fun i x h => by simp at h, fun i j vi vj _ h => by simp at h⟩

set_option maxHeartbeats 4000000 in
theorem rtwin_any (F : Nat → Prop) (a : Option Addr) (n c : Nat) (L : List (List Int)) (w : World) (h : RdL F w a n c L) (hs : sizeN (lens L) ≤ 1048576) :
    Calls Try.prog 32 #[.slice a n c] w fun e w' => ∃ a' c', e = .returned (.slice a' n c') ∧ FreshL w.heap.size w' a' n c' L ∧ Below w.heap.size w w' := by
  have hl := h.len
  have hsm := h.small
  have hcnt := size_count L
  have HL := Lib.hid hl
  have H := Lib.hid h
  have HS : Hid (sizeN (lens L) ≤ 1048576) := hs
  have hn : n ≤ 1048576 := by omega
  clear h hl hs hcnt
  go_enter Try.func32, Try.ntmps32
  go_wp2_with fail
  go_loopw [3, 4] (fun v3 v4 wr => ∃ (k : Nat) (ra : Option Addr) (rc : Nat), v4 = .int .i64 k ∧ v3 = .slice ra k rc ∧ k ≤ n ∧ Hid (FreshL w.heap.size wr ra k rc (L.take k) ∧ Below w.heap.size w wr)) (fun _ v4 _ => n - (intOf v4).toNat)
  case atStart => exact ⟨0, none, 0, rfl, rfl, Nat.zero_le _, FreshL.nil _ _, Below.refl _ _⟩
  case round =>
    obtain ⟨k, ra, rc, rfl, rfl, hk, hst⟩ := hrel
    obtain ⟨hf, hb⟩ := hst.out
    clear hst
    by_cases hlt : k < n
    · obtain ⟨x, hx⟩ : ∃ x, L[k]? = some x := ⟨_, List.getElem?_eq_getElem (by have := HL.out; omega)⟩
      obtain ⟨b, off, xa, xc, rfl, hbl, _, hc, hrd, _⟩ := H.out.get hb hx
      have hbw : b < wr.heap.size := by have := hb.size; omega
      have hxl : x.length ≤ 1048576 := by
        have h1 := size_take hx
        have h2 := size_take_le L (k + 1)
        have := HS.out
        omega
      have hba : Below wr.heap.size wr (wr.alloc (.cells #[] 21)) := (Below.refl _ _).alloc (Nat.le_refl _) _
      have ho0 : (wr.alloc (.cells #[] 21)).ownsRow wr.heap.size 21 1 (.slice (some ⟨wr.heap.size, 0, none⟩) 0 0) 0 (ints []) := by
        have := own_of (B := wr.heap.size) (n := 0) (cap := 0) (size := 1) (heap_alloc_new wr (.cells #[] 21)) (Nat.le_refl _) (Nat.zero_le _) (by unfold maxLen; omega) rfl
        simpa [ints] using this
      obtain ⟨a2, c2, w2, hrun, ho2, hb2⟩ := app_rd (wr.alloc (.cells #[] 21)) wr.heap.size _ 0 [] xa x.length xc x ho0 (by simp) (hrd.below hba) (by omega)
      rw [Nat.zero_add] at hrun ho2
      rw [List.nil_append] at ho2
      obtain ⟨a3, c3, w3, hrun3, hf3, hb3⟩ := fresh_snoc wr w2 w.heap.size ra k rc (L.take k) hf (hba.trans hb2) hb.size a2 x.length c2 x rfl ho2 (by omega)
      have HRUN := Lib.hid hrun
      have HRUN3 := Lib.hid hrun3
      have HN : Hid (FreshL w.heap.size w3 a3 (k + 1) c3 (L.take (k + 1)) ∧ Below w.heap.size w w3) := by
        rw [take_snocI hx]
        exact ⟨hf3, hb.trans hb3⟩
      obtain ⟨y, hy⟩ : ∃ y, x.length = y := ⟨_, rfl⟩
      rw [hy] at hc HRUN HRUN3 hxl
      clear hx hrd hba ho0 hrun ho2 hb2 hrun3 hf3 hb3 hf hy
      go_wp2_with (at_builtin; go_must (first
        | (with_reducible refine Lib.wpList_append_run _ rfl (.tmp 12) (.tmp 16) _ _ rfl _ _ rfl rfl _ _ (HRUN.out _) ?_)
        | (with_reducible refine Lib.wpList_append_run _ rfl (.tmp 11) (.tmp 18) _ _ rfl _ _ rfl rfl _ _ (HRUN3.out _) ?_)))
      go_roundw
      case rel => exact ⟨k + 1, a3, c3, by go_num, rfl, by omega, HN⟩
      case measure => simp [intOf]; omega
    · obtain rfl : k = n := by omega
      have HF : Hid (FreshL w.heap.size wr ra k rc L ∧ Below w.heap.size w wr) := by
        rw [List.take_of_length_le (by have := HL.out; omega)] at hf
        exact ⟨hf, hb⟩
      clear hf hb
      go_wp2_with fail
      go_ret
      exact ⟨_, _, rfl, HF.out.1, HF.out.2⟩
end Go.Proofs.Ytndlebopfojjeaa.U
