/-
  The document's First, parted.
-/
import Derived.Test.YtfldjoiohejilaaJHas
namespace Go.Proofs.Ytfldjoiohejilaa.U
open Go.RowKit
set_option linter.unusedVariables false
set_option linter.unusedSimpArgs false
set_option maxRecDepth 100000

theorem ret_i64F {x y : Int} (h : x = y) : Ending.returned (.int .i64 x) = Ending.returned (.int .i64 y) := by rw [h]
theorem firstR_at {x : List Int} {i : Nat} {z : Int} (hz : x[i]? = some z) (hc : cls false z ≠ 0) (hb : ∀ j y, j < i → x[j]? = some y → cls false y = 0) : firstR x = i := by
  unfold firstR
  have : x.findIdx? (fun c => cls false c != 0) = some i := by
    rw [List.findIdx?_eq_some_iff_getElem]
    obtain ⟨hi, e⟩ := List.getElem?_eq_some_iff.1 hz
    refine ⟨hi, by rw [e]; simpa using hc, fun j hj => ?_⟩
    have := hb j _ hj (List.getElem?_eq_getElem (by omega))
    simp [this]
  rw [this]; rfl
theorem firstR_none {x : List Int} (hb : ∀ (j : Nat) y, x[j]? = some y → cls false y = 0) : firstR x = x.length - 1 := by
  unfold firstR
  have : x.findIdx? (fun c => cls false c != 0) = none := by
    rw [List.findIdx?_eq_none_iff]
    intro y hy
    obtain ⟨j, hj⟩ := List.mem_iff_getElem?.1 hy
    simp [hb j y hj]
  rw [this]; rfl
set_option maxHeartbeats 1000000 in
theorem rfirst_any (a : Option Addr) (m c : Nat) (x : List Int) (w : World) (h : Rd .i32 w a m c x) :
    Calls Try.prog 50 #[.slice a m c] w fun e w' => e = .returned (.int .i64 (firstR x : Nat)) ∧ w' = w := by
  have hx := h.1
  have hsm := h.small
  have H := Lib.hid (And.intro h hx)
  have HCL : Hid (∀ z W, Calls Try.prog 72 #[.int .i32 z, .bool false] W fun e w' => e = .returned (.int .i64 (cls false z)) ∧ W = w') := fun z W => rclass_any z false W
  obtain ⟨R, hR⟩ : ∃ R, firstR x = R := ⟨_, rfl⟩
  rw [hR]
  have HR := Lib.hid hR
  clear h hx hR
  go_enter Try.func50, Try.ntmps50
  go_wp2_with fail
  go_loopw [3] (fun v3 wr => ∃ i : Nat, v3 = .int .i64 i ∧ i ≤ m ∧ Hid (wr = w ∧ ∀ j y, j < i → x[j]? = some y → cls false y = 0)) (fun v3 _ => m - (intOf v3).toNat)
  case atStart => exact ⟨0, rfl, Nat.zero_le _, rfl, fun j y h => by omega⟩
  case round =>
    obtain ⟨i, rfl, hi, hst⟩ := hrel
    have hwr := hst.out.1
    subst hwr
    by_cases hlt : i < m
    · obtain ⟨z, hz⟩ : ∃ z, x[i]? = some z := ⟨_, List.getElem?_eq_getElem (by have := H.out.2; omega)⟩
      obtain ⟨b, off, rfl, hc⟩ := H.out.1.2.2.2.2.2 (by omega)
      have hcz := hc i hlt
      rw [List.getD_eq_getElem?_getD, hz, Option.getD_some] at hcz
      have hbl := block_lt_of_cell hcz
      obtain ⟨cz, hcl⟩ : ∃ cz, cls false z = cz := ⟨_, rfl⟩
      have HC : Hid (∀ W, Calls Try.prog 72 #[.int .i32 z, .bool false] W fun e w' => e = .returned (.int .i64 cz) ∧ W = w') := by rw [← hcl]; exact HCL.out z
      by_cases h0 : cz = 0
      · subst h0
        have HN : Hid (wr = wr ∧ ∀ j y, j < i + 1 → x[j]? = some y → cls false y = 0) := ⟨rfl, fun j y hj hy => by
          by_cases e : j = i
          · subst e; rw [hz] at hy; cases hy; exact hcl
          · exact hst.out.2 j y (by omega) hy⟩
        clear hst hz hc hcl
        go_wp2_with (go_at_call 72; (refine (HC.out _).mono ?_); rintro e wq ⟨rfl, hwq⟩; subst hwq)
        go_roundw
        case rel => exact ⟨i + 1, by go_num, by omega, ⟨(by first | trivial | rfl), HN.out.2⟩⟩
        case measure => simp [intOf]; omega
      · have h0' : (cz != 0) = true := by simpa using h0
        have HF := Lib.hid (firstR_at hz (by rw [hcl]; exact h0) hst.out.2)
        clear hst hz hc hcl
        go_wp2_with (go_at_call 72; (refine (HC.out _).mono ?_); rintro e wq ⟨rfl, hwq⟩; subst hwq)
        go_ret
        exact ⟨ret_i64F (by rw [← HR.out, HF.out]), rfl⟩
    · obtain rfl : i = m := by omega
      have HF := Lib.hid (firstR_none (x := x) (fun j y hy => hst.out.2 j y (by have := H.out.2; have := (List.getElem?_eq_some_iff.1 hy).1; omega) hy))
      have hRm : R = i - 1 := by rw [← HR.out, HF.out, H.out.2]
      have hmx : max (0 : Int) ((i : Int) - 1) = (R : Int) := by omega
      clear hst
      go_wp2_with fail
      go_ret
      exact ⟨ret_i64F (by first | rfl | exact hmx | omega), rfl⟩
/-- append of one rune: what changes -/
theorem app_oneF (w : World) (B : Nat) (v : Value) (n : Nat) (xs : List Int) (z : Int) (h : w.ownsRow B 21 1 v n (ints xs)) (hB : B ≤ w.heap.size) (hz : (Lit.int .i32 z).wf = true) (hn : n ≤ 1099511627776) :
    ∃ a' c' w', (∀ ty, (Builtin.append_ #[35, 35] ty #[v, .slice (some ⟨w.heap.size, 0, none⟩) 1 1]).run Try.prog (w.alloc (.cells #[.int .i32 z] 21)) = .ok (.slice a' (n + 1) c') w') ∧ w'.ownsRow B 21 1 (.slice a' (n + 1) c') (n + 1) (ints (xs ++ [z])) ∧ Below B w w' ∧
      ∀ (u : Value) (m : Nat) (ys : List Value), w.ownsRow B 21 1 u m ys → (∀ k, u.ownBlock = some k → v.ownBlock ≠ some k) → w'.ownsRow B 21 1 u m ys ∧ (∀ k, u.ownBlock = some k → (Value.slice a' (n + 1) c').ownBlock ≠ some k) := by
  have hba : Below B w (w.alloc (.cells #[.int .i32 z] 21)) := (Below.refl _ w).alloc hB _
  have hr := Rd_new .i32 w [z] #[.int .i32 z] 21 1 rfl rfl (by unfold maxLen; omega) (by simpa using hz)
  obtain ⟨i0, hi0, hz0, hz1, hz2⟩ := info_parts infoI
  obtain ⟨v', w', hrun, hown, hfr, hnear⟩ := run_append_own_k (P := Try.prog) (w.alloc (.cells #[.int .i32 z] 21)) B 35 21 i0 _ 1 4 Try.underlying35 hi0 hz0 hz1 hz2 rfl (by decide) v n _ (h.alloc _) (some ⟨w.heap.size, 0, none⟩) 1 1 (ints [z]) (by simp [ints]) (fun hp => Rd_cells hr hp) (ints1 _ _) (by unfold maxLen; omega) (by omega) (by simp; omega)
  obtain ⟨a', c', rfl⟩ := own_slice hown
  refine ⟨a', c', w', hrun, ?_, hba.trans (hfr.below (by simp; omega) (fun k e => (h.lt k e.symm).1)), ?_⟩
  · unfold ints at hown ⊢
    rw [List.map_append]
    exact hown
  · intro u m ys hu ha
    refine ⟨own_fr (hu.alloc _) hfr (fun k e e2 => ha k e e2.symm), fun k e e2 => ?_⟩
    have hlt := (hu.lt k e).2
    rcases hnear with h1 | h1
    · exact ha k e (by rw [← h1]; exact e2)
    · rw [h1] at e2
      simp at e2
      omega
end Go.Proofs.Ytfldjoiohejilaa.U
