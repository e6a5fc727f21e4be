/-
  replaced: lines with others in the place of some.
-/
import Derived.Test.YtfldjoiohejilaaKCopy
import Derived.Deep.RegionHeld3
namespace Go.Proofs.Ytfldjoiohejilaa.U
open Go.RowKit
set_option linter.unusedVariables false
set_option linter.unusedSimpArgs false
set_option maxRecDepth 100000

set_option maxHeartbeats 4000000 in
theorem kreplaced_any (F G : Nat → Prop) (a : Option Addr) (n c : Nat) (L : List (List Int)) (b : Option Addr) (m d : Nat) (M : List (List Int)) (f t : Nat) (w : World) (h : RdL F w a n c L) (hM : RdL G w b m d M) (hs : sizeN (lens L) ≤ 1073741824) (hn0 : 0 < n) (hf : f ≤ n) (ht : t ≤ n) (hm : m ≤ 1073741824) :
    Calls Try.prog 47 #[.slice a n c, .int .i64 f, .int .i64 t, .slice b m d] w fun e w' => ∃ ra rc, e = .returned (.slice ra (f + m + (n - t)) rc) ∧ RdL (fun x => G x ∨ w.heap.size ≤ x) w' ra (f + m + (n - t)) rc (L.take f ++ M ++ L.drop t) ∧ Below w.heap.size w w' := by
  have hsm := h.small
  have hcnt := size_count L
  have hl := h.len
  obtain ⟨lb, lo, rfl, hlb, -⟩ := h.at_ hn0
  have hnc : n ≤ c ∧ c ≤ 9223372036854775807 := by obtain ⟨vs, h1, _⟩ := h; have := h1.2.1; have := h1.2.2.1; unfold maxLen at this; exact ⟨by omega, by omega⟩
  obtain ⟨hnc, hcs⟩ := hnc
  have hfc : f ≤ c := by omega
  have htc : t ≤ c := by omega
  obtain ⟨da, hda⟩ : ∃ da, (if c = t then some (⟨lb, lo, none⟩ : Addr) else (some (⟨lb, lo, none⟩ : Addr)).map (·.add (t * 1))) = da := ⟨_, rfl⟩
  have HC1 : Hid (∀ W, Below w.heap.size w W → Calls Try.prog 81 #[.slice (some ⟨lb, lo, none⟩) f c] W fun e w' => ∃ ra rc, e = .returned (.slice ra f rc) ∧ Hid (RdL (fun x => G x ∨ w.heap.size ≤ x) w' ra f rc (L.take f)) ∧ Below w.heap.size w w') := by
    intro W hW
    refine (kcopies_any F _ f c (L.take f) W ((h.below hW).take f hf) (Nat.le_trans (size_take_le L f) hs)).mono ?_
    rintro e w' ⟨ra, rc, rfl, hF, hb⟩
    exact ⟨ra, rc, rfl, (hF.rdl (fun x hx => lines_wf (rdl_wf h) x (List.mem_of_mem_take hx))).mono (fun x hx => .inr (by have := hW.size; omega)), hW.trans (hb.mono hW.size)⟩
  have HC2 : Hid (∀ W ra rc, Below w.heap.size w W → Hid (RdL (fun x => G x ∨ w.heap.size ≤ x) W ra f rc (L.take f)) → Calls Try.prog 81 #[.slice da (n - t) (c - t)] W fun e w' => ∃ rb rd, e = .returned (.slice rb (n - t) rd) ∧ Hid (RdL (fun x => G x ∨ w.heap.size ≤ x) w' ra f rc (L.take f) ∧ RdL (fun x => G x ∨ w.heap.size ≤ x) w' rb (n - t) rd (L.drop t)) ∧ Below w.heap.size w w') := by
    intro W ra rc hW hR
    have hd := (h.below hW).drop t ht
    rw [hda] at hd
    refine (kcopies_any F _ (n - t) (c - t) (L.drop t) W hd (by rw [show lens (L.drop t) = (lens L).drop t by unfold lens; rw [List.map_drop]]; exact Nat.le_trans (sizeN_drop_le2 _ t) hs)).mono ?_
    rintro e w' ⟨rb, rd, rfl, hF, hb⟩
    exact ⟨rb, rd, rfl, ⟨hR.out.below hb, (hF.rdl (fun x hx => lines_wf (rdl_wf h) x (List.mem_of_mem_drop hx))).mono (fun x hx => .inr (by have := hW.size; omega))⟩, hW.trans (hb.mono hW.size)⟩
  have HC3 : Hid (∀ W ra rc rb rd, Below w.heap.size w W → Hid (RdL (fun x => G x ∨ w.heap.size ≤ x) W ra f rc (L.take f) ∧ RdL (fun x => G x ∨ w.heap.size ≤ x) W rb (n - t) rd (L.drop t)) → Calls Try.prog 80 #[.slice (some ⟨W.heap.size, 0, none⟩) 3 3] (W.alloc (.cells #[.slice ra f rc, .slice b m d, .slice rb (n - t) rd] 22)) fun e w' => ∃ va vc, e = .returned (.slice va (f + m + (n - t)) vc) ∧ Hid (RdL (fun x => G x ∨ w.heap.size ≤ x) w' va (f + m + (n - t)) vc (L.take f ++ M ++ L.drop t) ∧ Below w.heap.size w w')) := by
    intro W ra rc rb rd hW hR
    have hB := bal W (.cells #[.slice ra f rc, .slice b m d, .slice rb (n - t) rd] 22)
    have hg := heap_alloc_new W (.cells #[.slice ra f rc, .slice b m d, .slice rb (n - t) rd] 22)
    refine (kcatL (fun x => G x ∨ w.heap.size ≤ x) W.heap.size ra b rb f rc m d (n - t) rd _ _ _ _ (cell_row hg 0) (cell_row hg 1) (cell_row hg 2) (hR.out.1.below hB) (((hM.below hW).below hB).mono (fun x hx => .inl hx)) (hR.out.2.below hB) (by omega)).mono ?_
    rintro e w' ⟨va, vc, rfl, h1, h2⟩
    exact ⟨va, vc, rfl, h1.mono (fun x hx => by rcases hx with hx | hx; exact hx; exact .inr (by have := hW.size; have := hB.size; omega)), hW.trans ((hB.trans (h2.mono hB.size)).mono hW.size)⟩
  have H0 : Hid (Below w.heap.size w w) := Below.refl _ _
  clear h hM hs hl hcnt hlb
  by_cases hct : c = t
  · rw [if_pos hct] at hda
    subst hda
    obtain rfl : n = t := by omega
    subst hct
    simp only [Nat.sub_self, Nat.add_zero] at HC2 HC3 ⊢
    clear hf ht hnc
    go_enter Try.func47, Try.ntmps47
    go_upto_region 1 with fail
    go_region_held3 (fun W => Below w.heap.size w W)
      (first | exact H0.out | exact HB1 | exact HB2 | exact HB1.drew | exact HB2.drew | exact H0.out.drew | exact HB2.alloc HB2.size _ | exact (HB2.alloc HB2.size _).drew | exact HF.out.2 | exact HF.out.2.drew)
      (first
        | (go_at_call 80; (with_reducible first | refine (HC3.out _ _ _ _ _ HB2 HR2).mono ?_ | refine (HC3.out _ _ _ _ _ HB2.drew HR2).mono ?_); rintro e w3 ⟨va, vc, rfl, HF⟩)
        | (go_at_call 81; (with_reducible first | refine (HC2.out _ _ _ HB1 HR1).mono ?_ | refine (HC2.out _ _ _ HB1.drew HR1).mono ?_); rintro e w2 ⟨rb, rd, rfl, HR2, HB2⟩)
        | (go_at_call 81; (with_reducible first | refine (HC1.out _ H0.out).mono ?_ | refine (HC1.out _ H0.out.drew).mono ?_); rintro e w1 ⟨ra, rc, rfl, HR1, HB1⟩))
    all_goals
      go_wp2
      go_ret
      exact ⟨_, _, rfl, HF.out.1, HF.out.2⟩
  · rw [if_neg hct] at hda
    simp only [Option.map_some, Nat.mul_one, add_lit] at hda
    subst hda
    go_enter Try.func47, Try.ntmps47
    go_upto_region 1 with fail
    go_region_held3 (fun W => Below w.heap.size w W)
      (first | exact H0.out | exact HB1 | exact HB2 | exact HB1.drew | exact HB2.drew | exact H0.out.drew | exact HB2.alloc HB2.size _ | exact (HB2.alloc HB2.size _).drew | exact HF.out.2 | exact HF.out.2.drew)
      (first
        | (go_at_call 80; (with_reducible first | refine (HC3.out _ _ _ _ _ HB2 HR2).mono ?_ | refine (HC3.out _ _ _ _ _ HB2.drew HR2).mono ?_); rintro e w3 ⟨va, vc, rfl, HF⟩)
        | (go_at_call 81; (with_reducible first | refine (HC2.out _ _ _ HB1 HR1).mono ?_ | refine (HC2.out _ _ _ HB1.drew HR1).mono ?_); rintro e w2 ⟨rb, rd, rfl, HR2, HB2⟩)
        | (go_at_call 81; (with_reducible first | refine (HC1.out _ H0.out).mono ?_ | refine (HC1.out _ H0.out.drew).mono ?_); rintro e w1 ⟨ra, rc, rfl, HR1, HB1⟩))
    all_goals
      go_wp2
      go_ret
      exact ⟨_, _, rfl, HF.out.1, HF.out.2⟩
end Go.Proofs.Ytfldjoiohejilaa.U
