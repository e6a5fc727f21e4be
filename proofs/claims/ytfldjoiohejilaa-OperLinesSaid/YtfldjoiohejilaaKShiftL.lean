/-
  The program's longer, shifted, and Shift's closures.
-/
import Derived.Test.YtfldjoiohejilaaKThrI
import Derived.Test.YtfldjoiohejilaaKPasP
namespace Go.Proofs.Ytfldjoiohejilaa.U
open Go.RowKit
set_option linter.unusedVariables false
set_option linter.unusedSimpArgs false
set_option maxRecDepth 100000

/-- how many runes a line gets when it is shifted -/
def longI (by_ : Int) (x : List Int) : Int := if x = [] then 0 else if by_ < 0 then -(min (-by_) (blkN x : Int)) else by_
theorem shift_parts (by_ : Int) (x : List Int) : shiftX by_ x = if longI by_ x < 0 then x.drop (-(longI by_ x)).toNat else blanksR (longI by_ x).toNat ++ x := by
  by_cases hx : x = []
  · subst hx
    have e1 : shiftX by_ [] = [] := by
      unfold shiftX
      split
      · rfl
      · rw [dropB_drop]; simp
    have e2 : longI by_ [] = 0 := rfl
    rw [e1, e2, if_neg (by decide)]
    simp [blanksR]
  · unfold shiftX longI
    rw [if_neg hx, if_neg hx]
    by_cases h1 : 0 < by_
    · rw [if_pos h1, if_neg (by omega), if_neg (by omega)]
    · rw [if_neg h1, dropB_drop]
      by_cases h2 : by_ < 0
      · rw [if_pos h2]
        by_cases h3 : blkN x = 0
        · rw [if_neg (by omega), h3]
          have : (-(min (-by_) ((0 : Nat) : Int))).toNat = 0 := by omega
          rw [this]
          simp [blanksR]
        · rw [if_pos (by omega)]
          congr 1
          omega
      · rw [if_neg h2, if_neg (by omega)]
        obtain rfl : by_ = 0 := by omega
        simp [blanksR]
theorem long_bound {by_ : Int} (h1 : -64 ≤ by_) (h2 : by_ ≤ 64) (x : List Int) : -64 ≤ longI by_ x ∧ longI by_ x ≤ 64 ∧ -(longI by_ x) ≤ (x.length : Int) := by
  have := blkN_le x
  unfold longI
  split
  · subst_vars; simp
  · split <;> omega
theorem shift_len (by_ : Int) (x : List Int) : ((shiftX by_ x).length : Int) = (x.length : Int) + longI by_ x := by
  rw [shift_parts]
  have hb := blkN_le x
  have h0 : -(longI by_ x) ≤ (x.length : Int) ∨ 0 ≤ longI by_ x := by
    unfold longI
    split
    · omega
    · split
      · left; omega
      · right; omega
  split
  · rw [List.length_drop]; omega
  · rw [List.length_append]; unfold blanksR; rw [List.length_replicate]; omega
set_option maxHeartbeats 2000000 in
theorem klonger_any (xa : Option Addr) (m xc : Nat) (x : List Int) (by_ : Int) (w : World) (h : Rd .i32 w xa m xc x) (hm : m ≤ 1048576) (h1 : -64 ≤ by_) (h2 : by_ ≤ 64) :
    Calls Try.prog 68 #[.slice xa m xc, .int .i64 by_] w fun e w' => e = .returned (.int .i64 (longI by_ x)) ∧ Below w.heap.size w w' := by
  have hx := h.1
  have hbk := blkN_le x
  have HB : Hid (Calls Try.prog 94 #[.slice xa m xc] w fun e w' => e = .returned (.int .i64 (blkN x : Nat)) ∧ Below w.heap.size w w') := (kblanks_any xa m xc x w h).mono (fun e w' h => ⟨h.1, by rw [h.2]; exact Below.refl _ _⟩)
  obtain ⟨bk, hbke⟩ : ∃ bk, blkN x = bk := ⟨_, rfl⟩
  rw [hbke] at HB hbk
  by_cases hm0 : m = 0
  · have hl : longI by_ x = 0 := by unfold longI; rw [if_pos (List.eq_nil_of_length_eq_zero (by omega))]
    rw [hl]
    subst hm0
    clear h hx hbk hl
    go_enter Try.func68, Try.ntmps68
    go_wp2
    go_ret
    exact ⟨rfl, Below.refl _ _⟩
  · have hne : x ≠ [] := by intro e; rw [e] at hx; simp at hx; omega
    have hm0i : ¬ (m : Int) = 0 := by omega
    by_cases hb : by_ < 0
    · obtain ⟨nb, hnb⟩ : ∃ nb, -by_ = nb := ⟨_, rfl⟩
      obtain ⟨mn, hmn⟩ : ∃ mn, min nb (bk : Int) = mn := ⟨_, rfl⟩
      obtain ⟨rs, hrs⟩ : ∃ rs, -mn = rs := ⟨_, rfl⟩
      have hl : longI by_ x = rs := by unfold longI; rw [if_neg hne, if_pos hb, hbke, hnb, hmn, hrs]
      rw [hl]
      have hbd : decide (by_ < 0) = true := decide_eq_true hb
      have hmnb : -64 ≤ mn ∧ mn ≤ 64 := by omega
      clear h hx hbk hl hne
      go_enter Try.func68, Try.ntmps68
      go_wp2_with (go_at_call 94; (with_reducible refine HB.out.mono ?_); rintro e w1 ⟨rfl, HB1⟩)
      go_ret
      exact ⟨rfl, HB1⟩
    · have hl : longI by_ x = by_ := by unfold longI; rw [if_neg hne, if_neg hb]
      rw [hl]
      have hbd : decide (by_ < 0) = false := decide_eq_false hb
      clear h hx hbk hl hne
      go_enter Try.func68, Try.ntmps68
      go_wp2
      go_ret
      exact ⟨rfl, Below.refl _ _⟩
set_option maxHeartbeats 4000000 in
theorem kshifted_any (xa : Option Addr) (m xc : Nat) (x : List Int) (by_ : Int) (w : World) (h : Rd .i32 w xa m xc x) (hm : m ≤ 1048576) (h1 : -64 ≤ by_) (h2 : by_ ≤ 64) :
    Calls Try.prog 70 #[.slice xa m xc, .int .i64 by_] w fun e w' => ∃ ra rc, e = .returned (.slice ra (shiftX by_ x).length rc) ∧ w'.ownsRow w.heap.size 21 1 (.slice ra (shiftX by_ x).length rc) (shiftX by_ x).length (ints (shiftX by_ x)) ∧ Below w.heap.size w w' := by
  have hx := h.1
  have hbd := long_bound h1 h2 x
  have hpar := shift_parts by_ x
  obtain ⟨l, hl⟩ : ∃ l, longI by_ x = l := ⟨_, rfl⟩
  have HL : Hid (Calls Try.prog 68 #[.slice xa m xc, .int .i64 by_] w fun e w' => e = .returned (.int .i64 l) ∧ Hid (Below w.heap.size w w')) := by
    refine (klonger_any xa m xc x by_ w h hm h1 h2).mono ?_
    rintro e w' ⟨rfl, hb⟩
    exact ⟨by rw [hl], hb⟩
  rw [hl] at hbd hpar
  obtain ⟨hb1, hb2, hb3⟩ := hbd
  by_cases hneg : l < 0
  · rw [if_pos hneg] at hpar
    obtain ⟨d, hd⟩ : ∃ d : Nat, -l = (d : Int) := ⟨(-l).toNat, by omega⟩
    have hdt : (-l).toNat = d := by omega
    rw [hdt] at hpar
    have hdm : d ≤ m := by omega
    have hlen : (shiftX by_ x).length = m - d := by rw [hpar, List.length_drop, hx]
    rw [hlen]
    have hmc := h.2.1
    obtain ⟨ad, rfl⟩ : ∃ ad, xa = some ad := by
      cases xa with
      | none => have := h.2.2.2.2.1 rfl; omega
      | some ad => exact ⟨ad, rfl⟩
    obtain ⟨da, hda⟩ : ∃ da, (if xc = d then (some ad : Option Addr) else some (ad.add d)) = da := ⟨_, rfl⟩
    have HC : Hid (∀ W, Hid (Below w.heap.size w W) → Calls Try.prog 41 #[.slice da (m - d) (xc - d)] W fun e w' => ∃ ra rc, e = .returned (.slice ra (m - d) rc) ∧ Hid (w'.ownsRow w.heap.size 21 1 (.slice ra (m - d) rc) (m - d) (ints (shiftX by_ x)) ∧ Below w.heap.size w w')) := by
      intro W hW
      have hdr := (h.below hW.out).drop d hdm
      have hda2 : (if xc = d then (some ad : Option Addr) else (some ad).map (·.add (d * 1))) = da := by
        rw [← hda]
        split
        · rfl
        · simp
      rw [hda2] at hdr
      refine (copied_rd da (m - d) (xc - d) _ W hdr (by omega)).mono ?_
      rintro e w' ⟨ra, rc, rfl, ho, hb⟩
      rw [← hpar] at ho
      exact ⟨ra, rc, rfl, own_mono ho hW.out.size, btr hW.out hb⟩
    have hnd : decide (l < 0) = true := decide_eq_true hneg
    have hdc : d ≤ xc := by omega
    clear h hx hpar hdt hlen hl
    by_cases hxk : xc = d
    · rw [if_pos hxk] at hda
      subst hda
      have hmd : m - d = 0 := by omega
      subst hxk
      simp only [Nat.sub_self, hmd] at HC ⊢
      go_enter Try.func70, Try.ntmps70
      go_wp2_with (first
        | (go_at_call 68; (with_reducible refine HL.out.mono ?_); rintro e w1 ⟨rfl, HB1⟩)
        | (go_at_call 41; (with_reducible refine (HC.out _ HB1).mono ?_); rintro e w2 ⟨ra, rc, rfl, HF⟩))
      go_ret
      exact ⟨_, _, rfl, HF.out.1, HF.out.2⟩
    · rw [if_neg hxk] at hda
      subst hda
      go_enter Try.func70, Try.ntmps70
      go_wp2_with (first
        | (go_at_call 68; (with_reducible refine HL.out.mono ?_); rintro e w1 ⟨rfl, HB1⟩)
        | (go_at_call 41; (with_reducible refine (HC.out _ HB1).mono ?_); rintro e w2 ⟨ra, rc, rfl, HF⟩))
      go_ret
      exact ⟨_, _, rfl, HF.out.1, HF.out.2⟩
  · rw [if_neg hneg] at hpar
    obtain ⟨d, rfl⟩ : ∃ d : Nat, l = (d : Int) := ⟨l.toNat, by omega⟩
    rw [Int.toNat_natCast] at hpar
    have hlen : (shiftX by_ x).length = d + m := by rw [hpar, List.length_append, hx]; unfold blanksR; rw [List.length_replicate]
    rw [hlen]
    have HSP : Hid (∀ W, Hid (Below w.heap.size w W) → Calls Try.prog 95 #[.int .i64 (d : Nat)] W fun e w' => ∃ sa sc, e = .returned (.slice sa d sc) ∧ Hid (Below w.heap.size w w' ∧ Rd .i32 w' sa d sc (blanksR d))) := by
      intro W hW
      refine (kspaces_any d W (by omega)).mono ?_
      rintro e w' ⟨sa, sc, rfl, ho, hb⟩
      exact ⟨sa, sc, rfl, btr hW.out hb, own_rd ho (by intro z hz; unfold blanksR at hz; rw [List.eq_of_mem_replicate hz]; decide)⟩
    have HCT : Hid (∀ W sa sc, Hid (Below w.heap.size w W ∧ Rd .i32 W sa d sc (blanksR d)) → ∀ W2, (W2 = W.alloc (.cells #[.slice sa d sc, .slice xa m xc] 35) ∨ W2 = (W.alloc (.cells #[.slice sa d sc, .slice xa m xc] 35)).drew) → Calls Try.prog 46 #[.slice (some ⟨W.heap.size, 0, none⟩) 2 2] W2 fun e w' => ∃ ra rc, e = .returned (.slice ra (d + m) rc) ∧ Hid (w'.ownsRow w.heap.size 21 1 (.slice ra (d + m) rc) (d + m) (ints (shiftX by_ x)) ∧ Below w.heap.size w w')) := by
      intro W sa sc hW W2 hW2
      refine (kcat2 W W2 sa xa d sc m xc _ _ hW.out.2 (h.below hW.out.1) (by omega) hW2).mono ?_
      rintro e w' ⟨ra, rc, rfl, ho, hb⟩
      rw [← hpar] at ho
      exact ⟨ra, rc, rfl, own_mono ho hW.out.1.size, btr hW.out.1 hb⟩
    have hnd : decide ((d : Int) < 0) = false := decide_eq_false hneg
    clear h hx hpar hlen hl
    go_enter Try.func70, Try.ntmps70
    go_wp2_with (first
      | (go_at_call 68; (with_reducible refine HL.out.mono ?_); rintro e w1 ⟨rfl, HB1⟩)
      | (go_at_call 95; (with_reducible refine (HSP.out _ HB1).mono ?_); rintro e w2 ⟨sa, sc, rfl, HS⟩)
      | (go_at_call 46; (with_reducible first | refine (HCT.out _ _ _ HS _ (Or.inl rfl)).mono ?_ | refine (HCT.out _ _ _ HS _ (Or.inr rfl)).mono ?_); rintro e w3 ⟨ra, rc, rfl, HF⟩))
    go_ret
    exact ⟨_, _, rfl, HF.out.1, HF.out.2⟩
/-- Shift's closures -/
theorem kshift1_any (xa : Option Addr) (m xc : Nat) (x : List Int) (by_ : Int) (f t : Int) (hb : Nat) (w : World) (h : Rd .i32 w xa m xc x) (hm : m ≤ 1048576) (h1 : -64 ≤ by_) (h2 : by_ ≤ 64) (hc : w.cell? ⟨hb, 0, none⟩ = some (.int .i64 by_)) :
    Calls Try.prog 67 #[.slice xa m xc, .int .i64 f, .int .i64 t, .pointer (some ⟨hb, 0, none⟩)] w fun e w' => e = .returned (.int .i64 (longI by_ x)) ∧ Below w.heap.size w w' := by
  have HL := Lib.hid (klonger_any xa m xc x by_ w h hm h1 h2)
  have hbl := block_lt_of_cell hc
  clear h
  go_enter Try.func67, Try.ntmps67
  go_wp2_with (go_at_call 68; (with_reducible refine HL.out.mono ?_); rintro e w1 ⟨rfl, HB1⟩)
  go_ret
  exact ⟨rfl, HB1⟩
theorem kshift2_any (xa : Option Addr) (m xc : Nat) (x : List Int) (by_ : Int) (f t : Int) (hb : Nat) (w : World) (h : Rd .i32 w xa m xc x) (hm : m ≤ 1048576) (h1 : -64 ≤ by_) (h2 : by_ ≤ 64) (hc : w.cell? ⟨hb, 0, none⟩ = some (.int .i64 by_)) :
    Calls Try.prog 69 #[.slice xa m xc, .int .i64 f, .int .i64 t, .pointer (some ⟨hb, 0, none⟩)] w fun e w' => ∃ ra rc, e = .returned (.slice ra (shiftX by_ x).length rc) ∧ w'.ownsRow w.heap.size 21 1 (.slice ra (shiftX by_ x).length rc) (shiftX by_ x).length (ints (shiftX by_ x)) ∧ Below w.heap.size w w' := by
  obtain ⟨sl, hsl⟩ : ∃ sl, (shiftX by_ x).length = sl := ⟨_, rfl⟩
  have hK := kshifted_any xa m xc x by_ w h hm h1 h2
  rw [hsl] at hK ⊢
  have HL : Hid (Calls Try.prog 70 #[.slice xa m xc, .int .i64 by_] w fun e w' => ∃ ra rc, e = .returned (.slice ra sl rc) ∧ Hid (w'.ownsRow w.heap.size 21 1 (.slice ra sl rc) sl (ints (shiftX by_ x)) ∧ Below w.heap.size w w')) := hK
  have hbl := block_lt_of_cell hc
  clear h hK hsl
  go_enter Try.func69, Try.ntmps69
  go_wp2_with (go_at_call 70; (with_reducible refine HL.out.mono ?_); rintro e w1 ⟨ra, rc, rfl, HF⟩)
  go_ret
  exact ⟨_, _, rfl, HF.out.1, HF.out.2⟩
end Go.Proofs.Ytfldjoiohejilaa.U
