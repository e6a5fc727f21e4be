/-
  The program's fits: do lines have a change's old ones where it begins?
-/
import Derived.Test.YtalhiedbhcklgaaVCat
namespace Go.Proofs.Ytalhiedbhcklgaa.U
open Go.RowKit
set_option linter.unusedVariables false
set_option linter.unusedSimpArgs false
set_option maxRecDepth 100000

def fitB (L : List (List Int)) (c : Ch) : Bool := decide (0 ≤ c.pos ∧ c.pos ≤ L.length ∧ (c.old.length : Int) ≤ L.length - c.pos ∧ (L.drop c.pos.toNat).take c.old.length = c.old)
/-- a piece of lines -/
theorem RdL.mid {F : Nat → Prop} {w : World} {a : Option Addr} {n c : Nat} {L : List (List Int)} (h : RdL F w a n c L) (k m : Nat) (hkm : k + m ≤ n) : RdL F w (if c = k then a else a.map (·.add (k * 1))) m (c - k) ((L.drop k).take m) := by
  exact (h.drop k (by omega)).take m (by omega)

set_option maxHeartbeats 4000000 in
theorem fits_any (F G : Nat → Prop) (a oa na : Option Addr) (n cap oc nc : Nat) (L : List (List Int)) (c : Ch) (w : World) (h : RdL F w a n cap L) (ho : RdL G w oa c.old.length oc c.old) (hp : i64b c.pos) :
    Calls Try.prog 40 #[.agg #[.int .i64 c.pos, .slice oa c.old.length oc, .slice na c.now.length nc], .slice a n cap] w fun e w' => e = .returned (.bool (fitB L c)) ∧ Below w.heap.size w w' := by
  obtain ⟨wb, hwb⟩ : ∃ wb, w.alloc (.cells #[.int .i64 c.pos, .slice oa c.old.length oc, .slice na c.now.length nc] 24) = wb := ⟨_, rfl⟩
  have hB : Below w.heap.size w wb := by rw [← hwb]; exact (Below.refl _ _).alloc (Nat.le_refl _) _
  have g1 : wb.heap[w.heap.size]? = some (.cells #[.int .i64 c.pos, .slice oa c.old.length oc, .slice na c.now.length nc] 24 (0, 0)) := by rw [← hwb]; exact heap_alloc_new w _
  have c0 : wb.cell? ⟨w.heap.size, 0, none⟩ = some (.int .i64 c.pos) := cell_row g1 0
  have c1 : wb.cell? ⟨w.heap.size, 1, none⟩ = some (.slice oa c.old.length oc) := cell_row g1 1
  have l0 := heap_lt g1
  have hn := h.small
  have hon := ho.small
  have hl := h.len
  obtain ⟨hp1, hp2⟩ := hp
  have HW := Lib.hid hwb
  have HB := Lib.hid hB
  have H := Lib.hid (h.below hB)
  have HO := Lib.hid (ho.below hB)
  have HL := Lib.hid hl
  obtain ⟨R, hR⟩ : ∃ R, fitB L c = R := ⟨_, rfl⟩
  have HR := Lib.hid hR
  rw [hR]
  obtain ⟨on, hx⟩ : ∃ x, c.old.length = x := ⟨_, rfl⟩
  obtain ⟨nn, hy⟩ : ∃ x, c.now.length = x := ⟨_, rfl⟩
  obtain ⟨p, hpe⟩ : ∃ x, c.pos = x := ⟨_, rfl⟩
  rw [hx, hy, hpe] at HW
  rw [hx] at c1 HO hon
  rw [hpe] at c0 hp1 hp2
  rw [hx, hy, hpe]
  have HX := Lib.hid hx
  have HP := Lib.hid hpe
  clear h ho hwb hB g1 hl hR hx hy hpe
  by_cases q1 : p < 0
  · have HF : Hid (R = false) := by
      show R = false
      rw [← HR.out]
      unfold fitB
      rw [decide_eq_false_iff_not, HP.out]
      omega
    go_enter Try.func40, Try.ntmps40
    go_upto_region 1 with fail
    rw [HW.out]
    go_wp2_with fail
    go_ret
    exact ⟨ret_bool HF.out.symm, HB.out⟩
  · obtain ⟨k, rfl⟩ : ∃ k : Nat, p = k := ⟨p.toNat, by omega⟩
    have t0 : ¬ ((k : Int) < 0) := by omega
    by_cases q2 : (n : Int) - (k : Int) < (on : Int)
    · have HF : Hid (R = false) := by
        show R = false
        rw [← HR.out]
        unfold fitB
        rw [decide_eq_false_iff_not, HP.out, HX.out, HL.out]
        omega
      go_enter Try.func40, Try.ntmps40
      go_upto_region 1 with fail
      rw [HW.out]
      go_wp2_with fail
      go_ret
      exact ⟨ret_bool HF.out.symm, HB.out⟩
    · have hkn : k + on ≤ n := by omega
      have hcn : n ≤ cap := by obtain ⟨vs, hv, _⟩ := H.out; exact hv.2.1
      have hcm : cap ≤ 9223372036854775807 := by obtain ⟨vs, hv, _⟩ := H.out; have := hv.2.2.1; unfold maxLen at this; omega
      have HEQ := equalFunc_any G F oa (if cap = k then a else a.map (·.add (k * 1))) on on oc (cap - k) c.old ((L.drop k).take on) wb.drew (HO.out.below (Below.refl _ _).drew) ((H.out.mid k on hkn).below (Below.refl _ _).drew)
      have HRE : Hid (R = decide (c.old = (L.drop k).take on)) := by
        show R = _
        rw [← HR.out]
        unfold fitB
        rw [HP.out, HX.out, HL.out, Bool.eq_iff_iff, decide_eq_true_eq, decide_eq_true_eq, Int.toNat_natCast]
        constructor
        · rintro ⟨_, _, _, e⟩; exact e.symm
        · intro e; exact ⟨by omega, by omega, by omega, e.symm⟩
      have y1 : IntKind.i64.wrap ((k : Int) + (on : Int)) = (k : Int) + (on : Int) := by rw [IntKind.wrap_i64]; omega
      have y2 : 0 ≤ (k : Int) + (on : Int) := by omega
      have y3 : ((k : Int) + (on : Int)).toNat = k + on := by omega
      have y4 : (k : Int) ≤ (k : Int) + (on : Int) := by omega
      have y5 : (k : Int) + (on : Int) ≤ (cap : Int) := by omega
      rw [← HRE.out] at HEQ
      by_cases hck : cap = k
      · rw [if_pos hck] at HEQ
        have HE := Lib.hid HEQ
        have HCK : (cap = k) = True := by simpa using hck
        clear HEQ hck
        go_enter Try.func40, Try.ntmps40
        go_upto_region 1 with fail
        rw [HW.out]
        go_wp2_with fail
        go_still_tail 12, (by kernel_rfl)
        change wpList _ _ _ _ _ wb.drew
        go_wp2_with (go_at_call 49; refine HE.out.mono ?_; rintro e w1 ⟨rfl, hb1⟩)
        go_ret
        exact ⟨rfl, HB.out.drew.trans (hb1.mono HB.out.size)⟩
      · rw [if_neg hck] at HEQ
        simp only [Nat.mul_one] at HEQ
        have HE := Lib.hid HEQ
        clear HEQ
        go_enter Try.func40, Try.ntmps40
        go_upto_region 1 with fail
        rw [HW.out]
        go_wp2_with fail
        go_still_tail 12, (by kernel_rfl)
        change wpList _ _ _ _ _ wb.drew
        go_wp2_with fail
        (with_reducible refine HE.out.mono ?_)
        rintro e w1 ⟨rfl, hb1⟩
        go_wp2_with fail
        go_ret
        exact ⟨rfl, HB.out.drew.trans (hb1.mono HB.out.size)⟩
end Go.Proofs.Ytalhiedbhcklgaa.U
