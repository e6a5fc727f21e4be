/-
  The program's Put.
-/
import Derived.Test.YtleidcegbfnmkaaHJoinQ
import Derived.Test.YtleidcegbfnmkaaHShf
import Derived.Test.YtleidcegbfnmkaaHOver
import Derived.Test.YtleidcegbfnmkaaHCop
import Derived.Test.YtleidcegbfnmkaaGPut
import Derived.Deep.CutBlock
import Derived.Deep.RegionHeld3
namespace Go.Proofs.Ytleidcegbfnmkaa.U
open Go.RowKit
set_option linter.unusedVariables false
set_option linter.unusedSimpArgs false
set_option maxRecDepth 100000

theorem bad_put (s : List Nm) (r k : Int) (L : List (List Int)) (d : Bool) (h : (putN r && regB k L) = false) : putR s r ⟨k, L⟩ d = (s, 1) := by
  have hb : badR r ⟨k, L⟩ = true := by
    unfold putN regB littleR bigR at h
    unfold badR littleR bigR
    simp only [Bool.and_eq_false_iff, Bool.or_eq_false_iff, decide_eq_false_iff_not] at h
    simp only [Bool.or_eq_true, Bool.and_eq_true, decide_eq_true_eq, Bool.not_eq_true', Bool.and_eq_false_iff, decide_eq_false_iff_not]
    omega
  unfold putR
  rw [if_pos hb]
theorem good_put (s : List Nm) (r k : Int) (L : List (List Int)) (d : Bool) (h1 : putN r = true) (h2 : regB k L = true) : badR r ⟨k, L⟩ = false ∧ 0 ≤ k ∧ k ≤ 2 ∧ sizeR L ≤ 65536 := by
  unfold putN littleR bigR at h1
  unfold regB at h2
  unfold badR littleR bigR
  simp only [Bool.and_eq_true, Bool.or_eq_true, decide_eq_true_eq] at h1 h2
  refine ⟨?_, by omega, by omega, by omega⟩
  simp only [Bool.or_eq_false_iff, Bool.and_eq_false_iff, decide_eq_false_iff_not, Bool.not_eq_false', Bool.and_eq_true, decide_eq_true_eq]
  omega
theorem under_put (s : List Nm) (k : Int) (L : List (List Int)) (d : Bool) (h2 : regB k L = true) : putR s 95 ⟨k, L⟩ d = (s, 0) := by
  have hg := good_put s 95 k L d (by decide) h2
  unfold putR
  rw [hg.1, if_neg (by simp), if_pos rfl]
set_option maxHeartbeats 2000000 in
/-- what may not be put -/
theorem pputBad_any (F : Nat → Prop) (P : Nat → Prop) (bx : Nat) (s : List Nm) (r k : Int) (a : Option Addr) (n c : Nat) (L : List (List Int)) (d : Bool) (w : World) (h : GSt P w bx s) (hr : RdL F w a n c L) (hs : sizeR L ≤ 1048576) (hwr : (Lit.int .i32 r).wf = true) (hb : (putN r && regB k L) = false) :
    Calls Try.prog 15 #[.pointer (some ⟨bx, 0, none⟩), .int .i32 r, rgV k a n c, .bool d] w fun e w' => e = .returned (.int .i64 (putR s r ⟨k, L⟩ d).2) ∧ AfG P w w' bx (putR s r ⟨k, L⟩ d).1 := by
  rw [bad_put s r k L d hb]
  unfold rgV
  have hwfL := lines_wfG hr
  have hlen := hr.len
  have hsm := hr.small
  obtain ⟨wb, hwb⟩ : ∃ wb, w.alloc (.cells #[.int .i64 k, .slice a n c] 31) = wb := ⟨_, rfl⟩
  have hbx := box_new w k a n c
  rw [hwb] at hbx
  have hsz : wb.heap.size = w.heap.size + 1 := by rw [← hwb]; simp
  have hB : Below w.heap.size w wb := by rw [← hwb]; exact (Below.refl _ _).alloc (Nat.le_refl _) _
  rw [← hsz] at hbx
  have hx := hbx wb (Below.refl _ _)
  have HIP : Hid (∀ W, Calls Try.prog 29 #[.int .i32 r] W fun e w' => e = .returned (.bool (putN r)) ∧ w' = W) := fun W => pput_any r W
  have HIR : Hid (∀ W, Hid (Below wb.heap.size wb W) → Calls Try.prog 30 #[.agg #[.int .i64 k, .slice a n c]] W fun e w' => e = .returned (.bool (regB k L)) ∧ BoxS w' w.heap.size k a n c ∧ Hid (Below wb.heap.size wb w')) := by
    intro W hW
    refine (preg_any F k a n c L W (hr.below (hB.trans (hW.out.mono (by omega)))) (by omega)).mono ?_
    rintro e w' ⟨rfl, hb⟩
    have hb2 := hW.out.trans (hb.mono hW.out.size)
    exact ⟨rfl, hbx w' hb2, hb2⟩
  have HCO : Hid (∀ W, Hid (Below wb.heap.size wb W) → Calls Try.prog 23 #[.agg #[.int .i64 k, .slice a n c]] W fun e w' => ∃ a2 c2, e = .returned (.agg #[.int .i64 k, .slice a2 n c2]) ∧ BoxS w' w.heap.size k a n c ∧ Hid (FreshL wb.heap.size w' a2 n c2 L ∧ Below wb.heap.size wb w')) := by
    intro W hW
    refine (pcopied_any F k a n c L W (hr.below (hB.trans (hW.out.mono (by omega)))) hs).mono ?_
    rintro e w' ⟨a2, c2, rfl, hf, hb⟩
    have hb2 := hW.out.trans (hb.mono hW.out.size)
    exact ⟨a2, c2, rfl, hbx w' hb2, hf.mono hW.out.size, hb2⟩
  have HR0 : Hid (Below wb.heap.size wb wb) := Below.refl _ _
  have HB := Lib.hid (And.intro hB hsz)
  have HW := Lib.hid hwb
  have HWF : Hid (∀ x ∈ L, ∀ y ∈ x, (Lit.int .i32 y).wf = true) := hwfL
  have HLN : Hid (L.length = n) := hlen
  have HH := Lib.hid h
  clear hr hwfL hwb hB hbx hsz hs hlen
  cases tp : putN r with
  | false =>
    obtain ⟨b, hbe⟩ : ∃ b, w.heap.size = b := ⟨_, rfl⟩
    have HBE := Lib.hid hbe
    rw [hbe] at hx HIR HCO
    clear hbe
    obtain ⟨x0, x1, x2, x3, x4⟩ := hx
    go_enter Try.func15, Try.ntmps15
    go_upto_region 1 with fail
    rw [HW.out, HBE.out]
    go_wp2_with (go_at_call 29; (with_reducible refine (HIP.out _).mono ?_); rintro e wq ⟨rfl, hwq⟩; subst hwq; rw [tp])
    go_ret
    exact ⟨rfl, HH.out.same HB.out.1⟩
  | true =>
    have tr : regB k L = false := by rw [tp] at hb; simpa using hb
    clear hb
    obtain ⟨b, hbe⟩ : ∃ b, w.heap.size = b := ⟨_, rfl⟩
    have HBE := Lib.hid hbe
    rw [hbe] at hx HIR HCO
    clear hbe
    obtain ⟨x0, x1, x2, x3, x4⟩ := hx
    go_enter Try.func15, Try.ntmps15
    go_upto_region 1 with fail
    rw [HW.out, HBE.out]
    go_wp2_with (first
      | (go_at_call 29; (with_reducible refine (HIP.out _).mono ?_); rintro e wq ⟨rfl, hwq⟩; subst hwq; rw [tp])
      | (go_at_call 30; (with_reducible refine (HIR.out _ HR0).mono ?_); rintro e w1 ⟨rfl, ⟨e0, e1, e2, e3, e4⟩, HB1⟩; rw [tr]))
    go_ret
    exact ⟨rfl, HH.out.same (HB.out.1.trans (HB1.out.mono (by have := HB.out.2; omega)))⟩
set_option maxHeartbeats 2000000 in
/-- what is put nowhere -/
theorem pputUnder_any (F : Nat → Prop) (P : Nat → Prop) (bx : Nat) (s : List Nm) (k : Int) (a : Option Addr) (n c : Nat) (L : List (List Int)) (d : Bool) (w : World) (h : GSt P w bx s) (hr : RdL F w a n c L) (hs : sizeR L ≤ 1048576) (tr : regB k L = true) :
    Calls Try.prog 15 #[.pointer (some ⟨bx, 0, none⟩), .int .i32 95, rgV k a n c, .bool d] w fun e w' => e = .returned (.int .i64 (putR s 95 ⟨k, L⟩ d).2) ∧ AfG P w w' bx (putR s 95 ⟨k, L⟩ d).1 := by
  rw [under_put s k L d tr]
  obtain ⟨r, hrr⟩ : ∃ r : Int, r = 95 := ⟨_, rfl⟩
  rw [← hrr]
  have tp : putN r = true := by rw [hrr]; decide
  have t95 : (r == 95) = true := by rw [hrr]; rfl
  unfold rgV
  have hwfL := lines_wfG hr
  have hlen := hr.len
  have hsm := hr.small
  obtain ⟨wb, hwb⟩ : ∃ wb, w.alloc (.cells #[.int .i64 k, .slice a n c] 31) = wb := ⟨_, rfl⟩
  have hbx := box_new w k a n c
  rw [hwb] at hbx
  have hsz : wb.heap.size = w.heap.size + 1 := by rw [← hwb]; simp
  have hB : Below w.heap.size w wb := by rw [← hwb]; exact (Below.refl _ _).alloc (Nat.le_refl _) _
  rw [← hsz] at hbx
  have hx := hbx wb (Below.refl _ _)
  have HIP : Hid (∀ W, Calls Try.prog 29 #[.int .i32 r] W fun e w' => e = .returned (.bool (putN r)) ∧ w' = W) := fun W => pput_any r W
  have HIR : Hid (∀ W, Hid (Below wb.heap.size wb W) → Calls Try.prog 30 #[.agg #[.int .i64 k, .slice a n c]] W fun e w' => e = .returned (.bool (regB k L)) ∧ BoxS w' w.heap.size k a n c ∧ Hid (Below wb.heap.size wb w')) := by
    intro W hW
    refine (preg_any F k a n c L W (hr.below (hB.trans (hW.out.mono (by omega)))) (by omega)).mono ?_
    rintro e w' ⟨rfl, hb⟩
    have hb2 := hW.out.trans (hb.mono hW.out.size)
    exact ⟨rfl, hbx w' hb2, hb2⟩
  have HCO : Hid (∀ W, Hid (Below wb.heap.size wb W) → Calls Try.prog 23 #[.agg #[.int .i64 k, .slice a n c]] W fun e w' => ∃ a2 c2, e = .returned (.agg #[.int .i64 k, .slice a2 n c2]) ∧ BoxS w' w.heap.size k a n c ∧ Hid (FreshL wb.heap.size w' a2 n c2 L ∧ Below wb.heap.size wb w')) := by
    intro W hW
    refine (pcopied_any F k a n c L W (hr.below (hB.trans (hW.out.mono (by omega)))) hs).mono ?_
    rintro e w' ⟨a2, c2, rfl, hf, hb⟩
    have hb2 := hW.out.trans (hb.mono hW.out.size)
    exact ⟨a2, c2, rfl, hbx w' hb2, hf.mono hW.out.size, hb2⟩
  have HR0 : Hid (Below wb.heap.size wb wb) := Below.refl _ _
  have HB := Lib.hid (And.intro hB hsz)
  have HW := Lib.hid hwb
  have HWF : Hid (∀ x ∈ L, ∀ y ∈ x, (Lit.int .i32 y).wf = true) := hwfL
  have HLN : Hid (L.length = n) := hlen
  have HH := Lib.hid h
  clear hr hwfL hwb hB hbx hsz hs hlen
  clear hrr
  obtain ⟨b, hbe⟩ : ∃ b, w.heap.size = b := ⟨_, rfl⟩
  have HBE := Lib.hid hbe
  rw [hbe] at hx HIR HCO
  clear hbe
  obtain ⟨x0, x1, x2, x3, x4⟩ := hx
  go_enter Try.func15, Try.ntmps15
  go_upto_region 1 with fail
  rw [HW.out, HBE.out]
  go_wp2_with (first
    | (go_at_call 29; (with_reducible refine (HIP.out _).mono ?_); rintro e wq ⟨rfl, hwq⟩; subst hwq; rw [tp])
    | (go_at_call 30; (with_reducible refine (HIR.out _ HR0).mono ?_); rintro e w1 ⟨rfl, ⟨e0, e1, e2, e3, e4⟩, HB1⟩; rw [tr]))
  go_ret
  exact ⟨rfl, HH.out.same (HB.out.1.trans (HB1.out.mono (by have := HB.out.2; omega)))⟩

/-- what is put lies ready in the box: W is where the target is asked for -/
structure RdyH (P : Nat → Prop) (w W : World) (bx b : Nat) (s : List Nm) (r : Rg) (a : Option Addr) (n c : Nat) : Prop where
  be : Below w.heap.size w W
  b0 : w.heap.size = b
  box : BoxS W b r.k a n c
  own : OwnL (fun x => w.heap.size < x ∧ x < W.heap.size) W a n c r.L
  len : r.L.length = n
theorem rdy_box {w wb w1 : World} {k : Int} {a a1 : Option Addr} {n c c1 b : Nat} {L : List (List Int)} (P : Nat → Prop) (bx : Nat) (s : List Nm) (hwb : w.alloc (.cells #[.int .i64 k, .slice a n c] 31) = wb) (hf : FreshL wb.heap.size w1 a1 n c1 L) (hb : Below wb.heap.size wb w1) (hw : ∀ x ∈ L, ∀ y ∈ x, (Lit.int .i32 y).wf = true) (hbe : w.heap.size = b) :
    BoxS ((w1.setCell ⟨b, 0, none⟩ (.int .i64 k)).setCell ⟨b, 1, none⟩ (.slice a1 n c1)) b k a1 n c1 ∧
    Hid (¬ n = 0 → RdyH P w ((w1.setCell ⟨b, 0, none⟩ (.int .i64 k)).setCell ⟨b, 1, none⟩ (.slice a1 n c1)) bx b s (normR ⟨k, L⟩) a1 n c1) ∧
    Hid (n = 0 → RdyH P w ((((w1.setCell ⟨b, 0, none⟩ (.int .i64 k)).setCell ⟨b, 1, none⟩ (.slice a1 n c1)).setCell ⟨b, 1, none⟩ (.slice (some ⟨((w1.setCell ⟨b, 0, none⟩ (.int .i64 k)).setCell ⟨b, 1, none⟩ (.slice a1 n c1)).heap.size, 0, none⟩) 1 1)).alloc (.cells #[.slice none 0 0] 39)) bx b s (normR ⟨k, L⟩) (some ⟨((w1.setCell ⟨b, 0, none⟩ (.int .i64 k)).setCell ⟨b, 1, none⟩ (.slice a1 n c1)).heap.size, 0, none⟩) 1 1) := by
  subst hbe
  have hsz : wb.heap.size = w.heap.size + 1 := by rw [← hwb]; simp
  have hB : Below w.heap.size w wb := by rw [← hwb]; exact (Below.refl _ w).alloc (Nat.le_refl _) _
  have g0 : wb.heap[w.heap.size]? = some (.cells #[.int .i64 k, .slice a n c] 31 (0, 0)) := by rw [← hwb]; exact heap_alloc_new w _
  have g1 := (hb.block w.heap.size (by omega)).trans g0
  have g2 := heap_set g1 0 (.int .i64 k)
  have g3 := heap_set g2 1 (.slice a1 n c1)
  obtain ⟨ws, hws⟩ : ∃ ws, (w1.setCell ⟨w.heap.size, 0, none⟩ (.int .i64 k)).setCell ⟨w.heap.size, 1, none⟩ (.slice a1 n c1) = ws := ⟨_, rfl⟩
  have hs1 : ws.heap.size = w1.heap.size := by rw [← hws]; simp
  have hf1 : Fr (fun k => k = w.heap.size) w1 ws := by rw [← hws]; exact ((Fr.refl (fun k => k = w.heap.size) w1).setCell ⟨w.heap.size, 0, none⟩ _ (fun _ => rfl)).setCell ⟨w.heap.size, 1, none⟩ _ (fun _ => rfl)
  have hbw : Below w.heap.size w ws := by rw [← hws]; exact ((hB.trans (hb.mono (by omega))).setCell (Nat.le_refl _) _).setCell (Nat.le_refl _) _
  have hx : BoxS ws w.heap.size k a1 n c1 := by rw [← hws]; exact BoxS.of (by rw [g3]; rfl)
  have hl := hf.len
  have hown : OwnL (fun x => w.heap.size < x ∧ x < ws.heap.size) ws a1 n c1 L := ((hf.fr hf1 (fun k h1 h2 => by omega)).own hw).mono (fun k _ hk => ⟨by omega, hk.2⟩)
  rw [hws]
  refine ⟨hx, fun hn => ?_, fun hn => ?_⟩
  · have hno : normR ⟨k, L⟩ = ⟨k, L⟩ := by
      unfold normR
      rw [if_neg (by rintro rfl; simp at hl; omega)]
    rw [hno]
    exact ⟨hbw, rfl, hx, hown, hl⟩
  · have hno : normR ⟨k, L⟩ = ⟨k, [[]]⟩ := by
      have : L = [] := List.eq_nil_of_length_eq_zero (by omega)
      unfold normR
      rw [if_pos this]
    rw [hno]
    obtain ⟨wz, hwz⟩ : ∃ wz, ws.setCell ⟨w.heap.size, 1, none⟩ (.slice (some ⟨ws.heap.size, 0, none⟩) 1 1) = wz := ⟨_, rfl⟩
    have g4 : ws.heap[w.heap.size]? = some (.cells #[.int .i64 k, .slice a1 n c1] 31 (0, 0)) := by
      rw [← hws, g3]
      rfl
    have g5 := heap_set g4 1 (.slice (some ⟨ws.heap.size, 0, none⟩) 1 1)
    rw [hwz] at g5 ⊢
    have hzs : wz.heap.size = ws.heap.size := by rw [← hwz]; simp
    have hls : w.heap.size < ws.heap.size := by have := hb.size; omega
    have hbz : Below w.heap.size w wz := by rw [← hwz]; exact hbw.setCell (Nat.le_refl _) _
    have hx2 : BoxS (wz.alloc (.cells #[.slice none 0 0] 39)) w.heap.size k (some ⟨ws.heap.size, 0, none⟩) 1 1 := BoxS.of (by rw [Below.heap_alloc _ _ _ (by omega), g5]; rfl)
    have hb2 : Below w.heap.size w (wz.alloc (.cells #[.slice none 0 0] 39)) := hbz.alloc (by omega) _
    have hrow := heap_alloc_new wz (.cells #[.slice none 0 0] 39)
    rw [hzs] at hrow
    have hsz2 : (wz.alloc (.cells #[.slice none 0 0] 39)).heap.size = ws.heap.size + 1 := by simp [hzs]
    have ho : (wz.alloc (.cells #[.slice none 0 0] 39)).ownsRow 0 39 1 (.slice (some ⟨ws.heap.size, 0, none⟩) 1 1) 1 [.slice none 0 0] := own_of hrow (Nat.zero_le _) (Nat.le_refl _) (by unfold maxLen; omega) rfl
    refine ⟨hb2, rfl, hx2, ⟨[.slice none 0 0], ho, fun q e => ?_, rfl, fun i x hi => ?_, fun i j vi vj hij hi hj => ?_⟩, rfl⟩
    · simp only [Value.ownBlock, Option.some.injEq] at e
      omega
    · have hi0 : i = 0 := by have := (List.getElem?_eq_some_iff.1 hi).1; simp at this; omega
      subst hi0
      simp only [List.getElem?_cons_zero, Option.some.injEq] at hi
      subst hi
      exact ⟨.slice none 0 0, rfl, World.ownsRow_nil _ _ _ _, fun q e => (by cases e), fun y hy => (by cases hy)⟩
    · have h1 := (List.getElem?_eq_some_iff.1 hj).1
      simp at h1
      omega
theorem RdyH.below {P : Nat → Prop} {w W W2 : World} {bx b : Nat} {s : List Nm} {r : Rg} {a : Option Addr} {n c : Nat} (h : RdyH P w W bx b s r a n c) (hb : Below W.heap.size W W2) : RdyH P w W2 bx b s r a n c :=
  ⟨h.be.trans (hb.mono h.be.size), h.b0, h.box.below hb, (h.own.below hb).mono (fun x _ hx => ⟨hx.1, Nat.lt_of_lt_of_le hx.2 hb.size⟩), h.len⟩
theorem GSt.af {P Q : Nat → Prop} {w W : World} {bx : Nat} {s : List Nm} (h : GSt Q W bx s) (hf : Fr P w W) (hq : ∀ k, Q k → P k ∨ w.heap.size ≤ k) : AfG P w W bx s := ⟨Q, h, hf, hq⟩
end Go.Proofs.Ytleidcegbfnmkaa.U
