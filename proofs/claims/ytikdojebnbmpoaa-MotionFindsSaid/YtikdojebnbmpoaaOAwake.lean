/-
  Chapter 10's examples.
-/
import Derived.Test.YtikdojebnbmpoaaOMo
import Derived.Test.YtikdojebnbmpoaaNAt
namespace Go.Proofs.Ytikdojebnbmpoaa.U
open Go.RowKit
set_option linter.unusedVariables false
set_option linter.unusedSimpArgs false
set_option maxRecDepth 100000

theorem q00 : i64p ⟨0, 0⟩ := ⟨⟨by decide, by decide⟩, by decide, by decide⟩
theorem mm (k c a t : Int) (h1 : i32b k) (h2 : i64b c) (h3 : i32b a) (h4 : i64b t) : i64m ⟨k, c, a, t⟩ := ⟨h1, h2, h3, h4⟩
theorem mvA (HM : MoveC) (F : Nat → Prop) (a : Option Addr) (c : Nat) (w : World) (h : RdL F w a 1 c ex10A) : Calls Try.prog 10 #[.slice a 1 c, .agg #[.int .i64 0, .int .i64 0], .agg #[.int .i32 108, .int .i64 9, .int .i32 0, .int .i64 0], .bool false] w fun e w' => e = .returned (.tuple #[.agg #[.int .i64 0, .int .i64 2], .int .i64 0, .bool true]) ∧ Below w.heap.size w w' :=
  (HM F a 1 c ex10A ⟨0, 0⟩ ⟨108, 9, 0, 0⟩ false w h q00 (by unfold i64m i32b i64b; decide) (by decide) (by decide)).mono (fun e w' h => ⟨h.1.trans (by rw [show clipP ex10A 0 0 = (0, 0) by decide, ex10_1]; rfl), h.2⟩)
theorem mvB (HM : MoveC) (F : Nat → Prop) (a : Option Addr) (c : Nat) (w : World) (h : RdL F w a 1 c ex10A) : Calls Try.prog 10 #[.slice a 1 c, .agg #[.int .i64 0, .int .i64 0], .agg #[.int .i32 108, .int .i64 9, .int .i32 0, .int .i64 0], .bool true] w fun e w' => e = .returned (.tuple #[.agg #[.int .i64 0, .int .i64 3], .int .i64 0, .bool true]) ∧ Below w.heap.size w w' :=
  (HM F a 1 c ex10A ⟨0, 0⟩ ⟨108, 9, 0, 0⟩ true w h q00 (by unfold i64m i32b i64b; decide) (by decide) (by decide)).mono (fun e w' h => ⟨h.1.trans (by rw [show clipP ex10A 0 0 = (0, 0) by decide, ex10_2]; rfl), h.2⟩)
theorem mvCC (HM : MoveC) (F : Nat → Prop) (a : Option Addr) (c : Nat) (w : World) (h : RdL F w a 1 c ex10A) : Calls Try.prog 10 #[.slice a 1 c, .agg #[.int .i64 0, .int .i64 0], .agg #[.int .i32 102, .int .i64 0, .int .i32 99, .int .i64 0], .bool false] w fun e w' => e = .returned (.tuple #[.agg #[.int .i64 0, .int .i64 2], .int .i64 1, .bool true]) ∧ Below w.heap.size w w' :=
  (HM F a 1 c ex10A ⟨0, 0⟩ ⟨102, 0, 99, 0⟩ false w h q00 (by unfold i64m i32b i64b; decide) (by decide) (by decide)).mono (fun e w' h => ⟨h.1.trans (by rw [show clipP ex10A 0 0 = (0, 0) by decide, ex10_3]; rfl), h.2⟩)
theorem mvD (HM : MoveC) (F : Nat → Prop) (a : Option Addr) (c : Nat) (w : World) (h : RdL F w a 1 c ex10B) : Calls Try.prog 10 #[.slice a 1 c, .agg #[.int .i64 0, .int .i64 0], .agg #[.int .i32 37, .int .i64 0, .int .i32 0, .int .i64 0], .bool false] w fun e w' => e = .returned (.tuple #[.agg #[.int .i64 0, .int .i64 3], .int .i64 1, .bool true]) ∧ Below w.heap.size w w' :=
  (HM F a 1 c ex10B ⟨0, 0⟩ ⟨37, 0, 0, 0⟩ false w h q00 (by unfold i64m i32b i64b; decide) (by decide) (by decide)).mono (fun e w' h => ⟨h.1.trans (by rw [show clipP ex10B 0 0 = (0, 0) by decide, ex10_4]; rfl), h.2⟩)
theorem mvE (HM : MoveC) (F : Nat → Prop) (a : Option Addr) (c : Nat) (w : World) (h : RdL F w a 2 c ex10C) : Calls Try.prog 10 #[.slice a 2 c, .agg #[.int .i64 0, .int .i64 0], .agg #[.int .i32 119, .int .i64 0, .int .i32 0, .int .i64 0], .bool true] w fun e w' => e = .returned (.tuple #[.agg #[.int .i64 0, .int .i64 2], .int .i64 0, .bool true]) ∧ Below w.heap.size w w' :=
  (HM F a 2 c ex10C ⟨0, 0⟩ ⟨119, 0, 0, 0⟩ true w h q00 (by unfold i64m i32b i64b; decide) (by decide) (by decide)).mono (fun e w' h => ⟨h.1.trans (by rw [show clipP ex10C 0 0 = (0, 0) by decide, ex10_5]; rfl), h.2⟩)
theorem row10A (w : World) : Calls Try.prog 11 #[.string ⟨#[97, 98, 99]⟩] w fun e w' => ∃ a c, e = .returned (.slice a 3 c) ∧ Hid (Rd .i32 w' a 3 c [97, 98, 99] ∧ Below w.heap.size w w') :=
  row_any _ [97, 98, 99] 3 rfl (by kernel_rfl) (by decide) (by omega) w
theorem row10B (w : World) : Calls Try.prog 11 #[.string ⟨#[97, 40, 98, 41, 99]⟩] w fun e w' => ∃ a c, e = .returned (.slice a 5 c) ∧ Hid (Rd .i32 w' a 5 c [97, 40, 98, 41, 99] ∧ Below w.heap.size w w') :=
  row_any _ [97, 40, 98, 41, 99] 5 rfl (by kernel_rfl) (by decide) (by omega) w
theorem row10C (w : World) : Calls Try.prog 11 #[.string ⟨#[97, 98]⟩] w fun e w' => ∃ a c, e = .returned (.slice a 2 c) ∧ Hid (Rd .i32 w' a 2 c [97, 98] ∧ Below w.heap.size w w') :=
  row_any _ [97, 98] 2 rfl (by kernel_rfl) (by decide) (by omega) w
theorem row10D (w : World) : Calls Try.prog 11 #[.string ⟨#[99, 100]⟩] w fun e w' => ∃ a c, e = .returned (.slice a 2 c) ∧ Hid (Rd .i32 w' a 2 c [99, 100] ∧ Below w.heap.size w w') :=
  row_any _ [99, 100] 2 rfl (by kernel_rfl) (by decide) (by omega) w
theorem row10K (w : World) : Calls Try.prog 11 #[.string ⟨#[104, 108, 119, 87, 98, 66, 101, 69, 125, 41, 40, 123]⟩] w fun e w' => ∃ a c, e = .returned (.slice a 12 c) ∧ Hid (Rd .i32 w' a 12 c keys10 ∧ Below w.heap.size w w') :=
  row_any _ keys10 12 rfl (by kernel_rfl) (by decide) (by omega) w
theorem At.below {W W' : World} {B : Nat} {p : Pl} (h : At W B p) (hb : Below W.heap.size W W') : At W' B p := h.keep (hb.block _ h.lt)
/-- a place that has just been laid in a box of its own -/
def ats (i j : Int) : Obj := .cells #[.int .i64 i, .int .i64 j] 24
theorem box2 (W : World) (i j : Int) : (W.alloc (.cells #[.int .i64 i, .int .i64 j] 24)).heap[W.heap.size]? = some (.cells #[.int .i64 i, .int .i64 j] 24 (0, 0)) := heap_alloc_new W _
theorem keep2 {W W' : World} {B : Nat} {o : Obj} (h : W.heap[B]? = some o) (hb : Below W.heap.size W W') : W'.heap[B]? = some o := (hb.block _ (Array.getElem?_eq_some_iff.1 h).1).trans h
theorem awake_any (HM : MoveC) (w : World) : Calls Try.prog 8 #[] w fun e w' => e = .returned (.bool true) ∧ Below w.heap.size w w' := by
  have HA : Hid (∀ (W : World) (a : Option Addr) (c : Nat), Rd .i32 W a 3 c [97, 98, 99] → RdL (fun k => k < W.heap.size + 1) (W.alloc (.cells #[.slice a 3 c] 32)) (some ⟨W.heap.size, 0, none⟩) 1 1 ex10A) := fun W a c h => rdl_new W [.slice a 3 c] ex10A 1 rfl (by omega) (RowsAt.one h h.inHeap) _ rfl
  have HB : Hid (∀ (W : World) (a : Option Addr) (c : Nat), Rd .i32 W a 5 c [97, 40, 98, 41, 99] → RdL (fun k => k < W.heap.size + 1) (W.alloc (.cells #[.slice a 5 c] 32)) (some ⟨W.heap.size, 0, none⟩) 1 1 ex10B) := fun W a c h => rdl_new W [.slice a 5 c] ex10B 1 rfl (by omega) (RowsAt.one h h.inHeap) _ rfl
  have HC : Hid (∀ (W : World) (a a' : Option Addr) (c c' : Nat), Rd .i32 W a 2 c [97, 98] → Rd .i32 W a' 2 c' [99, 100] → RdL (fun k => k < W.heap.size + 1) (W.alloc (.cells #[.slice a 2 c, .slice a' 2 c'] 32)) (some ⟨W.heap.size, 0, none⟩) 2 2 ex10C) := fun W a a' c c' h h' => rdl_new W ([.slice a 2 c] ++ [.slice a' 2 c']) ex10C 2 rfl (by omega) ((RowsAt.one h h.inHeap).append (RowsAt.one h' h'.inHeap)) _ rfl
  have HMM := Lib.hid HM
  go_enter Try.func8, Try.ntmps8
  go_upto_region 2 with (go_at_call 11; refine (row10A _).mono ?_; rintro e w1 ⟨a1, c1, rfl, H1⟩)
  obtain ⟨W1, hW1⟩ : ∃ W, w1.alloc (.cells #[.slice a1 3 c1] 32) = W := ⟨_, rfl⟩
  have hL1 : RdL (fun k => k < w1.heap.size + 1) W1 (some ⟨w1.heap.size, 0, none⟩) 1 1 ex10A := by rw [← hW1]; exact HA.out w1 a1 c1 H1.out.1
  have hw1 : Below w.heap.size w W1 := by rw [← hW1]; exact btr H1.out.2 (bal _ _)
  obtain ⟨S1, hS1⟩ : ∃ S, w1.heap.size = S := ⟨_, rfl⟩
  rw [hS1] at hL1
  have L1 := Lib.hid hL1
  have B1 := Lib.hid hw1
  have HW1 := Lib.hid hW1
  have HS1 := Lib.hid hS1
  clear hL1 hw1 hW1 hS1
  rw [HW1.out, HS1.out]
  go_upto_region 3 with (go_at_call 10; refine (mvA HMM.out _ _ _ _ L1.out).mono ?_; rintro e w2 ⟨rfl, hb2⟩)
  obtain ⟨X2, hX2⟩ : ∃ W, w2.alloc (.cells #[.int .i64 0, .int .i64 2] 24) = W := ⟨_, rfl⟩
  have hb2' : Below W1.heap.size W1 X2 := by rw [← hX2]; exact btr hb2 (bal _ _)
  have g2 : X2.heap[w2.heap.size]? = some (.cells #[.int .i64 0, .int .i64 2] 24 (0, 0)) := by rw [← hX2]; exact heap_alloc_new w2 _
  obtain ⟨T2, hT2⟩ : ∃ S, w2.heap.size = S := ⟨_, rfl⟩
  rw [hT2] at g2
  have G2 := Lib.hid g2
  have D2 := Lib.hid hb2'
  have HX2 := Lib.hid hX2
  have HT2 := Lib.hid hT2
  clear g2 hb2' hX2 hT2 hb2
  rw [HX2.out, HT2.out]
  go_upto_region 4 with (go_at_call 10; refine (mvB HMM.out _ _ _ _ (L1.out.below D2.out)).mono ?_; rintro e w3 ⟨rfl, hb3⟩)
  obtain ⟨X3, hX3⟩ : ∃ W, w3.alloc (.cells #[.int .i64 0, .int .i64 3] 24) = W := ⟨_, rfl⟩
  have hb3' : Below X2.heap.size X2 X3 := by rw [← hX3]; exact btr hb3 (bal _ _)
  have g3 : X3.heap[w3.heap.size]? = some (.cells #[.int .i64 0, .int .i64 3] 24 (0, 0)) := by rw [← hX3]; exact heap_alloc_new w3 _
  obtain ⟨T3, hT3⟩ : ∃ S, w3.heap.size = S := ⟨_, rfl⟩
  rw [hT3] at g3
  have G3 := Lib.hid g3
  have D3 := Lib.hid hb3'
  have HX3 := Lib.hid hX3
  have HT3 := Lib.hid hT3
  clear g3 hb3' hX3 hT3 hb3
  rw [HX3.out, HT3.out]
  go_upto_region 5 with (go_at_call 10; refine (mvCC HMM.out _ _ _ _ (L1.out.below (btr D2.out D3.out))).mono ?_; rintro e w4 ⟨rfl, hb4⟩)
  obtain ⟨X4, hX4⟩ : ∃ W, w4.alloc (.cells #[.int .i64 0, .int .i64 2] 24) = W := ⟨_, rfl⟩
  have hb4' : Below X3.heap.size X3 X4 := by rw [← hX4]; exact btr hb4 (bal _ _)
  have g4 : X4.heap[w4.heap.size]? = some (.cells #[.int .i64 0, .int .i64 2] 24 (0, 0)) := by rw [← hX4]; exact heap_alloc_new w4 _
  obtain ⟨T4, hT4⟩ : ∃ S, w4.heap.size = S := ⟨_, rfl⟩
  rw [hT4] at g4
  have G4 := Lib.hid g4
  have D4 := Lib.hid hb4'
  have HX4 := Lib.hid hX4
  have HT4 := Lib.hid hT4
  clear g4 hb4' hX4 hT4 hb4
  rw [HX4.out, HT4.out]
  go_upto_region 6 with (first
    | (go_at_call 11; refine (row10B _).mono ?_; rintro e w5 ⟨a5, c5, rfl, H5⟩; have hL5 := HB.out w5 a5 c5 H5.out.1; have hb5 := btr H5.out.2 (bal w5 (.cells #[.slice a5 5 c5] 32)); obtain ⟨Y5, hY5⟩ : ∃ W, w5.alloc (.cells #[.slice a5 5 c5] 32) = W := ⟨_, rfl⟩; rw [hY5] at hL5 hb5; have L5 := Lib.hid hL5; have E5 := Lib.hid hb5; clear hL5 hb5)
    | (go_at_call 10; refine (mvD HMM.out _ _ _ _ L5.out).mono ?_; rintro e w6 ⟨rfl, hb6⟩))
  obtain ⟨X6, hX6⟩ : ∃ W, w6.alloc (.cells #[.int .i64 0, .int .i64 3] 24) = W := ⟨_, rfl⟩
  have hb6' : Below X4.heap.size X4 X6 := by rw [← hX6]; exact btr E5.out (btr hb6 (bal _ _))
  have g6 : X6.heap[w6.heap.size]? = some (.cells #[.int .i64 0, .int .i64 3] 24 (0, 0)) := by rw [← hX6]; exact heap_alloc_new w6 _
  obtain ⟨T6, hT6⟩ : ∃ S, w6.heap.size = S := ⟨_, rfl⟩
  rw [hT6] at g6
  have G6 := Lib.hid g6
  have D6 := Lib.hid hb6'
  have HX6 := Lib.hid hX6
  have HT6 := Lib.hid hT6
  clear g6 hb6' hX6 hT6 hb6 hY5
  rw [HX6.out, HT6.out]
  have tok1 : True := trivial
  go_upto_region 7 with (first
    | (go_at_call 11; have _t := tok1; refine (row10C _).mono ?_; clear tok1 _t; rintro e w7 ⟨a7, c7, rfl, H7⟩)
    | (go_at_call 11; refine (row10D _).mono ?_; rintro e w8 ⟨a8, c8, rfl, H8⟩; have hL8 := HC.out w8 a7 a8 c7 c8 (H7.out.1.below H8.out.2) H8.out.1; have hb8 := btr H7.out.2 (btr H8.out.2 (bal w8 (.cells #[.slice a7 2 c7, .slice a8 2 c8] 32))); obtain ⟨Y8, hY8⟩ : ∃ W, w8.alloc (.cells #[.slice a7 2 c7, .slice a8 2 c8] 32) = W := ⟨_, rfl⟩; rw [hY8] at hL8 hb8; have L8 := Lib.hid hL8; have E8 := Lib.hid hb8; clear hL8 hb8)
    | (go_at_call 10; refine (mvE HMM.out _ _ _ _ L8.out).mono ?_; rintro e w9 ⟨rfl, hb9⟩))
  obtain ⟨X9, hX9⟩ : ∃ W, w9.alloc (.cells #[.int .i64 0, .int .i64 2] 24) = W := ⟨_, rfl⟩
  have hb9' : Below X6.heap.size X6 X9 := by rw [← hX9]; exact btr E8.out (btr hb9 (bal _ _))
  have g9 : X9.heap[w9.heap.size]? = some (.cells #[.int .i64 0, .int .i64 2] 24 (0, 0)) := by rw [← hX9]; exact heap_alloc_new w9 _
  obtain ⟨T9, hT9⟩ : ∃ S, w9.heap.size = S := ⟨_, rfl⟩
  rw [hT9] at g9
  obtain ⟨i0, i1, -, -⟩ := row2 g9
  obtain ⟨j0, j1, -, -⟩ := row2 (keep2 G6.out hb9')
  obtain ⟨k0, k1, -, -⟩ := row2 (keep2 G4.out (btr D6.out hb9'))
  obtain ⟨l0, l1, -, -⟩ := row2 (keep2 G3.out (btr D4.out (btr D6.out hb9')))
  obtain ⟨m0, m1, -, -⟩ := row2 (keep2 G2.out (btr D3.out (btr D4.out (btr D6.out hb9'))))
  have HF : Hid (Below w.heap.size w X9) := btr B1.out (btr D2.out (btr D3.out (btr D4.out (btr D6.out hb9'))))
  have HX9 := Lib.hid hX9
  have HT9 := Lib.hid hT9
  clear g9 hb9' hX9 hT9 hb9 hY8
  rw [HX9.out, HT9.out]
  go_wp2
  go_ret
  exact ⟨rfl, HF.out⟩
end Go.Proofs.Ytikdojebnbmpoaa.U
