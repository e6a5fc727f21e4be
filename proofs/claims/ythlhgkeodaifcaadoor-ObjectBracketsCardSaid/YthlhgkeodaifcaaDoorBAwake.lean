/-
  Chapter 11's examples. (MADE by wip/tools/gen_awake11.py.)
-/
import Derived.Test.YthlhgkeodaifcaaDoorBMo
import Derived.RangeFuncNested
namespace Go.Proofs.YthlhgkeodaifcaaDoor.U
open Go.RowKit
set_option linter.unusedVariables false
set_option linter.unusedSimpArgs false
set_option maxRecDepth 100000

theorem keep2 {W W' : World} {B : Nat} {o : Obj} (h : W.heap[B]? = some o) (hb : Below W.heap.size W W') : W'.heap[B]? = some o := (hb.block _ (Array.getElem?_eq_some_iff.1 h).1).trans h
theorem box22 (W : World) (o1 o2 : Obj) : ((W.alloc o1).alloc o2).heap[W.heap.size]? = some o1 ∧ ((W.alloc o1).alloc o2).heap[W.heap.size + 1]? = some o2 ∧ Below W.heap.size W ((W.alloc o1).alloc o2) := by
  have n1 := World.alloc_heap_new W o1
  have n2 := World.alloc_heap_new (W.alloc o1) o2
  simp only [World.size_alloc] at n2
  exact ⟨(Below.heap_alloc _ _ _ (by simp)).trans n1, n2, ((Below.refl _ W).alloc (Nat.le_refl _) _).alloc (by simp) _⟩
theorem fdA (HF : FindC 9) (F : Nat → Prop) (a : Option Addr) (c : Nat) (w : World) (h : RdL F w a 1 c ex11A) (hg : Gl w) : Calls Tryd.prog 9 #[.slice a 1 c, .agg #[.int .i64 0, .int .i64 1], .int .i32 119, .bool true] w fun e w' => e = .returned (.tuple #[.agg #[.int .i64 0, .int .i64 0], .agg #[.int .i64 0, .int .i64 2], .int .i64 0, .bool true]) ∧ Below w.heap.size w w' :=
  (HF F a 1 c ex11A ⟨0, 1⟩ 119 true w hg h (by unfold i64p i64b; decide) (by unfold i32b; decide) (by decide)).mono (fun e w' h => ⟨h.1.trans (by rw [show clipP ex11A 0 1 = (0, 1) by decide, ex11_1]; rfl), h.2⟩)
theorem row11A (w : World) : Calls Tryd.prog 24 #[.string ⟨#[97, 98, 32, 99, 100]⟩] w fun e w' => ∃ a c, e = .returned (.slice a 5 c) ∧ Hid (Rd .i32 w' a 5 c [97, 98, 32, 99, 100] ∧ Below w.heap.size w w') :=
  row_any _ [97, 98, 32, 99, 100] 5 rfl (by kernel_rfl) (by decide) (by omega) w
theorem fdB (HF : FindC 9) (F : Nat → Prop) (a : Option Addr) (c : Nat) (w : World) (h : RdL F w a 1 c ex11B) (hg : Gl w) : Calls Tryd.prog 9 #[.slice a 1 c, .agg #[.int .i64 0, .int .i64 3], .int .i32 40, .bool false] w fun e w' => e = .returned (.tuple #[.agg #[.int .i64 0, .int .i64 2], .agg #[.int .i64 0, .int .i64 4], .int .i64 0, .bool true]) ∧ Below w.heap.size w w' :=
  (HF F a 1 c ex11B ⟨0, 3⟩ 40 false w hg h (by unfold i64p i64b; decide) (by unfold i32b; decide) (by decide)).mono (fun e w' h => ⟨h.1.trans (by rw [show clipP ex11B 0 3 = (0, 3) by decide, ex11_2]; rfl), h.2⟩)
theorem row11B (w : World) : Calls Tryd.prog 24 #[.string ⟨#[102, 40, 97, 32, 98, 41]⟩] w fun e w' => ∃ a c, e = .returned (.slice a 6 c) ∧ Hid (Rd .i32 w' a 6 c [102, 40, 97, 32, 98, 41] ∧ Below w.heap.size w w') :=
  row_any _ [102, 40, 97, 32, 98, 41] 6 rfl (by kernel_rfl) (by decide) (by omega) w
theorem fdC (HF : FindC 9) (F : Nat → Prop) (a : Option Addr) (c : Nat) (w : World) (h : RdL F w a 1 c ex11C) (hg : Gl w) : Calls Tryd.prog 9 #[.slice a 1 c, .agg #[.int .i64 0, .int .i64 0], .int .i32 34, .bool false] w fun e w' => e = .returned (.tuple #[.agg #[.int .i64 0, .int .i64 3], .agg #[.int .i64 0, .int .i64 3], .int .i64 0, .bool true]) ∧ Below w.heap.size w w' :=
  (HF F a 1 c ex11C ⟨0, 0⟩ 34 false w hg h (by unfold i64p i64b; decide) (by unfold i32b; decide) (by decide)).mono (fun e w' h => ⟨h.1.trans (by rw [show clipP ex11C 0 0 = (0, 0) by decide, ex11_4]; rfl), h.2⟩)
theorem row11C (w : World) : Calls Tryd.prog 24 #[.string ⟨#[120, 32, 34, 121, 34, 32, 122]⟩] w fun e w' => ∃ a c, e = .returned (.slice a 7 c) ∧ Hid (Rd .i32 w' a 7 c [120, 32, 34, 121, 34, 32, 122] ∧ Below w.heap.size w w') :=
  row_any _ [120, 32, 34, 121, 34, 32, 122] 7 rfl (by kernel_rfl) (by decide) (by omega) w
theorem awake_any (HF : FindC 9) (w : World) (hg : Gl w) : Calls Tryd.prog 11 #[] w fun e w' => e = .returned (.bool true) ∧ Below w.heap.size w w' := by
  have HA : Hid (∀ (W : World) (a : Option Addr) (c : Nat), Rd .i32 W a 5 c [97, 98, 32, 99, 100] → RdL (fun k => k < W.heap.size + 1) (W.alloc (.cells #[.slice a 5 c] 32)) (some ⟨W.heap.size, 0, none⟩) 1 1 ex11A) := fun W a c h => rdl_new W [.slice a 5 c] ex11A 1 rfl (by omega) (RowsAt.one h h.inHeap) _ rfl
  have HB : Hid (∀ (W : World) (a : Option Addr) (c : Nat), Rd .i32 W a 6 c [102, 40, 97, 32, 98, 41] → RdL (fun k => k < W.heap.size + 1) (W.alloc (.cells #[.slice a 6 c] 32)) (some ⟨W.heap.size, 0, none⟩) 1 1 ex11B) := fun W a c h => rdl_new W [.slice a 6 c] ex11B 1 rfl (by omega) (RowsAt.one h h.inHeap) _ rfl
  have HC : Hid (∀ (W : World) (a : Option Addr) (c : Nat), Rd .i32 W a 7 c [120, 32, 34, 121, 34, 32, 122] → RdL (fun k => k < W.heap.size + 1) (W.alloc (.cells #[.slice a 7 c] 32)) (some ⟨W.heap.size, 0, none⟩) 1 1 ex11C) := fun W a c h => rdl_new W [.slice a 7 c] ex11C 1 rfl (by omega) (RowsAt.one h h.inHeap) _ rfl
  have HFF := Lib.hid HF
  have HG0 := Lib.hid hg
  clear hg
  go_enter Tryd.func11, Tryd.ntmps11
  go_upto_region 2 with (first
    | (go_at_call 24; refine (row11A _).mono ?_; rintro e v1 ⟨a1, c1, rfl, R1⟩; have hL1 := HA.out v1 a1 c1 R1.out.1; have hb1 := btr R1.out.2 (bal v1 (.cells #[.slice a1 5 c1] 32)); obtain ⟨Y1, hY1⟩ : ∃ W, v1.alloc (.cells #[.slice a1 5 c1] 32) = W := ⟨_, rfl⟩; rw [hY1] at hL1 hb1; have L1 := Lib.hid hL1; have E1 := Lib.hid hb1; clear hL1 hb1)
    | (go_at_call 9; refine (fdA HFF.out _ _ _ _ L1.out (HG0.out.up E1.out)).mono ?_; rintro e u1 ⟨rfl, g1⟩))
  obtain ⟨t1, t2, t3⟩ := box22 u1 (.cells #[.int .i64 0, .int .i64 0] 24) (.cells #[.int .i64 0, .int .i64 2] 24)
  obtain ⟨X1, hX1⟩ : ∃ W, (u1.alloc (.cells #[.int .i64 0, .int .i64 0] 24)).alloc (.cells #[.int .i64 0, .int .i64 2] 24) = W := ⟨_, rfl⟩
  rw [hX1] at t1 t2 t3
  have D1 : Hid (Below w.heap.size w X1) := btr E1.out (btr g1 t3)
  have HG1 := Lib.hid (HG0.out.up D1.out)
  obtain ⟨S1, hS1⟩ : ∃ S, u1.heap.size = S := ⟨_, rfl⟩
  rw [hS1] at t1 t2
  have P1 := Lib.hid t1
  have Q1 := Lib.hid t2
  have HX1 := Lib.hid hX1
  have HS1 := Lib.hid hS1
  clear t1 t2 t3 hX1 hS1 g1 hY1
  rw [HX1.out, HS1.out]
  go_upto_region 3 with (first
    | (go_at_call 24; refine (row11B _).mono ?_; rintro e v2 ⟨a2, c2, rfl, R2⟩; have hL2 := HB.out v2 a2 c2 R2.out.1; have hb2 := btr R2.out.2 (bal v2 (.cells #[.slice a2 6 c2] 32)); obtain ⟨Y2, hY2⟩ : ∃ W, v2.alloc (.cells #[.slice a2 6 c2] 32) = W := ⟨_, rfl⟩; rw [hY2] at hL2 hb2; have L2 := Lib.hid hL2; have E2 := Lib.hid hb2; clear hL2 hb2)
    | (go_at_call 9; refine (fdB HFF.out _ _ _ _ L2.out (HG1.out.up E2.out)).mono ?_; rintro e u2 ⟨rfl, g2⟩))
  obtain ⟨t1, t2, t3⟩ := box22 u2 (.cells #[.int .i64 0, .int .i64 2] 24) (.cells #[.int .i64 0, .int .i64 4] 24)
  obtain ⟨X2, hX2⟩ : ∃ W, (u2.alloc (.cells #[.int .i64 0, .int .i64 2] 24)).alloc (.cells #[.int .i64 0, .int .i64 4] 24) = W := ⟨_, rfl⟩
  rw [hX2] at t1 t2 t3
  have D2 : Hid (Below X1.heap.size X1 X2) := btr E2.out (btr g2 t3)
  have HG2 := Lib.hid (HG1.out.up D2.out)
  obtain ⟨S2, hS2⟩ : ∃ S, u2.heap.size = S := ⟨_, rfl⟩
  rw [hS2] at t1 t2
  have P2 := Lib.hid t1
  have Q2 := Lib.hid t2
  have HX2 := Lib.hid hX2
  have HS2 := Lib.hid hS2
  clear t1 t2 t3 hX2 hS2 g2 hY2
  rw [HX2.out, HS2.out]
  go_upto_region 4 with (first
    | (go_at_call 24; refine (row11C _).mono ?_; rintro e v3 ⟨a3, c3, rfl, R3⟩; have hL3 := HC.out v3 a3 c3 R3.out.1; have hb3 := btr R3.out.2 (bal v3 (.cells #[.slice a3 7 c3] 32)); obtain ⟨Y3, hY3⟩ : ∃ W, v3.alloc (.cells #[.slice a3 7 c3] 32) = W := ⟨_, rfl⟩; rw [hY3] at hL3 hb3; have L3 := Lib.hid hL3; have E3 := Lib.hid hb3; clear hL3 hb3)
    | (go_at_call 9; refine (fdC HFF.out _ _ _ _ L3.out (HG2.out.up E3.out)).mono ?_; rintro e u3 ⟨rfl, g3⟩))
  obtain ⟨t1, t2, t3⟩ := box22 u3 (.cells #[.int .i64 0, .int .i64 3] 24) (.cells #[.int .i64 0, .int .i64 3] 24)
  obtain ⟨X3, hX3⟩ : ∃ W, (u3.alloc (.cells #[.int .i64 0, .int .i64 3] 24)).alloc (.cells #[.int .i64 0, .int .i64 3] 24) = W := ⟨_, rfl⟩
  rw [hX3] at t1 t2 t3
  have D3 : Hid (Below X2.heap.size X2 X3) := btr E3.out (btr g3 t3)
  have HG3 := Lib.hid (HG2.out.up D3.out)
  obtain ⟨S3, hS3⟩ : ∃ S, u3.heap.size = S := ⟨_, rfl⟩
  rw [hS3] at t1 t2
  have P3 := Lib.hid t1
  have Q3 := Lib.hid t2
  have HX3 := Lib.hid hX3
  have HS3 := Lib.hid hS3
  clear t1 t2 t3 hX3 hS3 g3 hY3
  rw [HX3.out, HS3.out]
  obtain ⟨i0, i1, -, -⟩ := row2 P3.out
  obtain ⟨j0, j1, -, -⟩ := row2 Q3.out
  obtain ⟨k0, k1, -, -⟩ := row2 (keep2 P2.out D3.out)
  obtain ⟨l0, l1, -, -⟩ := row2 (keep2 Q2.out D3.out)
  obtain ⟨m0, m1, -, -⟩ := row2 (keep2 P1.out (btr D2.out D3.out))
  obtain ⟨n0, n1, -, -⟩ := row2 (keep2 Q1.out (btr D2.out D3.out))
  go_wp2
  go_ret
  exact ⟨rfl, btr D1.out (btr D2.out D3.out)⟩
end Go.Proofs.YthlhgkeodaifcaaDoor.U
