/-
  Lines that are written down; chapter 9's examples.
-/
import Derived.Test.YtnegijbdgefaoaaNProg
namespace Go.Proofs.Ytnegijbdgefaoaa.U
open Go.RowKit
set_option linter.unusedVariables false
set_option linter.unusedSimpArgs false
set_option maxRecDepth 100000

/-- lines that have just been laid: one row of rows that can be read -/
theorem rdl_new (w : World) (vs : List Value) (L : List (List Int)) (n : Nat) (hn : vs.length = n) (hm : n ≤ 1000) (h : RowsAt (fun k => k < w.heap.size) w vs L) (cs : Array Value) (hc : cs = vs.toArray) :
    RdL (fun k => k < w.heap.size + 1) (w.alloc (.cells cs 40)) (some ⟨w.heap.size, 0, none⟩) n n L := by
  subst hc
  have hg := heap_alloc_new w (.cells vs.toArray 40)
  refine ⟨vs, ⟨by omega, Nat.le_refl _, by unfold maxLen; omega, (fun e => by cases e), fun _ => ⟨_, 0, rfl, heap_lt hg, fun j u hu => ?_⟩⟩, fun _ ad e => by cases e; exact Nat.lt_succ_self _, ?_⟩
  · rw [cell_row hg, Nat.zero_add]; simpa using hu
  · exact (h.frF (Fr.of_below (fun _ => False) (bal w _)) (fun _ _ h => h)).mono (fun k hk => by omega)
theorem q00 : i64p ⟨0, 0⟩ := ⟨⟨by decide, by decide⟩, by decide, by decide⟩
theorem nxA (F : Nat → Prop) (a : Option Addr) (c : Nat) (w : World) (h : RdL F w a 1 c ex9A) : Calls Try.prog 16 #[.slice a 1 c, .agg #[.int .i64 0, .int .i64 0], .bool false] w fun e w' => e = .returned (.agg #[.int .i64 0, .int .i64 1]) ∧ Below w.heap.size w w' :=
  (wnext_any F a 1 c ex9A ⟨0, 0⟩ false w h q00 (by decide)).mono (fun e w' h => ⟨h.1.trans (by rw [show behindP ex9A (if false = true then 1 else 0) (clipP ex9A 0 0) = (0, 1) by decide]; rfl), h.2⟩)
theorem nxB (F : Nat → Prop) (a : Option Addr) (c : Nat) (w : World) (h : RdL F w a 1 c ex9A) : Calls Try.prog 16 #[.slice a 1 c, .agg #[.int .i64 0, .int .i64 0], .bool true] w fun e w' => e = .returned (.agg #[.int .i64 0, .int .i64 4]) ∧ Below w.heap.size w w' :=
  (wnext_any F a 1 c ex9A ⟨0, 0⟩ true w h q00 (by decide)).mono (fun e w' h => ⟨h.1.trans (by rw [show behindP ex9A (if true = true then 1 else 0) (clipP ex9A 0 0) = (0, 4) by decide]; rfl), h.2⟩)
theorem nxC (F : Nat → Prop) (a : Option Addr) (c : Nat) (w : World) (h : RdL F w a 3 c ex9B) : Calls Try.prog 16 #[.slice a 3 c, .agg #[.int .i64 0, .int .i64 0], .bool false] w fun e w' => e = .returned (.agg #[.int .i64 1, .int .i64 0]) ∧ Below w.heap.size w w' :=
  (wnext_any F a 3 c ex9B ⟨0, 0⟩ false w h q00 (by decide)).mono (fun e w' h => ⟨h.1.trans (by rw [show behindP ex9B (if false = true then 1 else 0) (clipP ex9B 0 0) = (1, 0) by decide]; rfl), h.2⟩)
theorem nxD (F : Nat → Prop) (a : Option Addr) (c : Nat) (w : World) (h : RdL F w a 3 c ex9B) : Calls Try.prog 21 #[.slice a 3 c, .agg #[.int .i64 0, .int .i64 0]] w fun e w' => e = .returned (.agg #[.int .i64 1, .int .i64 0]) ∧ Below w.heap.size w w' :=
  (wparan_any F a 3 c ex9B ⟨0, 0⟩ w h q00 (by decide)).mono (fun e w' h => ⟨h.1.trans (by rw [show behindP ex9B 4 (clipP ex9B 0 0) = (1, 0) by decide]; rfl), h.2⟩)
theorem nxE (F : Nat → Prop) (a : Option Addr) (c : Nat) (w : World) (h : RdL F w a 1 c ex9C) : Calls Try.prog 23 #[.slice a 1 c, .agg #[.int .i64 0, .int .i64 0]] w fun e w' => e = .returned (.agg #[.int .i64 0, .int .i64 3]) ∧ Below w.heap.size w w' :=
  (wsentn_any F a 1 c ex9C ⟨0, 0⟩ w h q00 (by decide)).mono (fun e w' h => ⟨h.1.trans (by rw [show behindP ex9C 6 (clipP ex9C 0 0) = (0, 3) by decide]; rfl), h.2⟩)
theorem row9A (w : World) : Calls Try.prog 32 #[.string ⟨#[97, 46, 98, 32, 99]⟩] w fun e w' => ∃ a c, e = .returned (.slice a 5 c) ∧ Hid (Rd .i32 w' a 5 c [97, 46, 98, 32, 99] ∧ Below w.heap.size w w') :=
  row_any _ [97, 46, 98, 32, 99] 5 rfl (by kernel_rfl) (by decide) (by omega) w
theorem row9C (w : World) : Calls Try.prog 32 #[.string ⟨#[65, 46, 32, 66]⟩] w fun e w' => ∃ a c, e = .returned (.slice a 4 c) ∧ Hid (Rd .i32 w' a 4 c [65, 46, 32, 66] ∧ Below w.heap.size w w') :=
  row_any _ [65, 46, 32, 66] 4 rfl (by kernel_rfl) (by decide) (by omega) w
/-- the second example's lines: three rows, the middle one nil -/
theorem rdlB (w : World) (s : Nat) (hs : w.heap.size = s) : RdL (fun k => k < s + 3) (((w.alloc (.cells #[.int .i32 97, .int .i32 98] 21)).alloc (.cells #[.int .i32 99] 21)).alloc (.cells #[.slice (some ⟨s, 0, none⟩) 2 2, .slice none 0 0, .slice (some ⟨s + 1, 0, none⟩) 1 1] 40)) (some ⟨s + 1 + 1, 0, none⟩) 3 3 ex9B := by
  subst hs
  have h1 : Rd .i32 (w.alloc (.cells #[.int .i32 97, .int .i32 98] 21)) (some ⟨w.heap.size, 0, none⟩) 2 2 [97, 98] := Rd_new .i32 w [97, 98] _ _ 2 rfl rfl (by unfold maxLen; omega) (by decide)
  have h2 := Rd_new .i32 (w.alloc (.cells #[.int .i32 97, .int .i32 98] 21)) [99] #[.int .i32 99] 21 1 rfl rfl (by unfold maxLen; omega) (by decide)
  have h1' := h1.alloc (.cells #[.int .i32 99] 21)
  have hz : (w.alloc (.cells #[.int .i32 97, .int .i32 98] 21)).heap.size = w.heap.size + 1 := by simp
  rw [hz] at h2
  have hz2 : ((w.alloc (.cells #[.int .i32 97, .int .i32 98] 21)).alloc (.cells #[.int .i32 99] 21)).heap.size = w.heap.size + 1 + 1 := by simp
  have := rdl_new ((w.alloc (.cells #[.int .i32 97, .int .i32 98] 21)).alloc (.cells #[.int .i32 99] 21)) ([.slice (some ⟨w.heap.size, 0, none⟩) 2 2] ++ ([.slice none 0 0] ++ [.slice (some ⟨w.heap.size + 1, 0, none⟩) 1 1])) ([[97, 98]] ++ ([[]] ++ [[99]])) 3 rfl (by omega) ((RowsAt.one h1' h1'.inHeap).append ((RowsAt.one (Rd.none0 .i32 _) (InF.zero _ _)).append (RowsAt.one h2 h2.inHeap))) _ rfl
  rw [hz2] at this
  exact this
theorem awake_any (w : World) : Calls Try.prog 15 #[] w fun e w' => e = .returned (.bool true) ∧ Below w.heap.size w w' := by
  have HA : Hid (∀ (W : World) (a : Option Addr) (c : Nat), Rd .i32 W a 5 c [97, 46, 98, 32, 99] → RdL (fun k => k < W.heap.size + 1) (W.alloc (.cells #[.slice a 5 c] 40)) (some ⟨W.heap.size, 0, none⟩) 1 1 ex9A) := fun W a c h => rdl_new W [.slice a 5 c] ex9A 1 rfl (by omega) (RowsAt.one h h.inHeap) _ rfl
  have HC : Hid (∀ (W : World) (a : Option Addr) (c : Nat), Rd .i32 W a 4 c [65, 46, 32, 66] → RdL (fun k => k < W.heap.size + 1) (W.alloc (.cells #[.slice a 4 c] 40)) (some ⟨W.heap.size, 0, none⟩) 1 1 ex9C) := fun W a c h => rdl_new W [.slice a 4 c] ex9C 1 rfl (by omega) (RowsAt.one h h.inHeap) _ rfl
  have tk1 : True := trivial
  have tk2 : True := trivial
  go_enter Try.func15, Try.ntmps15
  go_upto_region 3 with (go_at_call 32; refine (row9A _).mono ?_; rintro e w1 ⟨a1, c1, rfl, H1⟩)
  have hb2 := bal w1 (.cells #[.slice a1 5 c1] 40)
  have hb3 := bal (w1.alloc (.cells #[.slice a1 5 c1] 40)) (.cells #[.int .i32 97, .int .i32 98] 21)
  have hb4 := bal ((w1.alloc (.cells #[.slice a1 5 c1] 40)).alloc (.cells #[.int .i32 97, .int .i32 98] 21)) (.cells #[.int .i32 99] 21)
  have hb5 := bal (((w1.alloc (.cells #[.slice a1 5 c1] 40)).alloc (.cells #[.int .i32 97, .int .i32 98] 21)).alloc (.cells #[.int .i32 99] 21)) (.cells #[.slice (some ⟨w1.heap.size + 1, 0, none⟩) 2 2, .slice none 0 0, .slice (some ⟨w1.heap.size + 1 + 1, 0, none⟩) 1 1] 40)
  have hB := rdlB (w1.alloc (.cells #[.slice a1 5 c1] 40)) (w1.heap.size + 1) (by simp)
  have hA := ((HA.out w1 a1 c1 H1.out.1).below (btr hb3 (btr hb4 hb5)))
  have hW := btr H1.out.2 (btr hb2 (btr hb3 (btr hb4 hb5)))
  obtain ⟨W, hWd⟩ : ∃ W, ((((w1.alloc (.cells #[.slice a1 5 c1] 40)).alloc (.cells #[.int .i32 97, .int .i32 98] 21)).alloc (.cells #[.int .i32 99] 21)).alloc (.cells #[.slice (some ⟨w1.heap.size + 1, 0, none⟩) 2 2, .slice none 0 0, .slice (some ⟨w1.heap.size + 1 + 1, 0, none⟩) 1 1] 40)) = W := ⟨_, rfl⟩
  rw [hWd] at hB hA hW ⊢
  have HB2 := Lib.hid hB
  have HA2 := Lib.hid hA
  have HW := Lib.hid hW
  clear hb2 hb3 hb4 hb5 hB hA hW hWd HA H1
  have tkA : True := trivial
  have tkB : True := trivial
  have tkC : True := trivial
  go_wp2_with (first
    | (go_at_call 16; have _t := tkA; refine (nxA _ _ _ W HA2.out).mono ?_; clear tkA _t; rintro e w2 ⟨rfl, h2⟩; have H2 := Lib.hid h2; clear h2)
    | (go_at_call 16; have _t := tkB; refine (nxB _ _ _ w2 (HA2.out.below H2.out)).mono ?_; clear tkB _t; rintro e w3 ⟨rfl, h3⟩; have H3 := Lib.hid (btr H2.out h3); clear h3)
    | (go_at_call 16; have _t := tkC; refine (nxC _ _ _ w3 (HB2.out.below H3.out)).mono ?_; clear tkC _t; rintro e w4 ⟨rfl, h4⟩; have H4 := Lib.hid (btr H3.out h4); clear h4)
    | (go_at_call 21; refine (nxD _ _ _ w4 (HB2.out.below H4.out)).mono ?_; rintro e w5 ⟨rfl, h5⟩; have H5 := Lib.hid (btr H4.out h5); clear h5)
    | (go_at_call 32; refine (row9C _).mono ?_; rintro e w6 ⟨a6, c6, rfl, H6⟩)
    | (go_at_call 23; refine (nxE _ _ _ _ (HC.out w6 a6 c6 H6.out.1)).mono ?_; rintro e w7 ⟨rfl, h7⟩; have H7 := Lib.hid h7; clear h7))
  go_ret
  exact ⟨rfl, btr HW.out (btr H5.out (btr H6.out.2 (btr (bal w6 _) H7.out)))⟩
/-- a call's answer, seen from an earlier world -/
theorem upC {f : FuncId} {args : Array Value} {v : Value} {w1 W : World} (hb : Below w1.heap.size w1 W) (h : Calls Try.prog f args W fun e w' => e = .returned v ∧ Below W.heap.size W w') : Calls Try.prog f args W fun e w' => e = .returned v ∧ Below w1.heap.size w1 w' :=
  h.mono (fun e w' h => ⟨h.1, hb.trans (h.2.mono hb.size)⟩)
theorem eqC {f : FuncId} {args : Array Value} {v : Value} {W : World} (h : Calls Try.prog f args W fun e w' => e = .returned v ∧ W = w') : Calls Try.prog f args W fun e w' => e = .returned v ∧ Below W.heap.size W w' :=
  h.mono (fun e w' h => ⟨h.1, by rw [← h.2]; exact Below.refl _ _⟩)
end Go.Proofs.Ytnegijbdgefaoaa.U
