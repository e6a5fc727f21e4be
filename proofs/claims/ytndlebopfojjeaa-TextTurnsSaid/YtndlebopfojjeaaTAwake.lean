/-
  Chapter 4's examples: awake.
-/
import Derived.Test.YtndlebopfojjeaaTRefB
import Derived.Test.YtndlebopfojjeaaTAll
import Derived.Test.YtndlebopfojjeaaTNil
namespace Go.Proofs.Ytndlebopfojjeaa.U
open Go.RowKit
set_option linter.unusedVariables false
set_option linter.unusedSimpArgs false
set_option maxRecDepth 100000

/-- two lines that are written down -/
theorem rdl_lit2 (w : World) (x y : List Int) (cx cy : Array Value) (n m : Nat) (hcx : cx = (x.map (Value.int .i32)).toArray) (hcy : cy = (y.map (Value.int .i32)).toArray) (hx : x.length = n) (hy : y.length = m) (hn : n ≤ maxLen) (hm : m ≤ maxLen)
    (wx : ∀ z ∈ x, (Lit.int .i32 z).wf = true) (wy : ∀ z ∈ y, (Lit.int .i32 z).wf = true) :
    RdL (fun k => w.heap.size ≤ k ∧ k < w.heap.size + 3) (((w.alloc (.cells cx 21)).alloc (.cells cy 21)).alloc (.cells #[.slice (some ⟨w.heap.size, 0, none⟩) n n, .slice (some ⟨w.heap.size + 1, 0, none⟩) m m] 31)) (some ⟨w.heap.size + 2, 0, none⟩) 2 2 [x, y] := by
  have hg := heap_alloc_new ((w.alloc (.cells cx 21)).alloc (.cells cy 21)) (.cells #[.slice (some ⟨w.heap.size, 0, none⟩) n n, .slice (some ⟨w.heap.size + 1, 0, none⟩) m m] 31)
  have hsz : ((w.alloc (.cells cx 21)).alloc (.cells cy 21)).heap.size = w.heap.size + 2 := by simp
  rw [hsz] at hg
  have r1 := (Rd_new .i32 w x cx 21 n hcx hx hn wx).below (((Below.refl _ _).alloc (Nat.le_refl _) (.cells cy 21)).alloc (by simp) (.cells #[.slice (some ⟨w.heap.size, 0, none⟩) n n, .slice (some ⟨w.heap.size + 1, 0, none⟩) m m] 31))
  have r2 := (Rd_new .i32 (w.alloc (.cells cx 21)) y cy 21 m hcy hy hm wy).below ((Below.refl _ _).alloc (Nat.le_refl _) (.cells #[.slice (some ⟨w.heap.size, 0, none⟩) n n, .slice (some ⟨w.heap.size + 1, 0, none⟩) m m] 31))
  have hs1 : (w.alloc (.cells cx 21)).heap.size = w.heap.size + 1 := by simp
  rw [hs1] at r2
  refine ⟨[.slice (some ⟨w.heap.size, 0, none⟩) n n, .slice (some ⟨w.heap.size + 1, 0, none⟩) m m], ⟨rfl, Nat.le_refl _, by unfold maxLen; omega, (fun e => by cases e), fun _ => ⟨_, 0, rfl, heap_lt hg, fun j u hu => ?_⟩⟩, fun _ ad e => by cases e; exact ⟨by simp, by simp⟩, ?_⟩
  · rw [cell_row hg, Nat.zero_add]
    simpa using hu
  · exact (RowsAt.one r1 (fun _ ad e => by cases e; exact ⟨by simp, by simp⟩)).append (RowsAt.one r2 (fun _ ad e => by cases e; exact ⟨by simp, by simp⟩))

section
variable {Q : Nat → Prop} {bt ng : Nat} {L : List (List Int)} {w0 w : World}
theorem aft_tq {w' : World} {R : List (List Int)} {ng' : Nat} (hb : Below w0.heap.size w0 w) (hQ : ∀ k, w.heap.size ≤ k → Q k) (h : AfT (fun k => Q k ∧ k < w0.heap.size) w bt R ng' w') : TX Q w' bt R ng' ∧ Fr (fun k => Q k ∧ k < w0.heap.size) w w' := by
  refine ⟨h.1.mono (fun k hk => ?_) (Nat.le_refl _), h.2⟩
  rcases hk with h | h
  · exact h.1
  · exact hQ k h
/-- Insert, where the text was known since w0: what was made since then stays -/
theorem ins_tq (T : TX Q w0 bt L ng) (hb : Below w0.heap.size w0 w) (hQ : ∀ k, w.heap.size ≤ k → Q k) (i c : Int) (la : Option Addr) (ln lc : Nat) (l : List Int) (hr : Rd .i32 w la ln lc l) (hin : InF (fun k => k < w.heap.size ∧ ¬ (Q k ∧ k < w0.heap.size)) la ln) (hi : i64b i) (hc : i64b c) (hng : ng + 131072 ≤ lim) (R : List (List Int)) (er : Int) (he : insT L i c l = (R, er)) :
    Calls Try.prog 26 #[.pointer (some ⟨bt, 0, none⟩), .agg #[.int .i64 i, .int .i64 c], .slice la ln lc] w fun e w' => e = .returned (.int .i64 er) ∧ Hid (TX Q w' bt R (ng + 65536) ∧ Fr (fun k => Q k ∧ k < w0.heap.size) w w') := by
  have := insertT_any (fun k => Q k ∧ k < w0.heap.size) (fun k => k < w.heap.size ∧ ¬ (Q k ∧ k < w0.heap.size)) bt ng L i c la ln lc l w (T.bound.below hb) hi hc hr hin (fun k hk => hk) hng
  rw [he] at this
  refine this.mono ?_
  rintro e w' ⟨rfl, h⟩
  exact ⟨rfl, aft_tq hb hQ h⟩
theorem del_tq (T : TX Q w0 bt L ng) (hb : Below w0.heap.size w0 w) (hQ : ∀ k, w.heap.size ≤ k → Q k) (i c j d : Int) (hi : i64b i) (hc : i64b c) (hj : i64b j) (hd : i64b d) (hng : ng + 131072 ≤ lim) (R : List (List Int)) (er : Int) (he : delT L i c j d = (R, er)) :
    Calls Try.prog 28 #[.pointer (some ⟨bt, 0, none⟩), .agg #[.int .i64 i, .int .i64 c], .agg #[.int .i64 j, .int .i64 d]] w fun e w' => e = .returned (.int .i64 er) ∧ Hid (TX Q w' bt R (ng + 65536) ∧ Fr (fun k => Q k ∧ k < w0.heap.size) w w') := by
  have := deleteT_any (fun k => Q k ∧ k < w0.heap.size) bt ng L i c j d w (T.bound.below hb) hi hc hj hd hng
  rw [he] at this
  refine this.mono ?_
  rintro e w' ⟨rfl, h⟩
  exact ⟨rfl, aft_tq hb hQ h⟩
theorem rep_tq (T : TX Q w0 bt L ng) (hb : Below w0.heap.size w0 w) (hQ : ∀ k, w.heap.size ≤ k → Q k) (i n : Int) (la : Option Addr) (ln lc : Nat) (M : List (List Int)) (hr : RdL (fun k => k < w.heap.size ∧ ¬ (Q k ∧ k < w0.heap.size)) w la ln lc M) (hi : i64b i) (hn : i64b n) (hms : sizeN (lens M) ≤ 4611686018427387904) (hng : ng + 131072 ≤ lim) (R : List (List Int)) (er : Int) (he : repT L i n M = (R, er)) :
    Calls Try.prog 30 #[.pointer (some ⟨bt, 0, none⟩), .int .i64 i, .int .i64 n, .slice la ln lc] w fun e w' => e = .returned (.int .i64 er) ∧ Hid (TX Q w' bt R (ng + 65536) ∧ Fr (fun k => Q k ∧ k < w0.heap.size) w w') := by
  have := replaceT_any (fun k => Q k ∧ k < w0.heap.size) (fun k => k < w.heap.size ∧ ¬ (Q k ∧ k < w0.heap.size)) bt ng i n L M la ln lc w (T.bound.below hb) hi hn hr (fun k hk => hk) hms hng
  rw [he] at this
  refine this.mono ?_
  rintro e w' ⟨rfl, h⟩
  exact ⟨rfl, aft_tq hb hQ h⟩
end

set_option maxHeartbeats 4000000 in
theorem awake_any (w : World) : Calls Try.prog 14 #[] w fun e w' => e = .returned (.bool true) ∧ Below w.heap.size w w' := by
  obtain ⟨B, hB⟩ : ∃ B, w.heap.size = B := ⟨_, rfl⟩
  have e1 : offR [[97, 98], [99]] 1 0 = (3, 0) := by decide
  have e2 : placeR [[97, 98], [99]] 2 = (0, 2, 0) := by decide
  have e3 : insT [[97, 98], [99]] 0 1 [120, 10] = ([[97, 120], [98], [99]], 0) := by decide
  have e4 : delT [[97, 120], [98], [99]] 0 2 1 0 = ([[97, 120, 98], [99]], 0) := by decide
  have e5 : repT [[97, 120, 98], [99]] 0 2 [] = ([[]], 0) := by decide
  have E3 := Lib.hid e3
  have E4 := Lib.hid e4
  have E5 := Lib.hid e5
  have HB0 := Lib.hid hB
  have HRD := Lib.hid (rdl_lit2 w [97, 98] [99] _ _ 2 1 rfl rfl rfl rfl (by unfold maxLen; omega) (by unfold maxLen; omega) (by decide) (by decide))
  clear hB e3 e4 e5
  go_enter Try.func14, Try.ntmps14
  go_wp2_with fail
  refine (new_some_ok _ _ 2 2 [[97, 98], [99]] _ HRD.out (by omega) (by decide)).mono ?_
  rintro e w1 ⟨bt, rfl, T1, hb1⟩
  have HB1 : Hid (Below B w w1 ∧ B ≤ w1.heap.size) := by
    have h0 := (((Below.refl w.heap.size w).alloc (Nat.le_refl _) (.cells #[.int .i32 97, .int .i32 98] 21)).alloc (by simp) (.cells #[.int .i32 99] 21)).alloc (by simp <;> omega) (.cells #[.slice (some ⟨w.heap.size, 0, none⟩) 2 2, .slice (some ⟨w.heap.size + 1, 0, none⟩) 1 1] 31)
    have h1 := h0.trans (hb1.mono h0.size)
    rw [HB0.out] at h1
    exact ⟨h1, by have := h1.size; rw [HB0.out] at this; exact this⟩
  have T1' : Hid (TX (fun k => B ≤ k) w1 bt [[97, 98], [99]] 0) := T1.mono (fun k hk => by have := HB0.out; simp at hk; omega) (Nat.le_refl _)
  clear hb1 T1 HRD
  have HO := offset_any _ bt 0 _ 1 0 w1 T1'.out (by unfold i64b; omega) (by unfold i64b; omega)
  rw [e1] at HO
  have HO' := Lib.hid HO
  clear HO e1
  go_wp2_with fail
  refine HO'.out.mono ?_
  rintro e w2 ⟨rfl, hb2⟩
  have HB2 : Hid (Below B w w2 ∧ B ≤ w2.heap.size) := ⟨HB1.out.1.trans (hb2.mono HB1.out.2), by have := hb2.size; have := HB1.out.2; omega⟩
  have T2 : Hid (TX (fun k => B ≤ k) w2 bt [[97, 98], [99]] 0) := T1'.out.below hb2
  clear HO' hb2 T1' HB1
  have HP := place_any _ bt 0 2 _ w2 T2.out (by unfold i64b; omega)
  rw [e2] at HP
  have HP' := Lib.hid HP
  clear HP e2
  go_wp2_with fail
  refine HP'.out.mono ?_
  rintro e w3 ⟨rfl, hb3⟩
  have HB3 : Hid (Below B w w3 ∧ B ≤ w3.heap.size) := ⟨HB2.out.1.trans (hb3.mono HB2.out.2), by have := hb3.size; have := HB2.out.2; omega⟩
  have T3 : Hid (TX (fun k => B ≤ k) w3 bt [[97, 98], [99]] 0) := T2.out.below hb3
  clear HP' hb3 T2 HB2
  go_upto_region 6 with fail
  obtain ⟨ps, hps⟩ : ∃ ps, w3.heap.size = ps := ⟨_, rfl⟩
  obtain ⟨w4, hw4⟩ : ∃ w4, w3.alloc (.cells #[.int .i64 0, .int .i64 2] 30) = w4 := ⟨_, rfl⟩
  have hs4 : w4.heap.size = ps + 1 := by rw [← hw4, ← hps]; simp
  have g4 : w4.heap[ps]? = some (.cells #[.int .i64 0, .int .i64 2] 30 (0, 0)) := by rw [← hw4, ← hps]; exact heap_alloc_new w3 _
  have b34 : Below w3.heap.size w3 w4 := by rw [← hw4]; exact (Below.refl _ _).alloc (Nat.le_refl _) _
  have hBps : B ≤ ps := by rw [← hps]; exact HB3.out.2
  have T4 : TX (fun k => B ≤ k ∧ k ≠ ps) w4 bt [[97, 98], [99]] 0 := (T3.out.bound.mono (fun k hk => ⟨hk.1, by omega⟩) (Nat.le_refl _)).below b34
  have B4 : Below B w w4 := HB3.out.1.trans (b34.mono HB3.out.2)
  rw [hps, hw4]
  have r4 := Rd_new .i32 w4 [120, 10] #[.int .i32 120, .int .i32 10] 21 2 rfl rfl (by unfold maxLen; omega) (by decide)
  have HI := Lib.hid (ins_tq T4 ((Below.refl _ w4).alloc (Nat.le_refl _) (.cells #[.int .i32 120, .int .i32 10] 21)) (fun k hk => by simp at hk; omega) 0 1 _ 2 2 [120, 10] r4 (fun _ ad e => by cases e; simp) (by unfold i64b; omega) (by unfold i64b; omega) (by decide) _ _ E3.out)
  have X4 : Hid (Below B w w4 ∧ w4.heap[ps]? = some (.cells #[.int .i64 0, .int .i64 2] 30 (0, 0)) ∧ B ≤ ps ∧ w4.heap.size = ps + 1) := ⟨B4, g4, hBps, hs4⟩
  clear T3 HB3 hps hw4 g4 b34 T4 B4 hBps hs4 r4 E3
  go_wp2_with fail
  refine HI.out.mono ?_
  rintro e w5 ⟨rfl, h5⟩
  have X5 : Hid (Below B w w5 ∧ w5.heap[ps]? = some (.cells #[.int .i64 0, .int .i64 2] 30 (0, 0)) ∧ B ≤ ps ∧ ps < w5.heap.size) := by
    obtain ⟨x1, x2, x3, x4⟩ := X4.out
    have hf := h5.out.2
    have hz := hf.size
    simp only [World.size_alloc] at hz
    have hba : Below w4.heap.size w4 (w4.alloc (.cells #[.int .i32 120, .int .i32 10] 21)) := (Below.refl _ w4).alloc (Nat.le_refl _) _
    refine ⟨(x1.trans (hba.mono (by omega))).trans (hf.below (by simp; omega) (fun k hk => hk.1.1)), ?_, x3, by omega⟩
    rw [hf.block ps (by simp; omega) (fun hk => hk.1.2 rfl), hba.block ps (by omega)]
    exact x2
  have T5 := Lib.hid h5.out.1
  clear HI h5 X4
  have HD := Lib.hid (del_tq T5.out (Below.refl _ w5) (fun k hk => by have := X5.out; omega) 0 2 1 0 (by unfold i64b; omega) (by unfold i64b; omega) (by unfold i64b; omega) (by unfold i64b; omega) (by decide) _ _ E4.out)
  go_wp2_with fail
  refine HD.out.mono ?_
  rintro e w6 ⟨rfl, h6⟩
  have X6 : Hid (Below B w w6 ∧ w6.heap[ps]? = some (.cells #[.int .i64 0, .int .i64 2] 30 (0, 0)) ∧ B ≤ ps ∧ ps < w6.heap.size) := by
    obtain ⟨x1, x2, x3, x4⟩ := X5.out
    have hf := h6.out.2
    have hz := hf.size
    exact ⟨x1.trans (hf.below (by omega) (fun k hk => hk.1.1)), (hf.block ps x4 (fun hk => hk.1.2 rfl)).trans x2, x3, by omega⟩
  have T6 := Lib.hid h6.out.1
  clear HD h6 X5 T5 E4
  have HA := Lib.hid (all_any _ bt _ _ w6 T6.out (by decide))
  go_wp2_with fail
  refine HA.out.mono ?_
  rintro e w7 ⟨a7, c7, rfl, F7, b7⟩
  have R7 : Hid (RdL (fun k => w6.heap.size ≤ k) w7 a7 2 c7 [[97, 120, 98], [99]]) := F7.rdl (by decide)
  have X7 : Hid (Below B w w7 ∧ w7.heap[ps]? = some (.cells #[.int .i64 0, .int .i64 2] 30 (0, 0)) ∧ B ≤ ps ∧ ps < w6.heap.size ∧ w6.heap.size ≤ w7.heap.size) := by
    obtain ⟨x1, x2, x3, x4⟩ := X6.out
    exact ⟨x1.trans (b7.mono (by omega)), (b7.block ps x4).trans x2, x3, x4, b7.size⟩
  have HR := Lib.hid (rep_tq T6.out b7 (fun k hk => by have := X7.out; omega) 0 2 none 0 0 [] (RdL.none0 _ _) (by unfold i64b; omega) (by unfold i64b; omega) (by simp [lens, sizeN_nil]) (by decide) _ _ E5.out)
  clear F7 b7 HA X6 T6 E5
  go_wp2_with fail
  refine HR.out.mono ?_
  rintro e w8 ⟨rfl, h8⟩
  have hs68 := h8.out.2.size
  have R8 : Hid (RdL (fun k => w6.heap.size ≤ k) w8 a7 2 c7 [[97, 120, 98], [99]]) := R7.out.frF h8.out.2 (fun k hk h => by omega)
  have X8 : Hid (Below B w w8 ∧ B ≤ w8.heap.size) := by
    obtain ⟨x1, x2, x3, x4, x5⟩ := X7.out
    exact ⟨x1.trans (h8.out.2.below (by omega) (fun k hk => hk.1.1)), by omega⟩
  have G8 : w8.heap[ps]? = some (.cells #[.int .i64 0, .int .i64 2] 30 (0, 0)) := by
    obtain ⟨x1, x2, x3, x4, x5⟩ := X7.out
    exact (h8.out.2.block ps (by omega) (fun hk => hk.1.2 rfl)).trans x2
  have c80 : w8.cell? ⟨ps, 0, none⟩ = some (.int .i64 0) := cell_row G8 0
  have c81 : w8.cell? ⟨ps, 1, none⟩ = some (.int .i64 2) := cell_row G8 1
  have l8 := heap_lt G8
  have T8 := Lib.hid h8.out.1
  have hb8 := (((Below.refl w8.heap.size w8).alloc (Nat.le_refl _) (.cells #[.int .i32 97, .int .i32 120, .int .i32 98] 21)).alloc (by simp) (.cells #[.int .i32 99] 21)).alloc (by simp <;> omega) (.cells #[.slice (some ⟨w8.heap.size, 0, none⟩) 3 3, .slice (some ⟨w8.heap.size + 1, 0, none⟩) 1 1] 31)
  have HS := rsame_any _ _ _ _ 2 2 _ _ _ _ _ (R8.out.below hb8) (rdl_lit2 w8 [97, 120, 98] [99] _ _ 3 1 rfl rfl rfl rfl (by unfold maxLen; omega) (by unfold maxLen; omega) (by decide) (by decide))
  rw [show decide (([[97, 120, 98], [99]] : List (List Int)) = [[97, 120, 98], [99]]) = true from by decide] at HS
  have HS' := Lib.hid HS
  have HB8 := Lib.hid hb8
  have T9 : Hid (∀ W, Below w8.heap.size w8 W → TX (fun k => B ≤ k ∧ k ≠ ps) W bt [[]] (0 + 65536 + 65536 + 65536)) := fun W hW => T8.out.below hW
  have HC : Hid (∀ W, Below w8.heap.size w8 W → Calls Try.prog 24 #[.pointer (some ⟨bt, 0, none⟩)] W fun e w' => e = .returned (.int .i64 1) ∧ W = w') := fun W hW => count_any _ bt _ [[]] W (T9.out W hW)
  have HN : Hid (∀ W, Below w8.heap.size w8 W → Calls Try.prog 23 #[.pointer (some ⟨bt, 0, none⟩)] W fun e w' => e = .returned (.int .i64 0) ∧ W = w') := fun W hW => runesT_any _ bt _ [[]] W (T9.out W hW)
  clear hs68 X7 R7 HR h8 G8 HS hb8 T8 T9 R8
  go_wp2_with fail
  refine HS'.out.mono ?_
  rintro e w9 ⟨rfl, hb9⟩
  have hb89 := HB8.out.trans (hb9.mono HB8.out.size)
  have HC9 := Lib.hid (HC.out w9 hb89)
  have HN9 := Lib.hid (HN.out w9 hb89)
  have X9 : Hid (Below B w w9) := X8.out.1.trans (hb89.mono X8.out.2)
  clear hb9 hb89 HC HN HS' HB8
  go_wp2_with (first
    | (go_at_call 24; refine HC9.out.mono ?_; rintro e w' ⟨rfl, rfl⟩)
    | (go_at_call 23; refine HN9.out.mono ?_; rintro e w' ⟨rfl, rfl⟩))
  go_ret
  exact ⟨rfl, by rw [HB0.out]; exact X9.out⟩
end Go.Proofs.Ytndlebopfojjeaa.U
