/-
  The program's Put, whole; of registers that are none.
-/
import Derived.Test.YtleidcegbfnmkaaHPutD
namespace Go.Proofs.Ytleidcegbfnmkaa.U
open Go.RowKit
set_option linter.unusedVariables false
set_option linter.unusedSimpArgs false
set_option maxRecDepth 100000

theorem pput_whole (F : Nat → Prop) (P : Nat → Prop) (bx : Nat) (s : List Nm) (r k : Int) (a : Option Addr) (n c : Nat) (L : List (List Int)) (d : Bool) (w : World) (h : GSt P w bx s) (hr : RdL F w a n c L) (hs : sizeR L ≤ 1048576) (hwr : (Lit.int .i32 r).wf = true) :
    Calls Try.prog 15 #[.pointer (some ⟨bx, 0, none⟩), .int .i32 r, rgV k a n c, .bool d] w fun e w' => e = .returned (.int .i64 (putR s r ⟨k, L⟩ d).2) ∧ AfG P w w' bx (putR s r ⟨k, L⟩ d).1 := by
  by_cases hb : (putN r && regB k L) = false
  · exact pputBad_any F P bx s r k a n c L d w h hr hs hwr hb
  have hb2 : putN r = true ∧ regB k L = true := by
    simp only [Bool.not_eq_false, Bool.and_eq_true] at hb
    exact hb
  obtain ⟨tp, tr⟩ := hb2
  by_cases h95 : r = 95
  · subst h95
    exact pputUnder_any F P bx s k a n c L d w h hr hs tr
  by_cases hbig : bigR r = true
  · exact pputBig_any F P bx s r k a n c L d w h hr hs hwr tp tr h95 h95 hbig
  obtain ⟨hbad, k0, k2, hz⟩ := good_put s r k L d tp tr
  have hbg : bigR r = false := by simpa using hbig
  by_cases hl : littleR r = true
  · have hl2 := hl
    unfold littleR at hl2
    simp only [Bool.and_eq_true, decide_eq_true_eq] at hl2
    refine pputPlain_any F P bx s r k a n c L d w h hr hs hwr tp tr h95 r ?_ (by unfold nmB; rw [hl]; simp) (by omega) (by omega) hbg ?_ ?_
    · unfold targetI
      rw [if_pos (by omega)]
    · unfold plI
      rw [if_neg (by omega), if_neg (by omega)]
      omega
    · unfold putR
      rw [hbad, if_neg (by simp), if_neg h95, if_neg hbig, if_pos hl]
  · have h0 : r = 0 ∨ r = 34 := by
      unfold putN at tp
      rw [hbg] at tp
      have : littleR r = false := by simpa using hl
      rw [this] at tp
      simp only [Bool.or_eq_true, decide_eq_true_eq, Bool.or_false] at tp
      omega
    have hput : ∀ d, putR s r ⟨k, L⟩ d = if !d then (finR s 48 (normR ⟨k, L⟩), 0) else if (normR ⟨k, L⟩).k = 1 ∨ 1 < (normR ⟨k, L⟩).L.length then (finR (shiftR 8 s) 49 (normR ⟨k, L⟩), 0) else (finR s 45 (normR ⟨k, L⟩), 0) := by
      intro d
      unfold putR
      rw [hbad, if_neg (by simp), if_neg h95, if_neg hbig, if_neg hl]
    have htt : ∀ d, targetI r (normR ⟨k, L⟩).k (normR ⟨k, L⟩).L.length d = if d = false then 48 else if (normR ⟨k, L⟩).k = 1 ∨ 1 < (normR ⟨k, L⟩).L.length then 49 else 45 := by
      intro d
      unfold targetI
      rw [if_neg (by omega)]
    cases d with
    | false =>
      refine pputPlain_any F P bx s r k a n c L false w h hr hs hwr tp tr h95 48 (by rw [htt, if_pos rfl]) (by decide) (by decide) (by decide) (by decide) (by decide) ?_
      rw [hput]
      rfl
    | true =>
      by_cases hq : (normR ⟨k, L⟩).k = 1 ∨ 1 < (normR ⟨k, L⟩).L.length
      · refine pputShift_any F P bx s r k a n c L true w h hr hs hwr tp tr h95 (by rw [htt, if_neg (by simp), if_pos hq]) ?_
        rw [hput, if_neg (by simp), if_pos hq]
      · refine pputPlain_any F P bx s r k a n c L true w h hr hs hwr tp tr h95 45 (by rw [htt, if_neg (by simp), if_neg hq]) (by decide) (by decide) (by decide) (by decide) (by decide) ?_
        rw [hput, if_neg (by simp), if_neg hq]
/-- Put of registers that are none -/
theorem pput_nil (r : Int) (k : Int) (a : Option Addr) (n c : Nat) (d : Bool) (w : World) : Calls Try.prog 15 #[.pointer none, .int .i32 r, rgV k a n c, .bool d] w fun e w' => e = .returned (.int .i64 1) ∧ Below w.heap.size w w' := by
  unfold rgV
  have HB : Hid (Below w.heap.size w (w.alloc (.cells #[.int .i64 k, .slice a n c] 31))) := (Below.refl _ _).alloc (Nat.le_refl _) _
  go_enter Try.func15, Try.ntmps15
  go_wp2_with fail
  go_ret
  exact ⟨rfl, HB.out⟩
theorem pall_nil (w : World) : Calls Try.prog 18 #[.pointer none] w fun e w' => e = .returned (.slice none 0 0) ∧ Below w.heap.size w w' := by
  obtain ⟨w0, hw0⟩ : ∃ w0, w.iter namesB 0 = w0 := ⟨_, rfl⟩
  have HST : Hid (w0.heap[w.heap.size]? = some (.stringIter namesB 0) ∧ Below w.heap.size w w0) := by
    rw [← hw0]
    exact ⟨World.iter_heap w namesB 0, (Below.refl _ _).alloc (Nat.le_refl _) _⟩
  obtain ⟨g, hgs⟩ : ∃ g, w.heap.size = g := ⟨_, rfl⟩
  have HGS := Lib.hid hgs
  have hr : ∀ t : TypeId, Try.prog.underlying t = some .string → (Instr.range t (.string namesB)).run Try.prog w = .ok (.pointer (some ⟨g, 0, none⟩)) w0 := fun t ht => by rw [← hw0, ← hgs]; exact run_range_string w t namesB ht
  have hr9 : (Instr.range 9 (.string ⟨#[34, 45, 48, 49, 50, 51, 52, 53, 54, 55, 56, 57, 97, 98, 99, 100, 101, 102, 103, 104, 105, 106, 107, 108, 109, 110, 111, 112, 113, 114, 115, 116, 117, 118, 119, 120, 121, 122]⟩)).run Try.prog w = .ok (.pointer (some ⟨g, 0, none⟩)) w0 := hr _ (by kernel_rfl)
  rw [hgs] at HST
  clear hr hw0 hgs
  go_enter Try.func18, Try.ntmps18
  go_wp2_with fail
  clear hr9
  go_loopw [3] (fun v3 wr => ∃ (i : Nat), v3 = .slice none 0 0 ∧ i ≤ 38 ∧ Hid (wr.heap[g]? = some (.stringIter namesB i) ∧ Below g w wr)) (fun _ wr => 38 - wr.iterPos g)
  case atStart => exact ⟨0, rfl, by omega, HST⟩
  case round =>
    obtain ⟨i, rfl, hi, hst⟩ := hrel
    clear HST
    have hit := hst.out.1
    have HP : Hid (wr.iterPos g = i) := by
      show _ = _
      unfold World.iterPos
      rw [hit]
    by_cases hlt : i < 38
    · obtain ⟨ha, hnm, hnb⟩ := namesB_at ⟨i, hlt⟩
      simp only at ha hnm hnb
      have hnx := fun ty => Lib.run_next_ascii_at (P := Try.prog) wr g namesB i ty hit (by rw [namesB_size]; exact hlt) ha
      rw [hnm] at hnx
      have hb1 := Lib.below_iterAt hst.out.2 (Nat.le_refl _) namesB (i + 1)
      have hi1 := Lib.iterAt_heap wr g namesB i (i + 1) hit
      obtain ⟨W1, hW1⟩ : ∃ W1, wr.iterAt g namesB (i + 1) = W1 := ⟨_, rfl⟩
      obtain ⟨nm, hnme⟩ : ∃ nm, namesH.getD i 0 = nm := ⟨_, rfl⟩
      rw [hW1] at hnx hb1 hi1
      rw [hnme] at hnx
      have HC : Hid (Calls Try.prog 11 #[.pointer none, .int .i32 nm] W1 fun e w2 => e = .returned (.tuple #[.agg #[.int .i64 0, .slice none 0 0], .int .i64 1]) ∧ Hid (∀ o, (w2.alloc o).heap[g]? = some (.stringIter namesB (i + 1)) ∧ Below g w (w2.alloc o))) := by
        refine (pget_nil nm W1).mono ?_
        rintro e w2 ⟨rfl, hb⟩
        refine ⟨rfl, fun o => ?_⟩
        have hb2 : Below W1.heap.size W1 (w2.alloc o) := hb.alloc hb.size _
        exact ⟨(hb2.block _ (heap_lt hi1)).trans hi1, hb1.trans (hb2.mono (by have := heap_lt hi1; omega))⟩
      have HI : Hid (∀ W, (W : World).heap[g]? = some (.stringIter namesB (i + 1)) → 38 - W.iterPos g < 38 - wr.iterPos g) := by
        intro W hW
        rw [HP.out]
        unfold World.iterPos
        rw [hW]
        show 38 - (i + 1) < 38 - i
        omega
      clear hb1 hi1 hnb hnm ha hit hst hW1 hnme HP
      go_wp2_with (go_at_call 11; (with_reducible refine HC.out.mono ?_); rintro e w2 ⟨rfl, HN⟩)
      go_roundw
      case rel => exact ⟨i + 1, rfl, by omega, HN.out _⟩
      case measure => exact HI.out _ (HN.out _).1
    · obtain rfl : i = 38 := by omega
      have hnx := fun ty => Lib.run_next_end_at (P := Try.prog) wr g namesB 38 ty hit (by rw [namesB_size]; omega)
      clear hit HP
      go_wp2_with fail
      go_ret
      exact ⟨rfl, by rw [HGS.out]; exact hst.out.2⟩
end Go.Proofs.Ytleidcegbfnmkaa.U
