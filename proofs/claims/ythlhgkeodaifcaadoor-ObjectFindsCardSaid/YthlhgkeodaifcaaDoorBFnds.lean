/-
  The walk of ObjectFinds, over the program's Find (FindC: a premise).
-/
import Derived.Test.YthlhgkeodaifcaaDoorBFind
namespace Go.Proofs.YthlhgkeodaifcaaDoor.U
open Go.RowKit
set_option linter.unusedVariables false
set_option linter.unusedSimpArgs false
set_option maxRecDepth 100000

set_option maxHeartbeats 4000000 in
theorem objectFinds_wideM (HM : FindC 9) (a : Option Addr) (n c : Nat) (L : List (List Int)) (q : Po) (key : Int) (W : World) (h : RdL (fun k => k < W.heap.size) W a n c L) (hq : i64p q) (hkb : i32b key) (hw : WideL L) (hg : Gl W) :
    Calls Tryd.prog 3 #[.slice a n c, q.v, .int .i32 key] W fun e w' => e = .returned (.bool true) ∧ Below W.heap.size W w' := by
  obtain ⟨u, v⟩ := q
  show Calls Tryd.prog _ #[.slice a n c, .agg #[.int .i64 u, .int .i64 v], .int .i32 key] W _
  have hl := h.len
  have hsm0 := h.small
  obtain ⟨w1, hw1, hsz1, g1, hb1⟩ := lone W (.cells #[.int .i64 u, .int .i64 v] 24)
  have h1 := h.below hb1
  have HSM : Hid (Calls Tryd.prog 8 #[.slice a n c] w1 fun e w' => e = .returned (.bool (smallO L)) ∧ Below w1.heap.size w1 w') := smallO_any _ a n c L w1 h1 hw
  have HAW : Hid (∀ w' : World, Below W.heap.size W w' → Calls Tryd.prog 11 #[] w' fun e w2 => e = .returned (.bool true) ∧ Below w'.heap.size w' w2) := fun w' hb => awake_any HM w' (hg.up hb)
  have HGW := Lib.hid hg
  clear hg
  obtain ⟨x0, x1, xf0, xf1⟩ := row2 g1
  have HW1 := Lib.hid hw1
  have HB1 := Lib.hid hb1
  have G1 := Lib.hid g1
  obtain ⟨sm, hsm⟩ : ∃ sm, smallO L = sm := ⟨_, rfl⟩
  rw [hsm] at HSM
  cases sm with
  | false =>
    clear h h1 hw1 hb1 g1 hsm hl
    go_enter Tryd.func3, Tryd.ntmps3
    go_upto_region 1 with fail
    rw [HW1.out]
    go_wp2_with (go_at_call 8; refine HSM.out.mono ?_; rintro e w2 ⟨rfl, hb2⟩)
    go_ret
    exact ⟨rfl, btr HB1.out hb2⟩
  | true =>
    have hz := smallO_size hsm
    obtain ⟨cp, hcp⟩ : ∃ p, clipP L u v = p := ⟨_, rfl⟩
    have HF0 : Hid (∀ (ar : Bool) (W' : World), Below W.heap.size W W' → Calls Tryd.prog 9 #[.slice a n c, .agg #[.int .i64 u, .int .i64 v], .int .i32 key, .bool ar] W' fun e w' => e = .returned (fdV (fdR L cp key ar)) ∧ Below W'.heap.size W' w') := by
      intro ar W' hb
      have := HM _ a n c L ⟨u, v⟩ key ar W' (HGW.out.up hb) (h.below hb) hq hkb hz
      simp only [hcp] at this
      exact this
    have HF1 : Hid (∀ (ar : Bool) (W' : World), Below W.heap.size W W' → Calls Tryd.prog 10 #[.slice a n c, .agg #[.int .i64 u, .int .i64 v], .int .i32 key, .bool ar] W' fun e w' => e = .returned (fdV (fdR L cp key ar)) ∧ Below W'.heap.size W' w') := by
      intro ar W' hb
      have := rfind_any _ a n c L ⟨u, v⟩ key ar W' (HGW.out.up hb) (h.below hb) hq hkb hz
      simp only [hcp] at this
      exact this
    clear h h1 hw1 hb1 g1 hsm hl hz hcp hq hkb
    go_enter Tryd.func3, Tryd.ntmps3
    go_upto_region 1 with fail
    rw [HW1.out]
    go_wp2_with (go_at_call 8; refine HSM.out.mono ?_; rintro e w2 ⟨rfl, hb2⟩; have HB2 := Lib.hid hb2; clear hb2 x0 x1 xf0 xf1)
    go_loopw [7] (fun v7 wr => ∃ i : Nat, v7 = .int .i64 (i : Nat) ∧ i ≤ 2 ∧ Hid (Below W.heap.size W wr) ∧ Hid (wr.heap[W.heap.size]? = some (.cells #[.int .i64 u, .int .i64 v] 24 (0, 0)))) (fun v7 _ => 2 - (intOf v7).toNat)
    case atStart => exact ⟨0, rfl, by omega, btr HB1.out HB2.out, (HB2.out.block _ (Array.getElem?_eq_some_iff.1 G1.out).1).trans G1.out⟩
    case round =>
      obtain ⟨i, rfl, hi, HB, HG⟩ := hrel
      obtain ⟨x0, x1, -, -⟩ := row2 HG.out
      by_cases hi2 : i < 2
      · have d0 : (i : Int) < 2 := by omega
        have d1 : decide ((i : Int) < 2) = true := by simp; omega
        obtain ⟨bb, hbb⟩ : ∃ b, ((i : Int) == 1) = b := ⟨_, rfl⟩
        obtain ⟨⟨⟨a1, a2⟩, ⟨b1, b2⟩, k, ok⟩, hr⟩ : ∃ r, fdR L cp key bb = r := ⟨_, rfl⟩
        have HFA := Lib.hid (HF0.out bb)
        have HFB := Lib.hid (HF1.out bb)
        rw [hr] at HFA HFB
        unfold fdV plV at HFA HFB
        simp only at HFA HFB
        have HI := Lib.hid hi2
        clear hr hi2 hi
        go_upto_region 7 with (go_at_call 9; refine (HFA.out _ HB.out).mono ?_; rintro e w3 ⟨rfl, hb3⟩)
        obtain ⟨w4, hw4, hsz4, g5, g6, hb4⟩ := ltwo w3 (.cells #[.int .i64 (a1 : Nat), .int .i64 (a2 : Nat)] 24) (.cells #[.int .i64 (b1 : Nat), .int .i64 (b2 : Nat)] 24)
        rw [hw4]
        have hb34 := btr hb3 hb4
        have HB4 : Hid (Below W.heap.size W w4) := btr HB.out hb34
        have hg4 := (hb34.block _ (Array.getElem?_eq_some_iff.1 HG.out).1).trans HG.out
        obtain ⟨x0, x1, -, -⟩ := row2 hg4
        obtain ⟨S4, hS4⟩ : ∃ S, w3.heap.size = S := ⟨_, rfl⟩
        rw [hS4] at g5 g6
        rw [hS4]
        have G4 := Lib.hid hg4
        have GA := Lib.hid g5
        have GB := Lib.hid g6
        clear hw4 hsz4 g5 g6 hb4 hb3 hb34 hg4 hS4
        go_upto_region 8 with (go_at_call 10; refine (HFB.out _ HB4.out).mono ?_; rintro e w5 ⟨rfl, hb5⟩)
        obtain ⟨w6, hw6, hsz6, g7, g8, hb6⟩ := ltwo w5 (.cells #[.int .i64 (a1 : Nat), .int .i64 (a2 : Nat)] 24) (.cells #[.int .i64 (b1 : Nat), .int .i64 (b2 : Nat)] 24)
        rw [hw6]
        have hb46 := btr hb5 hb6
        have HB6 : Hid (Below W.heap.size W w6) := btr HB4.out hb46
        have HG6 := Lib.hid ((hb46.block _ (Array.getElem?_eq_some_iff.1 G4.out).1).trans G4.out)
        obtain ⟨p0, p1, -, -⟩ := row2 ((hb46.block _ (Array.getElem?_eq_some_iff.1 GA.out).1).trans GA.out)
        obtain ⟨q0, q1, -, -⟩ := row2 ((hb46.block _ (Array.getElem?_eq_some_iff.1 GB.out).1).trans GB.out)
        obtain ⟨r0, r1, -, -⟩ := row2 g7
        obtain ⟨s0, s1, -, -⟩ := row2 g8
        obtain ⟨S6, hS6⟩ : ∃ S, w5.heap.size = S := ⟨_, rfl⟩
        rw [hS6] at r0 r1 s0 s1
        rw [hS6]
        clear hw6 hsz6 g7 g8 hb6 hb5 hb46 hS6 x0 x1
        go_wp2_with fail
        go_roundw
        case rel => exact ⟨i + 1, by go_num, by have := HI.out; omega, HB6, HG6⟩
        case measure => have := HI.out; simp [intOf]; omega
      · have d0 : ¬ (i : Int) < 2 := by omega
        have d1 : decide ((i : Int) < 2) = false := by simp; omega
        clear hi2 hi
        go_wp2_with (go_at_call 11; refine (HAW.out _ HB.out).mono ?_; rintro e w9 ⟨rfl, hb9⟩)
        go_ret
        exact ⟨rfl, btr HB.out hb9⟩
end Go.Proofs.YthlhgkeodaifcaaDoor.U
