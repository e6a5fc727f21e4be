/-
  The program's (area).of, (area).behind.
-/
import Derived.Test.YtfldjoiohejilaaKSet
import Derived.BigRegion
namespace Go.Proofs.Ytfldjoiohejilaa.U
open Go.RowKit
set_option linter.unusedVariables false
set_option linter.unusedSimpArgs false
set_option maxRecDepth 100000

theorem ret_tup2K {a b a' b' : Int} (h1 : a = a') (h2 : b = b') : Ending.returned (.tuple #[.int .i64 a, .int .i64 b]) = .returned (.tuple #[.int .i64 a', .int .i64 b']) := by rw [h1, h2]
/-- where an area's part of line i begins, ends -/
def agF (k : Int) (A : Pl) (lo i m : Nat) : Nat := if k = 0 then (if i = A.1 then A.2 else 0) else if k = 2 then min m lo else 0
def agT (k : Int) (B : Pl) (hi i m : Nat) : Nat := if k = 0 then (if i = B.1 then min m (B.2 + 1) else m) else if k = 2 then min m (hi + 1) else m
theorem agF_of (k : Int) (p q : Pl) (i m : Nat) : agF k (endsR p q).1 (min p.2 q.2) i m = ofF k p q i m := rfl
theorem agT_of (k : Int) (p q : Pl) (i m : Nat) : agT k (endsR p q).2 (max p.2 q.2) i m = ofT k p q i m := rfl
set_option maxHeartbeats 4000000 in
theorem kof_any (k : Int) (A B : Pl) (lo hi i m c : Nat) (a : Option Addr) (w : World) (hk1 : 0 ≤ k) (hk2 : k ≤ 2) (hm : m ≤ 9223372036854775807) (hB : B.2 ≤ 1099511627776) (hh : hi ≤ 1099511627776) :
    Calls Try.prog 78 #[areaV k A B lo hi, .slice a m c, .int .i64 (i : Nat)] w fun e w' => e = .returned (.tuple #[.int .i64 (agF k A lo i m : Nat), .int .i64 (agT k B hi i m : Nat)]) ∧ Below w.heap.size w w' := by
  obtain ⟨a1, a2⟩ := A
  obtain ⟨b1, b2⟩ := B
  simp only at hB
  unfold areaV
  simp only
  obtain ⟨wb, hwb⟩ : ∃ wb, w.alloc (.cells #[.int .i64 k, .int .i64 (a1 : Nat), .int .i64 (a2 : Nat), .int .i64 (b1 : Nat), .int .i64 (b2 : Nat), .int .i64 (lo : Nat), .int .i64 (hi : Nat)] 68) = wb := ⟨_, rfl⟩
  have g := heap_alloc_new w (.cells #[.int .i64 k, .int .i64 (a1 : Nat), .int .i64 (a2 : Nat), .int .i64 (b1 : Nat), .int .i64 (b2 : Nat), .int .i64 (lo : Nat), .int .i64 (hi : Nat)] 68)
  have hBl := bal w (.cells #[.int .i64 k, .int .i64 (a1 : Nat), .int .i64 (a2 : Nat), .int .i64 (b1 : Nat), .int .i64 (b2 : Nat), .int .i64 (lo : Nat), .int .i64 (hi : Nat)] 68)
  rw [hwb] at g hBl
  obtain ⟨g0, g1, g2, g3, g4, g5, g6, z0, z1, z2, z3, z4, z5, z6, zl⟩ := ArB.of g
  have HW := Lib.hid hwb
  obtain ⟨b, hbe⟩ : ∃ b, w.heap.size = b := ⟨_, rfl⟩
  have HBE := Lib.hid hbe
  rw [hbe] at g0 g1 g2 g3 g4 g5 g6 z0 z1 z2 z3 z4 z5 z6 zl hBl
  rw [hbe]
  have HB := Lib.hid hBl
  clear hwb g hBl hbe
  obtain ⟨fr, hfr⟩ : ∃ fr, agF k (a1, a2) lo i m = fr := ⟨_, rfl⟩
  obtain ⟨to_, hto⟩ : ∃ to_, agT k (b1, b2) hi i m = to_ := ⟨_, rfl⟩
  rw [hfr, hto]
  unfold agF at hfr
  unfold agT at hto
  simp only at hfr hto
  have hkk : k = 0 ∨ k = 1 ∨ k = 2 := by omega
  rcases hkk with rfl | rfl | rfl
  · rw [if_pos rfl] at hfr hto
    by_cases e1 : i = a1
    · rw [if_pos e1] at hfr
      subst e1
      have q1 : ((i : Int) == (i : Int)) = true := by simp
      by_cases e2 : i = b1
      · rw [if_pos e2] at hto
        subst e2
        have hmi : min (m : Int) ((b2 : Int) + 1) = (to_ : Int) := by omega
        have HF := Lib.hid hfr
        clear hfr hto
        go_enter Try.func78, Try.ntmps78
        go_upto_region 1 with fail
        rw [HBE.out, HW.out]
        go_wp2
        go_ret2
        exact ⟨ret_tup2K (by have := HF.out; omega) (by first | exact hmi | omega), HB.out⟩
      · rw [if_neg e2] at hto
        have q2 : ((i : Int) == (b1 : Int)) = false := by simp; omega
        have HF := Lib.hid (And.intro hfr hto)
        clear hfr hto
        go_enter Try.func78, Try.ntmps78
        go_upto_region 1 with fail
        rw [HBE.out, HW.out]
        go_wp2
        go_ret2
        exact ⟨ret_tup2K (by have := HF.out; omega) (by have := HF.out; omega), HB.out⟩
    · rw [if_neg e1] at hfr
      have q1 : ((i : Int) == (a1 : Int)) = false := by simp; omega
      by_cases e2 : i = b1
      · rw [if_pos e2] at hto
        subst e2
        have q2 : ((i : Int) == (i : Int)) = true := by simp
        have hmi : min (m : Int) ((b2 : Int) + 1) = (to_ : Int) := by omega
        have HF := Lib.hid hfr
        clear hfr hto
        go_enter Try.func78, Try.ntmps78
        go_upto_region 1 with fail
        rw [HBE.out, HW.out]
        go_wp2
        go_ret2
        exact ⟨ret_tup2K (by have := HF.out; omega) (by first | exact hmi | omega), HB.out⟩
      · rw [if_neg e2] at hto
        have q2 : ((i : Int) == (b1 : Int)) = false := by simp; omega
        have HF := Lib.hid (And.intro hfr hto)
        clear hfr hto
        go_enter Try.func78, Try.ntmps78
        go_upto_region 1 with fail
        rw [HBE.out, HW.out]
        go_wp2
        go_ret2
        exact ⟨ret_tup2K (by have := HF.out; omega) (by have := HF.out; omega), HB.out⟩
  · rw [if_neg (by decide), if_neg (by decide)] at hfr hto
    have HF := Lib.hid (And.intro hfr hto)
    clear hfr hto
    go_enter Try.func78, Try.ntmps78
    go_upto_region 1 with fail
    rw [HBE.out, HW.out]
    go_wp2
    go_ret2
    exact ⟨ret_tup2K (by have := HF.out; omega) (by have := HF.out; omega), HB.out⟩
  · rw [if_neg (by decide), if_pos rfl] at hfr hto
    have hmi : min (m : Int) (lo : Int) = (fr : Int) := by omega
    have hmj : min (m : Int) ((hi : Int) + 1) = (to_ : Int) := by omega
    clear hfr hto
    go_enter Try.func78, Try.ntmps78
    go_upto_region 1 with fail
    rw [HBE.out, HW.out]
    go_upto_region 9 with fail
    go_region
    all_goals
      go_wp2
      go_ret2
      exact ⟨ret_tup2K (by first | rfl | exact hmi | omega) (by first | rfl | exact hmj | omega), by first | exact HB.out | exact HB.out.drew⟩
set_option maxHeartbeats 4000000 in
theorem kbehind_any (F : Nat → Prop) (a : Option Addr) (n c : Nat) (M : List (List Int)) (k : Int) (p q : Pl) (w : World) (h : RdL F w a n c M) (hn : 0 < n) (hk1 : 0 ≤ k) (hk2 : k ≤ 2) (hp1 : p.1 ≤ 1048576) (hp2 : p.2 ≤ 1048576) (hq1 : q.1 ≤ 1048576) (hq2 : q.2 ≤ 1048576) :
    Calls Try.prog 49 #[areaV k (endsR p q).1 (endsR p q).2 (min p.2 q.2) (max p.2 q.2), .slice a n c] w fun e w' => e = .returned (plV (cutQ M p q k)) ∧ Below w.heap.size w w' := by
  have hl := h.len
  have hsm := h.small
  obtain ⟨C, hC⟩ : ∃ C, cutQ M p q k = C := ⟨_, rfl⟩
  rw [hC]
  unfold cutQ at hC
  rw [hl] at hC
  have hA : (endsR p q).1.1 ≤ 1048576 ∧ (endsR p q).1.2 ≤ 1048576 := by unfold endsR; split <;> exact ⟨by assumption, by assumption⟩
  obtain ⟨⟨⟨a1, a2⟩, ⟨b1, b2⟩⟩, hE⟩ : ∃ E, endsR p q = E := ⟨_, rfl⟩
  rw [hE] at hC hA ⊢
  obtain ⟨lo, hlo⟩ : ∃ lo, min p.2 q.2 = lo := ⟨_, rfl⟩
  obtain ⟨hi, hhi⟩ : ∃ hi, max p.2 q.2 = hi := ⟨_, rfl⟩
  rw [hlo] at hC ⊢
  rw [hhi]
  have hlob : lo ≤ 1048576 := by omega
  obtain ⟨hA1, hA2⟩ := hA
  simp only at hC hA1 hA2
  obtain ⟨c1, c2⟩ := C
  unfold areaV plV
  simp only
  obtain ⟨wb, hwb⟩ : ∃ wb, (w.alloc (.cells #[.int .i64 k, .int .i64 (a1 : Nat), .int .i64 (a2 : Nat), .int .i64 (b1 : Nat), .int .i64 (b2 : Nat), .int .i64 (lo : Nat), .int .i64 (hi : Nat)] 68)).alloc (.cells #[.int .i64 0, .int .i64 0] 24) = wb := ⟨_, rfl⟩
  obtain ⟨g1, g2⟩ := two_new w #[.int .i64 k, .int .i64 (a1 : Nat), .int .i64 (a2 : Nat), .int .i64 (b1 : Nat), .int .i64 (b2 : Nat), .int .i64 (lo : Nat), .int .i64 (hi : Nat)] #[.int .i64 0, .int .i64 0] 68 24 wb (by rw [← hwb]; exact Below.refl _ _)
  have hB : Below w.heap.size w wb := by rw [← hwb]; exact ((Below.refl _ _).alloc (Nat.le_refl _) _).alloc (by simp) _
  obtain ⟨u0, u1, u2, u3, u4, u5, u6, z0, z1, z2, z3, z4, z5, z6, zl⟩ := ArB.of g1
  have HCL : Hid (∀ (x y : Nat), x ≤ 1048576 → y ≤ 1048576 → ∀ W, W = wb → Calls Try.prog 53 #[.slice a n c, .agg #[.int .i64 (x : Nat), .int .i64 (y : Nat)]] W fun e w' => e = .returned (.agg #[.int .i64 ((clipP M (x : Int) (y : Int)).1 : Nat), .int .i64 ((clipP M (x : Int) (y : Int)).2 : Nat)]) ∧ ArP (w.heap.size + 1) w' ∧ Hid (Below w.heap.size w w')) := by
    rintro x y hx hy W rfl
    refine (wclip_any F a n c M ⟨(x : Int), (y : Int)⟩ W (h.below hB) ⟨⟨by show _ ≤ (x : Int); omega, by show (x : Int) ≤ _; omega⟩, ⟨by show _ ≤ (y : Int); omega, by show (y : Int) ≤ _; omega⟩⟩).mono ?_
    rintro e w' ⟨rfl, hb⟩
    exact ⟨rfl, ArP.of ((hb.block _ (heap_lt g2)).trans g2), hB.trans (hb.mono hB.size)⟩
  have HFR : Hid (∀ (x : Nat), x < n → ∀ W, W = wb → Calls Try.prog 82 #[.slice a n c, .int .i64 (x : Nat)] W fun e w' => e = .returned (.agg #[.int .i64 (x : Nat), .int .i64 (firstR (lnL M x) : Nat)]) ∧ ArP (w.heap.size + 1) w' ∧ Hid (Below w.heap.size w w')) := by
    rintro x hx W rfl
    refine (kfirst_any F a n c M x W (h.below hB) hx).mono ?_
    rintro e w' ⟨rfl, hb⟩
    exact ⟨rfl, ArP.of ((hb.block _ (heap_lt g2)).trans g2), hB.trans (hb.mono hB.size)⟩
  have HW := Lib.hid hwb
  obtain ⟨b, hbe⟩ : ∃ b, w.heap.size = b := ⟨_, rfl⟩
  have HBE := Lib.hid hbe
  rw [hbe] at u0 u1 u2 u3 u4 u5 u6 z0 z1 z2 z3 z4 z5 z6 zl HCL HFR
  rw [hbe]
  clear hwb g1 g2 hB hbe h hl hE hlo hhi
  have hkk : k = 0 ∨ k = 1 ∨ k = 2 := by omega
  rcases hkk with rfl | rfl | rfl
  · rw [if_neg (by decide), if_neg (by decide)] at hC
    have HD := Lib.hid (HCL.out a1 a2 hA1 hA2)
    rw [hC] at HD
    clear HCL HFR hC
    go_enter Try.func49, Try.ntmps49
    go_upto_region 1 with fail
    rw [HBE.out, HW.out]
    go_wp2_with (go_at_call 53; (refine (HD.out _ rfl).mono ?_); rintro e w2 ⟨rfl, ⟨p0, p1, p2, p3, p4⟩, HB2⟩)
    refine bodyPost_ret (v := .agg #[.int .i64 (c1 : Nat), .int .i64 (c2 : Nat)]) ?_ rfl ⟨rfl, ?_⟩
    · rw [results_cell1 rfl]
      go_simp
    · (try with_reducible refine Below.drew ?_)
      (repeat' (first | (with_reducible exact HB2.out) | (with_reducible refine setCell_below ?_ _ _ _ ?_) | omega))
  · rw [if_pos rfl] at hC
    have hmin : min (a1 : Int) ((n : Int) - 1) = (min a1 (n - 1) : Nat) := by omega
    have HD := Lib.hid (HFR.out (min a1 (n - 1)) (by omega))
    obtain ⟨X, hX⟩ : ∃ X, min a1 (n - 1) = X := ⟨_, rfl⟩
    rw [hX] at hC hmin HD
    have e1 : X = c1 := congrArg Prod.fst hC
    have e2 : firstR (lnL M X) = c2 := congrArg Prod.snd hC
    rw [e2] at HD
    subst e1
    clear HCL HFR hC hX e2
    go_enter Try.func49, Try.ntmps49
    go_upto_region 1 with fail
    rw [HBE.out, HW.out]
    go_wp2_with (go_at_call 82; (refine (HD.out _ rfl).mono ?_); rintro e w2 ⟨rfl, ⟨p0, p1, p2, p3, p4⟩, HB2⟩)
    refine bodyPost_ret (v := .agg #[.int .i64 (X : Nat), .int .i64 (c2 : Nat)]) ?_ rfl ⟨rfl, ?_⟩
    · rw [results_cell1 rfl]
      go_simp
    · (try with_reducible refine Below.drew ?_)
      (repeat' (first | (with_reducible exact HB2.out) | (with_reducible refine setCell_below ?_ _ _ _ ?_) | omega))
  · rw [if_neg (by decide), if_pos rfl] at hC
    have HD := Lib.hid (HCL.out a1 lo hA1 hlob)
    rw [hC] at HD
    clear HCL HFR hC
    go_enter Try.func49, Try.ntmps49
    go_upto_region 1 with fail
    rw [HBE.out, HW.out]
    go_wp2_with (go_at_call 53; (refine (HD.out _ rfl).mono ?_); rintro e w2 ⟨rfl, ⟨p0, p1, p2, p3, p4⟩, HB2⟩)
    refine bodyPost_ret (v := .agg #[.int .i64 (c1 : Nat), .int .i64 (c2 : Nat)]) ?_ rfl ⟨rfl, ?_⟩
    · rw [results_cell1 rfl]
      go_simp
    · (try with_reducible refine Below.drew ?_)
      (repeat' (first | (with_reducible exact HB2.out) | (with_reducible refine setCell_below ?_ _ _ _ ?_) | omega))
end Go.Proofs.Ytfldjoiohejilaa.U
