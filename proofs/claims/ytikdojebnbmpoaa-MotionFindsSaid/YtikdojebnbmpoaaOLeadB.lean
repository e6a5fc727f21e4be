/-
  Where the lines' motions lead: l, G, g, 0, ^, $. (MADE by wip/tools/gen_leadab.py.)
-/
import Derived.Test.YtikdojebnbmpoaaOLeadA
namespace Go.Proofs.Ytikdojebnbmpoaa.U
open Go.RowKit
set_option linter.unusedVariables false
set_option linter.unusedSimpArgs false
set_option maxRecDepth 100000

theorem begin_any (a : Option Addr) (n c l q : Nat) (t : Nat) (key cnt arg want : Int) (op : Bool) (w : World) :
    Calls Try.prog 25 #[askL a n c l q (t : Nat) key cnt arg want op] w fun e w' => e = .returned (.tuple #[plV (l, 0), .bool true]) ∧ Below w.heap.size w w' := by
  obtain ⟨w1, hw1, ha1⟩ := lead_start w (askO a n c l q (t : Nat) key cnt arg want op)
  obtain ⟨x0, x1, x2, x3, x4, x5, x6, x7, x8⟩ := ha1.cells
  obtain ⟨pv0, pv1, pc0, pc1, pz0, pz1⟩ := ha1.pos
  have HW1 := Lib.hid hw1
  have HA1 := Lib.hid ha1
  clear hw1 ha1
  go_enter Try.func25, Try.ntmps25
  go_upto_region 1 with fail
  rw [HW1.out]
  go_wp2_with (go_at_call 41; refine (inline_any _ _ _ _ _ _ _ _ _ _ _ _ _).mono ?_; rintro e w2 ⟨rfl, hb2⟩; have HA2 := Lib.hid (HA1.out.below hb2); obtain ⟨x0, x1, x2, x3, x4, x5, x6, x7, x8⟩ := HA2.out.cells; obtain ⟨pv0, pv1, pc0, pc1, pz0, pz1⟩ := HA2.out.pos)
  refine bodyPost_ret (v := .tuple #[.agg #[.int .i64 ((l : Nat)), .int .i64 (0)], .bool (true)]) ?_ rfl ⟨rfl, ?_⟩
  · rw [results_ct rfl]
    go_simp
  · exact (HA2.out.store _ _).1
theorem first0_any (F : Nat → Prop) (a : Option Addr) (n c l q : Nat) (t : Nat) (key cnt arg want : Int) (op : Bool) (L : List (List Int)) (w : World) (h : RdL F w a n c L) (hp : okP L (l, q)) (ht : (t : Int) ≤ 9223372036854775807) (ht1 : 1 ≤ t) :
    Calls Try.prog 26 #[askL a n c l q (t : Nat) key cnt arg want op] w fun e w' => e = .returned (.tuple #[plV (l, firstR (lnL L l)), .bool true]) ∧ Below w.heap.size w w' := by
  have hln : L.length = n := h.len
  have hl : l < n := by rw [← hln]; exact hp.1
  have hsm := h.small
  have hq : (q : Int) ≤ 9223372036854775807 := by
    have h2 := hp.2
    simp only at h2
    obtain ⟨b, off, ra, rc, -, -, -, -, -, hrd, -⟩ := h.get (Below.refl _ w) (List.getElem?_eq_getElem (l := L) (i := l) (by omega))
    have := hrd.small
    unfold lnL at h2
    rw [List.getD_eq_getElem?_getD, List.getElem?_eq_getElem (by omega)] at h2
    simp only [Option.getD_some] at h2
    omega
  have hx : L[l]? = some (lnL L l) := by unfold lnL; rw [List.getD_eq_getElem?_getD, List.getElem?_eq_getElem (by omega)]; rfl
  obtain ⟨p2, hpp⟩ : ∃ p, firstR (lnL L l) = p := ⟨_, rfl⟩
  have HE : Hid (∀ W, Below w.heap.size w W → Calls Try.prog 46 #[askL a n c l q (t : Nat) key cnt arg want op, .int .i64 (l : Nat), .bool true] W fun e w' => e = .returned (.tuple #[.agg #[.int .i64 (l : Nat), .int .i64 (p2 : Nat)], .bool true]) ∧ Below W.heap.size W w') := by
    intro W hW
    have := first_any F a n c l q t key cnt arg want op L l (lnL L l) true W (h.below hW) hx
    rw [hpp] at this
    exact this
  rw [hpp]
  clear h hp hpp hx hln
  obtain ⟨w1, hw1, ha1⟩ := lead_start w (askO a n c l q (t : Nat) key cnt arg want op)
  obtain ⟨x0, x1, x2, x3, x4, x5, x6, x7, x8⟩ := ha1.cells
  obtain ⟨pv0, pv1, pc0, pc1, pz0, pz1⟩ := ha1.pos
  have HW1 := Lib.hid hw1
  have HA1 := Lib.hid ha1
  clear hw1 ha1
  go_enter Try.func26, Try.ntmps26
  go_upto_region 1 with fail
  rw [HW1.out]
  go_wp2_with (go_at_call 46; refine (HE.out _ HA1.out.1).mono ?_; rintro e w2 ⟨rfl, hb2⟩; have HA2 := Lib.hid (HA1.out.below hb2); obtain ⟨x0, x1, x2, x3, x4, x5, x6, x7, x8⟩ := HA2.out.cells; obtain ⟨pv0, pv1, pc0, pc1, pz0, pz1⟩ := HA2.out.pos)
  refine bodyPost_ret (v := .tuple #[.agg #[.int .i64 ((l : Nat)), .int .i64 ((p2 : Nat))], .bool (true)]) ?_ rfl ⟨rfl, ?_⟩
  · rw [results_ct rfl]
    go_simp
  · exact (HA2.out.store _ _).1
theorem numbered_any (F : Nat → Prop) (a : Option Addr) (n c l q : Nat) (t : Nat) (key cnt arg want : Int) (op : Bool) (L : List (List Int)) (w : World) (h : RdL F w a n c L) (hp : okP L (l, q)) (ht : (t : Int) ≤ 9223372036854775807) (ht1 : 1 ≤ t) :
    Calls Try.prog 24 #[askL a n c l q (t : Nat) key cnt arg want op] w fun e w' => e = .returned (.tuple #[plV (min t L.length - 1, firstR (lnL L (min t L.length - 1))), .bool true]) ∧ Below w.heap.size w w' := by
  have hln : L.length = n := h.len
  have hl : l < n := by rw [← hln]; exact hp.1
  have hsm := h.small
  have hq : (q : Int) ≤ 9223372036854775807 := by
    have h2 := hp.2
    simp only at h2
    obtain ⟨b, off, ra, rc, -, -, -, -, -, hrd, -⟩ := h.get (Below.refl _ w) (List.getElem?_eq_getElem (l := L) (i := l) (by omega))
    have := hrd.small
    unfold lnL at h2
    rw [List.getD_eq_getElem?_getD, List.getElem?_eq_getElem (by omega)] at h2
    simp only [Option.getD_some] at h2
    omega
  rw [hln]
  have m0 := min_nat t n
  obtain ⟨s, hs⟩ : ∃ s, min t n = s := ⟨_, rfl⟩
  rw [hs] at m0 ⊢
  have hs1 : 1 ≤ s := by omega
  have hs2 : s ≤ n := by omega
  obtain ⟨d, hd⟩ : ∃ d, s - 1 = d := ⟨_, rfl⟩
  have m1 : (s : Int) - 1 = (d : Int) := by omega
  have m4 : IntKind.i64.wrap (d : Int) = (d : Int) := by rw [IntKind.wrap_i64]; omega
  rw [hd]
  have hx : L[d]? = some (lnL L d) := by unfold lnL; rw [List.getD_eq_getElem?_getD, List.getElem?_eq_getElem (by omega)]; rfl
  obtain ⟨p2, hpp⟩ : ∃ p, firstR (lnL L d) = p := ⟨_, rfl⟩
  have HE : Hid (∀ W, Below w.heap.size w W → Calls Try.prog 46 #[askL a n c l q (t : Nat) key cnt arg want op, .int .i64 (d : Nat), .bool true] W fun e w' => e = .returned (.tuple #[.agg #[.int .i64 (d : Nat), .int .i64 (p2 : Nat)], .bool true]) ∧ Below W.heap.size W w') := by
    intro W hW
    have := first_any F a n c l q t key cnt arg want op L d (lnL L d) true W (h.below hW) hx
    rw [hpp] at this
    exact this
  rw [hpp]
  clear h hp hpp hx hln hs hd hs1 hs2
  obtain ⟨w1, hw1, ha1⟩ := lead_start w (askO a n c l q (t : Nat) key cnt arg want op)
  obtain ⟨x0, x1, x2, x3, x4, x5, x6, x7, x8⟩ := ha1.cells
  obtain ⟨pv0, pv1, pc0, pc1, pz0, pz1⟩ := ha1.pos
  have HW1 := Lib.hid hw1
  have HA1 := Lib.hid ha1
  clear hw1 ha1
  go_enter Try.func24, Try.ntmps24
  go_upto_region 1 with fail
  rw [HW1.out]
  go_wp2_with (go_at_call 46; refine (HE.out _ HA1.out.1).mono ?_; rintro e w2 ⟨rfl, hb2⟩; have HA2 := Lib.hid (HA1.out.below hb2); obtain ⟨x0, x1, x2, x3, x4, x5, x6, x7, x8⟩ := HA2.out.cells; obtain ⟨pv0, pv1, pc0, pc1, pz0, pz1⟩ := HA2.out.pos)
  refine bodyPost_ret (v := .tuple #[.agg #[.int .i64 ((d : Nat)), .int .i64 ((p2 : Nat))], .bool (true)]) ?_ rfl ⟨rfl, ?_⟩
  · rw [results_ct rfl]
    go_simp
  · exact (HA2.out.store _ _).1
theorem last_any (F : Nat → Prop) (a : Option Addr) (n c l q : Nat) (t : Nat) (key cnt arg want : Int) (op : Bool) (L : List (List Int)) (w : World) (h : RdL F w a n c L) (hp : okP L (l, q)) (ht : (t : Int) ≤ 9223372036854775807) (ht1 : 1 ≤ t) (hc : cnt ≤ 0) :
    Calls Try.prog 23 #[askL a n c l q (t : Nat) key cnt arg want op] w fun e w' => e = .returned (.tuple #[plV (L.length - 1, firstR (lnL L (L.length - 1))), .bool true]) ∧ Below w.heap.size w w' := by
  have hln : L.length = n := h.len
  have hl : l < n := by rw [← hln]; exact hp.1
  have hsm := h.small
  have hq : (q : Int) ≤ 9223372036854775807 := by
    have h2 := hp.2
    simp only at h2
    obtain ⟨b, off, ra, rc, -, -, -, -, -, hrd, -⟩ := h.get (Below.refl _ w) (List.getElem?_eq_getElem (l := L) (i := l) (by omega))
    have := hrd.small
    unfold lnL at h2
    rw [List.getD_eq_getElem?_getD, List.getElem?_eq_getElem (by omega)] at h2
    simp only [Option.getD_some] at h2
    omega
  rw [hln]
  obtain ⟨d, hd⟩ : ∃ d, n - 1 = d := ⟨_, rfl⟩
  have m1 : (n : Int) - 1 = (d : Int) := by omega
  have m4 : IntKind.i64.wrap (d : Int) = (d : Int) := by rw [IntKind.wrap_i64]; omega
  have m5 : decide (cnt ≤ 0) = true := by simp [hc]
  rw [hd]
  have hx : L[d]? = some (lnL L d) := by unfold lnL; rw [List.getD_eq_getElem?_getD, List.getElem?_eq_getElem (by omega)]; rfl
  obtain ⟨p2, hpp⟩ : ∃ p, firstR (lnL L d) = p := ⟨_, rfl⟩
  have HE : Hid (∀ W, Below w.heap.size w W → Calls Try.prog 46 #[askL a n c l q (t : Nat) key cnt arg want op, .int .i64 (d : Nat), .bool true] W fun e w' => e = .returned (.tuple #[.agg #[.int .i64 (d : Nat), .int .i64 (p2 : Nat)], .bool true]) ∧ Below W.heap.size W w') := by
    intro W hW
    have := first_any F a n c l q t key cnt arg want op L d (lnL L d) true W (h.below hW) hx
    rw [hpp] at this
    exact this
  rw [hpp]
  clear h hp hpp hx hln hd
  obtain ⟨w1, hw1, ha1⟩ := lead_start w (askO a n c l q (t : Nat) key cnt arg want op)
  obtain ⟨x0, x1, x2, x3, x4, x5, x6, x7, x8⟩ := ha1.cells
  obtain ⟨pv0, pv1, pc0, pc1, pz0, pz1⟩ := ha1.pos
  have HW1 := Lib.hid hw1
  have HA1 := Lib.hid ha1
  clear hw1 ha1
  go_enter Try.func23, Try.ntmps23
  go_upto_region 1 with fail
  rw [HW1.out]
  go_wp2_with (go_at_call 46; refine (HE.out _ HA1.out.1).mono ?_; rintro e w2 ⟨rfl, hb2⟩; have HA2 := Lib.hid (HA1.out.below hb2); obtain ⟨x0, x1, x2, x3, x4, x5, x6, x7, x8⟩ := HA2.out.cells; obtain ⟨pv0, pv1, pc0, pc1, pz0, pz1⟩ := HA2.out.pos)
  refine bodyPost_ret (v := .tuple #[.agg #[.int .i64 ((d : Nat)), .int .i64 ((p2 : Nat))], .bool (true)]) ?_ rfl ⟨rfl, ?_⟩
  · rw [results_ct rfl]
    go_simp
  · exact (HA2.out.store _ _).1
theorem count_any (F : Nat → Prop) (a : Option Addr) (n c l q : Nat) (t : Nat) (key cnt arg want : Int) (op : Bool) (L : List (List Int)) (w : World) (h : RdL F w a n c L) (hp : okP L (l, q)) (ht : (t : Int) ≤ 9223372036854775807) (ht1 : 1 ≤ t) (hc : ¬ cnt ≤ 0) :
    Calls Try.prog 23 #[askL a n c l q (t : Nat) key cnt arg want op] w fun e w' => e = .returned (.tuple #[plV (min t L.length - 1, firstR (lnL L (min t L.length - 1))), .bool true]) ∧ Below w.heap.size w w' := by
  obtain ⟨⟨p1, p2⟩, hpp⟩ : ∃ p : Pl, (min t L.length - 1, firstR (lnL L (min t L.length - 1))) = p := ⟨_, rfl⟩
  have HE : Hid (∀ W, Below w.heap.size w W → Calls Try.prog 24 #[askL a n c l q (t : Nat) key cnt arg want op] W fun e w' => e = .returned (.tuple #[.agg #[.int .i64 (p1 : Nat), .int .i64 (p2 : Nat)], .bool true]) ∧ Below W.heap.size W w') := by
    intro W hW
    have := numbered_any F a n c l q t key cnt arg want op L W (h.below hW) hp ht ht1
    rw [hpp] at this
    exact this
  rw [hpp]
  have m5 : decide (cnt ≤ 0) = false := by simp; omega
  clear h hp hpp
  obtain ⟨w1, hw1, ha1⟩ := lead_start w (askO a n c l q (t : Nat) key cnt arg want op)
  obtain ⟨x0, x1, x2, x3, x4, x5, x6, x7, x8⟩ := ha1.cells
  obtain ⟨pv0, pv1, pc0, pc1, pz0, pz1⟩ := ha1.pos
  have HW1 := Lib.hid hw1
  have HA1 := Lib.hid ha1
  clear hw1 ha1
  go_enter Try.func23, Try.ntmps23
  go_upto_region 1 with fail
  rw [HW1.out]
  go_wp2_with (go_at_call 24; refine (HE.out _ HA1.out.1).mono ?_; rintro e w2 ⟨rfl, hb2⟩; have HA2 := Lib.hid (HA1.out.below hb2); obtain ⟨x0, x1, x2, x3, x4, x5, x6, x7, x8⟩ := HA2.out.cells; obtain ⟨pv0, pv1, pc0, pc1, pz0, pz1⟩ := HA2.out.pos)
  refine bodyPost_ret (v := .tuple #[.agg #[.int .i64 ((p1 : Nat)), .int .i64 ((p2 : Nat))], .bool (true)]) ?_ rfl ⟨rfl, ?_⟩
  · rw [results_ct rfl]
    go_simp
  · exact (HA2.out.store _ _).1
theorem orLast_any (F : Nat → Prop) (a : Option Addr) (n c l q : Nat) (t : Nat) (key cnt arg want : Int) (op : Bool) (L : List (List Int)) (w : World) (h : RdL F w a n c L) (hp : okP L (l, q)) (ht : (t : Int) ≤ 9223372036854775807) (ht1 : 1 ≤ t) :
    Calls Try.prog 23 #[askL a n c l q (t : Nat) key cnt arg want op] w fun e w' => e = .returned (.tuple #[plV ((if cnt ≤ 0 then L.length - 1 else min t L.length - 1), firstR (lnL L (if cnt ≤ 0 then L.length - 1 else min t L.length - 1))), .bool true]) ∧ Below w.heap.size w w' := by
  by_cases hc : cnt ≤ 0
  · rw [if_pos hc]; exact last_any F a n c l q t key cnt arg want op L w h hp ht ht1 hc
  · rw [if_neg hc]; exact count_any F a n c l q t key cnt arg want op L w h hp ht ht1 hc
set_option maxHeartbeats 1000000 in
theorem end_any (F : Nat → Prop) (a : Option Addr) (n c l q : Nat) (t : Nat) (key cnt arg want : Int) (op : Bool) (L : List (List Int)) (w : World) (h : RdL F w a n c L) (hp : okP L (l, q)) (ht : (t : Int) ≤ 9223372036854775807) (ht1 : 1 ≤ t) (hz : sizeN (lens L) ≤ 262144) :
    Calls Try.prog 27 #[askL a n c l q (t : Nat) key cnt arg want op] w fun e w' => e = .returned (.tuple #[plV ((dnL n l (t - 1)).1, (lnL L (dnL n l (t - 1)).1).length - 1), .bool (dnL n l (t - 1)).2]) ∧ Below w.heap.size w w' := by
  have hln : L.length = n := h.len
  have hl : l < n := by rw [← hln]; exact hp.1
  have hsm := h.small
  have hq : (q : Int) ≤ 9223372036854775807 := by
    have h2 := hp.2
    simp only at h2
    obtain ⟨b, off, ra, rc, -, -, -, -, -, hrd, -⟩ := h.get (Below.refl _ w) (List.getElem?_eq_getElem (l := L) (i := l) (by omega))
    have := hrd.small
    unfold lnL at h2
    rw [List.getD_eq_getElem?_getD, List.getElem?_eq_getElem (by omega)] at h2
    simp only [Option.getD_some] at h2
    omega
  obtain ⟨v, hv⟩ : ∃ v, t - 1 = v := ⟨_, rfl⟩
  have m1 : (t : Int) - 1 = (v : Int) := by omega
  have m4 : IntKind.i64.wrap (v : Int) = (v : Int) := by rw [IntKind.wrap_i64]; omega
  rw [hv]
  have hlt : (dnL n l v).1 < n := dnL_lt v hl
  have HD : Hid (∀ W, Calls Try.prog 44 #[askL a n c l q (t : Nat) key cnt arg want op, .int .i64 (v : Nat)] W fun e w' => e = .returned (.tuple #[.int .i64 ((dnL n l v).1 : Nat), .bool (dnL n l v).2]) ∧ Below W.heap.size W w') := fun W => down_any a n c l q t key cnt arg want op v W hsm hl
  obtain ⟨⟨tl, tb⟩, htl⟩ : ∃ y, dnL n l v = y := ⟨_, rfl⟩
  rw [htl] at HD hlt ⊢
  simp only at HD hlt ⊢
  obtain ⟨t1, ht1'⟩ : ∃ t1, tl + 1 = t1 := ⟨_, rfl⟩
  have m6 : (tl : Int) + 1 = (t1 : Int) := by omega
  have m7 : t1 ≤ c := by have := h; obtain ⟨vs, h1, -⟩ := this; have := h1.2.1; omega
  have m8 : c ≤ 9223372036854775807 := by obtain ⟨vs, h1, -⟩ := h; have := h1.2.2.1; unfold maxLen at this; omega
  have m9 : (t1 : Int) ≤ 9223372036854775807 := by omega
  have mA : IntKind.i64.wrap (t1 : Int) = (t1 : Int) := by rw [IntKind.wrap_i64]; omega
  obtain ⟨p2, hpp⟩ : ∃ p, (lnL L tl).length - 1 = p := ⟨_, rfl⟩
  have HE : Hid (∀ W, Below w.heap.size w W → Calls Try.prog 47 #[.slice a t1 c] W fun e w' => e = .returned (.agg #[.int .i64 (tl : Nat), .int .i64 (p2 : Nat)]) ∧ Below W.heap.size W w') := by
    intro W hW
    have := wlast_any F a t1 c (L.take t1) W ((h.take t1 (by omega)).below hW) (by rw [lens_take]; exact Nat.le_trans (sizeN_take_le _ _) hz)
    rw [last_take (by omega) (by omega), show t1 - 1 = tl by omega, hpp] at this
    exact this
  rw [hpp]
  obtain ⟨b, off, rfl, -⟩ := h.at_ (by omega)
  clear h hp hpp hln htl hv ht1' hz
  obtain ⟨w1, hw1, ha1⟩ := lead_start w (askO (some ⟨b, off, none⟩) n c l q (t : Nat) key cnt arg want op)
  obtain ⟨x0, x1, x2, x3, x4, x5, x6, x7, x8⟩ := ha1.cells
  obtain ⟨pv0, pv1, pc0, pc1, pz0, pz1⟩ := ha1.pos
  have HW1 := Lib.hid hw1
  have HA1 := Lib.hid ha1
  clear hw1 ha1
  go_enter Try.func27, Try.ntmps27
  go_upto_region 1 with fail
  rw [HW1.out]
  go_wp2_with (first
    | (go_at_call 44; refine (HD.out _).mono ?_; rintro e w2 ⟨rfl, hb2⟩; have HA2 := Lib.hid (HA1.out.below hb2); obtain ⟨x0, x1, x2, x3, x4, x5, x6, x7, x8⟩ := HA2.out.cells; obtain ⟨pv0, pv1, pc0, pc1, pz0, pz1⟩ := HA2.out.pos)
    | (go_at_call 47; refine (HE.out _ HA2.out.1).mono ?_; rintro e w3 ⟨rfl, hb3⟩; have HA3 := Lib.hid (HA2.out.below hb3); obtain ⟨x0, x1, x2, x3, x4, x5, x6, x7, x8⟩ := HA3.out.cells; obtain ⟨pv0, pv1, pc0, pc1, pz0, pz1⟩ := HA3.out.pos))
  refine bodyPost_ret (v := .tuple #[.agg #[.int .i64 ((tl : Nat)), .int .i64 ((p2 : Nat))], .bool (tb)]) ?_ rfl ⟨rfl, ?_⟩
  · rw [results_ct rfl]
    go_simp
  · exact (HA3.out.store _ _).1
set_option maxHeartbeats 1000000 in
theorem right_true (F : Nat → Prop) (a : Option Addr) (n c l q : Nat) (t : Nat) (key cnt arg want : Int) (L : List (List Int)) (w : World) (h : RdL F w a n c L) (hp : okP L (l, q)) (ht : (t : Int) ≤ 9223372036854775807) (ht1 : 1 ≤ t) (m : Nat) (hm : (lnL L l).length = m) :
    Calls Try.prog 17 #[askL a n c l q (t : Nat) key cnt arg want true] w fun e w' => e = .returned (.tuple #[.agg #[.int .i64 (l : Nat), .int .i64 ((q : Int) + min (t : Int) ((m : Int) - (q : Int)))], .bool (decide (0 < (m : Int) - (q : Int)))]) ∧ Below w.heap.size w w' := by
  have hln : L.length = n := h.len
  have hl : l < n := by rw [← hln]; exact hp.1
  have hsm := h.small
  have hq := hp.2
  simp only at hq
  rw [hm] at hq
  have hx : L[l]? = some (lnL L l) := by unfold lnL; rw [List.getD_eq_getElem?_getD, List.getElem?_eq_getElem (by omega)]; rfl
  obtain ⟨ra, rc, hrd, hh⟩ := here_any F a n c l q t key cnt arg want true L (lnL L l) w h hx
  have hms := hrd.small
  rw [hm] at hh hms
  have HH := Lib.hid hh
  obtain ⟨r, hr⟩ : ∃ r, (m : Int) - (q : Int) = r := ⟨_, rfl⟩
  obtain ⟨s, hs⟩ : ∃ s, min (t : Int) r = s := ⟨_, rfl⟩
  obtain ⟨v, hv⟩ : ∃ v, (q : Int) + s = v := ⟨_, rfl⟩
  obtain ⟨b, hb⟩ : ∃ b, decide (0 < r) = b := ⟨_, rfl⟩
  have k1 : IntKind.i64.wrap r = r := by rw [IntKind.wrap_i64]; omega
  have k2 : IntKind.i64.wrap v = v := by rw [IntKind.wrap_i64]; omega
  have k3 : IntKind.i64.wrap ((m : Int) - 1) = (m : Int) - 1 := by rw [IntKind.wrap_i64]; omega
  rw [hr, hs, hv, hb]
  clear h hp hx hrd hh hln hm
  obtain ⟨w1, hw1, ha1⟩ := lead_start w (askO a n c l q (t : Nat) key cnt arg want true)
  obtain ⟨x0, x1, x2, x3, x4, x5, x6, x7, x8⟩ := ha1.cells
  obtain ⟨pv0, pv1, pc0, pc1, pz0, pz1⟩ := ha1.pos
  have HW1 := Lib.hid hw1
  have HA1 := Lib.hid ha1
  clear hw1 ha1
  go_enter Try.func17, Try.ntmps17
  go_upto_region 1 with fail
  rw [HW1.out]
  go_wp2_with (first
    | (go_at_call 42; refine (HH.out _ HA1.out.1).mono ?_; rintro e w2 ⟨rfl, hb2⟩; have HA2 := Lib.hid (HA1.out.below hb2); obtain ⟨x0, x1, x2, x3, x4, x5, x6, x7, x8⟩ := HA2.out.cells; obtain ⟨pv0, pv1, pc0, pc1, pz0, pz1⟩ := HA2.out.pos)
    | (go_at_call 41; refine (inline_any _ _ _ _ _ _ _ _ _ _ _ _ _).mono ?_; rintro e w3 ⟨rfl, hb3⟩; have HA3 := Lib.hid (HA2.out.below hb3); obtain ⟨x0, x1, x2, x3, x4, x5, x6, x7, x8⟩ := HA3.out.cells; obtain ⟨pv0, pv1, pc0, pc1, pz0, pz1⟩ := HA3.out.pos))
  refine bodyPost_ret (v := .tuple #[.agg #[.int .i64 ((l : Nat)), .int .i64 (v)], .bool (b)]) ?_ rfl ⟨rfl, ?_⟩
  · rw [results_ct rfl]
    go_simp
  · exact (HA3.out.store _ _).1
set_option maxHeartbeats 1000000 in
theorem right_false (F : Nat → Prop) (a : Option Addr) (n c l q : Nat) (t : Nat) (key cnt arg want : Int) (L : List (List Int)) (w : World) (h : RdL F w a n c L) (hp : okP L (l, q)) (ht : (t : Int) ≤ 9223372036854775807) (ht1 : 1 ≤ t) (m : Nat) (hm : (lnL L l).length = m) :
    Calls Try.prog 17 #[askL a n c l q (t : Nat) key cnt arg want false] w fun e w' => e = .returned (.tuple #[.agg #[.int .i64 (l : Nat), .int .i64 ((q : Int) + min (t : Int) ((m : Int) - 1 - (q : Int)))], .bool (decide (0 < (m : Int) - 1 - (q : Int)))]) ∧ Below w.heap.size w w' := by
  have hln : L.length = n := h.len
  have hl : l < n := by rw [← hln]; exact hp.1
  have hsm := h.small
  have hq := hp.2
  simp only at hq
  rw [hm] at hq
  have hx : L[l]? = some (lnL L l) := by unfold lnL; rw [List.getD_eq_getElem?_getD, List.getElem?_eq_getElem (by omega)]; rfl
  obtain ⟨ra, rc, hrd, hh⟩ := here_any F a n c l q t key cnt arg want false L (lnL L l) w h hx
  have hms := hrd.small
  rw [hm] at hh hms
  have HH := Lib.hid hh
  obtain ⟨r, hr⟩ : ∃ r, (m : Int) - 1 - (q : Int) = r := ⟨_, rfl⟩
  obtain ⟨s, hs⟩ : ∃ s, min (t : Int) r = s := ⟨_, rfl⟩
  obtain ⟨v, hv⟩ : ∃ v, (q : Int) + s = v := ⟨_, rfl⟩
  obtain ⟨b, hb⟩ : ∃ b, decide (0 < r) = b := ⟨_, rfl⟩
  have k1 : IntKind.i64.wrap r = r := by rw [IntKind.wrap_i64]; omega
  have k2 : IntKind.i64.wrap v = v := by rw [IntKind.wrap_i64]; omega
  have k3 : IntKind.i64.wrap ((m : Int) - 1) = (m : Int) - 1 := by rw [IntKind.wrap_i64]; omega
  rw [hr, hs, hv, hb]
  clear h hp hx hrd hh hln hm
  obtain ⟨w1, hw1, ha1⟩ := lead_start w (askO a n c l q (t : Nat) key cnt arg want false)
  obtain ⟨x0, x1, x2, x3, x4, x5, x6, x7, x8⟩ := ha1.cells
  obtain ⟨pv0, pv1, pc0, pc1, pz0, pz1⟩ := ha1.pos
  have HW1 := Lib.hid hw1
  have HA1 := Lib.hid ha1
  clear hw1 ha1
  go_enter Try.func17, Try.ntmps17
  go_upto_region 1 with fail
  rw [HW1.out]
  go_wp2_with (first
    | (go_at_call 42; refine (HH.out _ HA1.out.1).mono ?_; rintro e w2 ⟨rfl, hb2⟩; have HA2 := Lib.hid (HA1.out.below hb2); obtain ⟨x0, x1, x2, x3, x4, x5, x6, x7, x8⟩ := HA2.out.cells; obtain ⟨pv0, pv1, pc0, pc1, pz0, pz1⟩ := HA2.out.pos)
    | (go_at_call 41; refine (inline_any _ _ _ _ _ _ _ _ _ _ _ _ _).mono ?_; rintro e w3 ⟨rfl, hb3⟩; have HA3 := Lib.hid (HA2.out.below hb3); obtain ⟨x0, x1, x2, x3, x4, x5, x6, x7, x8⟩ := HA3.out.cells; obtain ⟨pv0, pv1, pc0, pc1, pz0, pz1⟩ := HA3.out.pos))
  refine bodyPost_ret (v := .tuple #[.agg #[.int .i64 ((l : Nat)), .int .i64 (v)], .bool (b)]) ?_ rfl ⟨rfl, ?_⟩
  · rw [results_ct rfl]
    go_simp
  · exact (HA3.out.store _ _).1
end Go.Proofs.Ytikdojebnbmpoaa.U
